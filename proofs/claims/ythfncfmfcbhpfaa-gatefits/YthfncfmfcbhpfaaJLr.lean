import Derived.Test.YthfncfmfcbhpfaaLKept
import Derived.Test.YthfncfmfcbhpfaaLSame
import Derived.Test.YthfncfmfcbhpfaaJFi
import Derived.Deep.RegionHeld3
namespace Go.Proofs.Ythfncfmfcbhpfaa
open Go.RowKit Go.WideShapes
set_option maxRecDepth 100000
theorem Try.infoWr : (Try.prog.info? 38).map (fun i => (i.zero, i.size, i.bytes)) = some (some (.agg #[.int .u32 0, .slice none 0 0]), 2, 32) := by kernel_rfl
theorem Try.infoBs : (Try.prog.info? 35).map (fun i => (i.zero, i.size, i.bytes)) = some (some (.slice none 0 0), 1, 24) := by kernel_rfl
/-- a write that is handed in: its place, where its bytes lie, the bytes, the room -/
abbrev RW := Nat × Option Addr × List Int × Nat
def rw0 : RW := (0, none, [], 0)
/-- writes that are read, with their bytes -/
def RsR (w : World) (ao : Option Addr) (WS : List RW) (B : Nat) : Prop :=
  (0 < WS.length → ∃ b off, ao = some ⟨b, off, none⟩ ∧ b < B ∧ ∀ j, j < WS.length → w.cell? ⟨b, off + j * 2, none⟩ = some (.int .u32 ((WS.getD j rw0).1 : Nat)) ∧ w.cell? ⟨b, off + j * 2 + 1, none⟩ = some (.slice (WS.getD j rw0).2.1 (WS.getD j rw0).2.2.1.length (WS.getD j rw0).2.2.2))
    ∧ ∀ j, j < WS.length → Reads w (WS.getD j rw0).2.1 (WS.getD j rw0).2.2.1 B ∧ (WS.getD j rw0).2.2.1.length ≤ 140737488351232 ∧ (WS.getD j rw0).2.2.1.length ≤ (WS.getD j rw0).2.2.2
theorem RsR.below {w w' : World} {ao : Option Addr} {WS : List RW} {B : Nat} (h : RsR w ao WS B) (hb : Below B w w') : RsR w' ao WS B := by
  refine ⟨fun hl => ?_, fun j hj => ⟨(h.2 j hj).1.below hb, (h.2 j hj).2⟩⟩
  obtain ⟨b, off, e, hlt, hc⟩ := h.1 hl
  exact ⟨b, off, e, hlt, fun j hj => ⟨(hb.cell (p := ⟨b, off + j * 2, none⟩) hlt).trans (hc j hj).1, (hb.cell (p := ⟨b, off + j * 2 + 1, none⟩) hlt).trans (hc j hj).2⟩⟩
theorem RsR.mono {w : World} {ao : Option Addr} {WS : List RW} {B C : Nat} (h : RsR w ao WS B) (hb : B ≤ C) : RsR w ao WS C := by
  refine ⟨fun hl => ?_, fun j hj => ⟨(h.2 j hj).1.mono hb, (h.2 j hj).2⟩⟩
  obtain ⟨b, off, e, hlt, hc⟩ := h.1 hl
  exact ⟨b, off, e, by omega, hc⟩
def csOf (WS : List RW) : List WCell := WS.map fun p => (p.1, p.2.1, p.2.2.1.length, p.2.2.2)
theorem csOf_len (WS : List RW) : (csOf WS).length = WS.length := by simp [csOf]
theorem csOf_get (WS : List RW) (j : Nat) (h : j < WS.length) : (csOf WS).getD j wc0 = ((WS.getD j rw0).1, (WS.getD j rw0).2.1, (WS.getD j rw0).2.2.1.length, (WS.getD j rw0).2.2.2) := by
  simp [csOf, List.getD, List.getElem?_eq_getElem h]
theorem RsR.cells {w : World} {ao : Option Addr} {WS : List RW} {B : Nat} (h : RsR w ao WS B) : WcC w ao (csOf WS) B := by
  intro hl
  rw [csOf_len] at hl
  obtain ⟨b, off, e, hlt, hc⟩ := h.1 hl
  refine ⟨b, off, e, hlt, fun j hj => ?_⟩
  rw [csOf_len] at hj
  rw [csOf_get _ _ hj]
  exact hc j hj
/-- a write that was lent: its place, its bytes, the block of its bytes, the room there -/
abbrev LE := Nat × List Int × Nat × Nat
def fullV (E : List LE) : List Value := E.map fun e => .slice (some ⟨e.2.2.1, 0, none⟩) (e.2.1.length + 64) e.2.2.2
def wrV : List LE → List Value
  | [] => []
  | e :: E => .int .u32 (e.1 : Nat) :: .slice (some ⟨e.2.2.1, 0, none⟩) e.2.1.length e.2.2.2 :: wrV E
def mkV : Nat → List Value
  | 0 => []
  | n + 1 => mkV n ++ [.int .u32 (77 + n : Nat), .slice none 0 0]
theorem wrV_append : ∀ (E F : List LE), wrV (E ++ F) = wrV E ++ wrV F
  | [], F => rfl
  | p :: L, M => by simp only [List.cons_append, wrV, wrV_append L M]
theorem fullV_len (E : List LE) : (fullV E).length = E.length := by simp [fullV]
theorem wrV_len : ∀ (E : List LE), (wrV E).length = E.length * 2
  | [] => rfl
  | e :: E => by simp only [wrV, List.length_cons, wrV_len E]; omega
theorem mkV_len : ∀ n, (mkV n).length = n * 2
  | 0 => rfl
  | n + 1 => by simp only [mkV, List.length_append, mkV_len n, List.length_cons, List.length_nil]; omega
/-- the rows of what was lent -/
def RowsE (B : Nat) (E : List LE) (w : World) : Prop := ∀ e ∈ E, w.ownsRow B 5 1 (.slice (some ⟨e.2.2.1, 0, none⟩) (e.2.1.length + 64) e.2.2.2) (e.2.1.length + 64) (bv (e.2.1 ++ marks 0 64))
theorem lr_type {w : World} {B B' e e' s s' n n' : Nat} {v v' : Value} {xs xs' : List Value} (he : e ≠ e') (h : w.ownsRow B e s v n xs) (h' : w.ownsRow B' e' s' v' n' xs') : v.ownBlock = none ∨ v.ownBlock ≠ v'.ownBlock := by
  rcases h.2 with ⟨rfl, _⟩ | ⟨g, cap, cur, rfl, _, hg, _⟩
  · exact .inl rfl
  · right
    rcases h'.2 with ⟨rfl, _⟩ | ⟨g', cap', cur', rfl, _, hg', _⟩
    · simp [Value.ownBlock]
    · intro e1
      simp only [Value.ownBlock, Option.some.injEq] at e1
      subst e1
      rw [hg] at hg'
      simp only [Option.some.injEq, Obj.cells.injEq] at hg'
      exact he hg'.2.1
theorem RowsE.below {B : Nat} {E : List LE} {w w' : World} (h : RowsE B E w) (hb : Below w.heap.size w w') : RowsE B E w' := fun e he => own_below (h e he) hb
theorem RowsE.grown {B B' t s n : Nat} {E : List LE} {w w' : World} {v : Value} {xs : List Value} (h : RowsE B E w) (ho : w.ownsRow B' t s v n xs) (ht : t ≠ 5) (hg : w.grownBy w' v.ownBlock) : RowsE B E w' :=
  fun e he => (h e he).kept hg (lr_type (Ne.symm ht) (h e he) ho)
theorem RowsE.set {B : Nat} {E : List LE} {w : World} (h : RowsE B E w) (b i : Nat) (u : Value) (hb : b < B) : RowsE B E (w.setCell ⟨b, i, none⟩ u) := fun e he => ownsRow_setCell_below (h e he) hb u
/-- what abides while a reply is lent -/
structure LrS (w : World) (v : Int) (ar : Option Addr) (cr : Nat) (WS : List RW) (k : Nat) (vf : Value) (E : List LE) (wr : World) : Prop where
  len : E.length = k
  same : E.map (fun e => (e.1, e.2.1)) = (WS.take k).map (fun p => (p.1, p.2.2.1))
  rbox : wr.heap[w.heap.size]? = some (.cells #[.int .u32 v, .slice ar WS.length cr] 28)
  res : wr.heap[w.heap.size + 1]? = some (.cells #[.int .u32 0, .slice none 0 0, .slice none 0 0] 31)
  out : wr.heap[w.heap.size + 1 + 1]? = some (.cells #[.int .u32 0, .slice none 0 0, vf] 31)
  rows : RowsE (w.heap.size + 3) E wr
  full : wr.ownsRow (w.heap.size + 3) 35 1 vf k (fullV E)
  bel : Below w.heap.size w wr
  lo : w.heap.size + 3 ≤ wr.heap.size
theorem LrS.below {w : World} {v : Int} {ar : Option Addr} {cr : Nat} {WS : List RW} {k : Nat} {vf : Value} {E : List LE} {wr w' : World} (h : LrS w v ar cr WS k vf E wr) (hb : Below wr.heap.size wr w') : LrS w v ar cr WS k vf E w' :=
  have := h.lo
  ⟨h.len, h.same, (hb.block _ (by omega)).trans h.rbox, (hb.block _ (by omega)).trans h.res, (hb.block _ (by omega)).trans h.out, h.rows.below hb, own_below h.full hb, h.bel.trans (hb.mono h.bel.size), Nat.le_trans h.lo hb.size⟩
end Go.Proofs.Ythfncfmfcbhpfaa
