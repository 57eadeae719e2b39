import Derived.Test.YtonmoidalkcmoaaCLBase
import Derived.Test.YtonmoidalkcmoaaCIRef
import Derived.Deep.AppendLies
import Derived.Test.YtonmoidalkcmoaaCDPm
namespace Go.Proofs.Ytonmoidalkcmoaa
open Go.RowKit
set_option maxRecDepth 100000
/-- code as values -/
def cv (L : List (Nat × Nat)) : List Value := L.flatMap fun p => [.int .u8 p.1, .int .u32 p.2]
theorem cv_append (L M : List (Nat × Nat)) : cv (L ++ M) = cv L ++ cv M := by simp [cv]
theorem cv_one (p : Nat × Nat) : cv [p] = [.int .u8 p.1, .int .u32 p.2] := rfl
theorem cv_len (L : List (Nat × Nat)) : (cv L).length = L.length * 2 := by
  induction L with
  | nil => rfl
  | cons p L ih =>
    rw [show cv (p :: L) = [.int .u8 p.1, .int .u32 p.2] ++ cv L from rfl, List.length_append, ih, List.length_cons]
    simp; omega
/-- what a slice of instructions that is read holds -/
def CRd (w : World) (ao : Option Addr) (L : List (Nat × Nat)) (B : Nat) : Prop :=
  0 < L.length → ∃ b off, ao = some ⟨b, off, none⟩ ∧ b < B ∧ ∀ j, j < L.length → w.cell? ⟨b, off + j * 2, none⟩ = some (.int .u8 (L.getD j (0, 0)).1) ∧ w.cell? ⟨b, off + j * 2 + 1, none⟩ = some (.int .u32 (L.getD j (0, 0)).2)
theorem CRd.below {w w' : World} {ao : Option Addr} {L : List (Nat × Nat)} {B : Nat} (h : CRd w ao L B) (hb : Below B w w') : CRd w' ao L B := by
  intro hl
  obtain ⟨b, off, e, hlt, hc⟩ := h hl
  exact ⟨b, off, e, hlt, fun j hj => ⟨(hb.cell (p := ⟨b, off + j * 2, none⟩) hlt).trans (hc j hj).1, (hb.cell (p := ⟨b, off + j * 2 + 1, none⟩) hlt).trans (hc j hj).2⟩⟩
theorem CRd.mono {w : World} {ao : Option Addr} {L : List (Nat × Nat)} {B C : Nat} (h : CRd w ao L B) (hb : B ≤ C) : CRd w ao L C := by
  intro hl
  obtain ⟨b, off, e, hlt, hc⟩ := h hl
  exact ⟨b, off, e, Nat.lt_of_lt_of_le hlt hb, hc⟩
/-- each number is one of its kind -/
def Wfc (L : List (Nat × Nat)) : Prop := ∀ p ∈ L, p.1 < 256 ∧ p.2 < 4294967296
theorem Wfc.at {L : List (Nat × Nat)} (h : Wfc L) {k : Nat} (hk : k < L.length) : (L.getD k (0, 0)).1 < 256 ∧ (L.getD k (0, 0)).2 < 4294967296 := by
  apply h
  rw [List.getD_eq_getElem?_getD, List.getElem?_eq_getElem hk]
  exact List.getElem_mem hk
theorem ptake {α : Type} (d : α) (zs : List α) (k : Nat) (h : k < zs.length) : zs.take (k + 1) = zs.take k ++ [zs.getD k d] := by
  rw [List.take_add_one, List.getD_eq_getElem?_getD, List.getElem?_eq_getElem h]; rfl

def okI (p : Nat × Nat) : Bool := erV p.1 p.2 == 0
def enc1 (p : Nat × Nat) : List Int := (p.1 : Int) :: nb (opWi p.1) p.2
def encF (L : List (Nat × Nat)) : List Int := L.flatMap enc1
theorem encF_append (L M : List (Nat × Nat)) : encF (L ++ M) = encF L ++ encF M := by simp [encF]
theorem encF_one (p : Nat × Nat) : encF [p] = (p.1 : Int) :: nb (opWi p.1) p.2 := by simp [encF, enc1]
theorem enc1_len (p : Nat × Nat) : (enc1 p).length = 1 + opWi p.1 := by simp [enc1, nb_len]; omega
theorem encF_le (L : List (Nat × Nat)) : (encF L).length ≤ 5 * L.length := by
  induction L with
  | nil => simp [encF]
  | cons p L ih =>
    have := opWi_le p.1
    rw [show encF (p :: L) = enc1 p ++ encF L from rfl, List.length_append, enc1_len, List.length_cons]; omega
/-- the number of instructions ahead of the first that may not be -/
def badAt : List (Nat × Nat) → Nat
  | [] => 0
  | p :: L => if okI p then badAt L + 1 else 0
def allOk (L : List (Nat × Nat)) : Bool := L.all okI
theorem badAt_of (L : List (Nat × Nat)) (k : Nat) (hk : k < L.length) (h : ∀ j, j < k → okI (L.getD j (0, 0)) = true) (hb : okI (L.getD k (0, 0)) = false) : badAt L = k ∧ allOk L = false := by
  induction L generalizing k with
  | nil => simp at hk
  | cons p L ih =>
    cases k with
    | zero => 
      have hb' : okI p = false := hb
      simp [badAt, allOk, hb']
    | succ k =>
      have h0 : okI p = true := h 0 (by omega)
      obtain ⟨e1, e2⟩ := ih k (by simpa using hk) (fun j hj => h (j + 1) (by omega)) hb
      refine ⟨by rw [badAt, if_pos h0, e1], ?_⟩
      simp only [allOk, List.all_cons, h0, Bool.true_and] at e2 ⊢
      exact e2
theorem allOk_of (L : List (Nat × Nat)) (h : ∀ j, j < L.length → okI (L.getD j (0, 0)) = true) : allOk L = true := by
  rw [allOk, List.all_eq_true]
  intro p hp
  obtain ⟨j, hj, rfl⟩ := List.getElem_of_mem hp
  have := h j hj
  rwa [List.getD_eq_getElem?_getD, List.getElem?_eq_getElem hj] at this
def encB (L : List (Nat × Nat)) : List Int := if 16384 < L.length then [] else if allOk L then encF L else []
def encI (L : List (Nat × Nat)) : Nat := if 16384 < L.length then 16384 else if allOk L then 0 else badAt L
def encX (L : List (Nat × Nat)) : Nat := if 16384 < L.length then 73 else if allOk L then 0 else erV (L.getD (badAt L) (0, 0)).1 (L.getD (badAt L) (0, 0)).2
theorem opWi_cases (k : Nat) : opWi k = 0 ∨ opWi k = 1 ∨ opWi k = 2 ∨ opWi k = 4 := by
  by_cases h : 1 ≤ k ∧ k ≤ 59
  · have : ∀ j, j < 60 → (opWi j = 0 ∨ opWi j = 1 ∨ opWi j = 2 ∨ opWi j = 4) := by decide
    exact this k (by omega)
  · exact Or.inl (opT_zero k h).2.1

theorem nb_mod (w : Nat) : ∀ (x : Int) (k : Nat), w ≤ k → nb w (x % 256 ^ k) = nb w x := by
  induction w with
  | zero => intro x k _; rfl
  | succ w ih =>
    intro x k hk
    obtain ⟨m, rfl⟩ : ∃ m, k = m + 1 := ⟨k - 1, by omega⟩
    have hP := pow256_pos m
    have e1 : x % 256 ^ (m + 1) % 256 = x % 256 := by
      rw [pow256, Int.mul_comm, emod_256 _ _ hP]; omega
    have e2 : x % 256 ^ (m + 1) / 256 = x / 256 % 256 ^ m := by
      rw [pow256, Int.mul_comm, emod_256 _ _ hP]; omega
    show x % 256 ^ (m + 1) % 256 :: nb w (x % 256 ^ (m + 1) / 256) = x % 256 :: nb w (x / 256)
    rw [e1, e2, ih _ _ (by omega)]
open Go.WideShapes
/-- what abides while a stretch is played: the answer's place, the last closed piece -/
structure LgR (w : World) (g at' : Nat) (c : Nat × Nat × Nat) (wr : World) : Prop where
  bel : Below w.heap.size w wr
  res : wr.heap[w.heap.size]? = some (.cells #[.int .u32 0, .int .u32 0, .int .u8 0, .int .u32 0] 106)
  cl : wr.heap[g]? = some (.cells (pcA at' c) 106)
  gg : w.heap.size + 1 < g
theorem LgR.glt {w : World} {g at' : Nat} {c : Nat × Nat × Nat} {wr : World} (h : LgR w g at' c wr) : g < wr.heap.size := (Array.getElem?_eq_some_iff.1 h.cl).1
theorem LgR.play {w : World} {g at' : Nat} {c : Nat × Nat × Nat} {wr : World} {wr' : World} (h : LgR w g at' c wr) (hk : Kp (fun k => k = w.heap.size + 1) wr wr') : LgR w g at' c wr' := by
  have hs := h.bel.size
  have hg := h.glt
  have hgg := h.gg
  exact ⟨h.bel.trans (hk.below hs (fun i e => by omega)), (hk.block _ (by omega) (by omega)).trans h.res, (hk.block _ hg (by omega)).trans h.cl, h.gg⟩
theorem LgR.step {w : World} {g at' : Nat} {c : Nat × Nat × Nat} {wr : World} {wr' : World} (h : LgR w g at' c wr) (hb : Below wr.heap.size wr wr') : LgR w g at' c wr' := h.play (Kp.ofBelow hb)
theorem LgR.put {w : World} {g at' : Nat} {c : Nat × Nat × Nat} {wr : World} (h : LgR w g at' c wr) (c' : Nat × Nat × Nat) : LgR w g at' c' (wr.setRow g (pcA at' c')) := by
  have hgg := h.gg
  have hk := KpSetRow (S := fun k => k = g) wr g (pcA at' c') rfl
  exact ⟨h.bel.trans (hk.below h.bel.size (fun i e => by omega)), (hk.block _ (by have := h.glt; omega) (by omega)).trans h.res, setRow_heap _ _ _ _ _ _ h.cl, h.gg⟩
theorem LgR.cells {w : World} {g at' : Nat} {c : Nat × Nat × Nat} {wr : World} (h : LgR w g at' c wr) :
    wr.cell? ⟨g, 0, none⟩ = some (.int .u32 (at' : Int)) ∧ wr.cell? ⟨g, 1, none⟩ = some (.int .u32 (c.1 : Int)) ∧ wr.cell? ⟨g, 2, none⟩ = some (.int .u8 (c.2.1 : Int)) ∧ wr.cell? ⟨g, 3, none⟩ = some (.int .u32 (c.2.2 : Int)) :=
  ⟨obj_cell h.cl 0, obj_cell h.cl 1, obj_cell h.cl 2, obj_cell h.cl 3⟩
/-- and the row of words -/
structure LgS (w : World) (g at' : Nat) (ws : List Nat) (c : Nat × Nat × Nat) (wr : World) : Prop where
  r : LgR w g at' c wr
  row : RoS (w.heap.size + 1) wr ws
theorem LgS.step {w : World} {g at' : Nat} {c : Nat × Nat × Nat} {wr : World} {ws : List Nat} {wr' : World} (h : LgS w g at' ws c wr) (hb : Below wr.heap.size wr wr') : LgS w g at' ws c wr' :=
  ⟨h.r.step hb, h.row.kept (Kp.ofBelow (S := fun _ => False) hb) (fun e => e)⟩
theorem LgS.alloc {w : World} {g at' : Nat} {c : Nat × Nat × Nat} {wr : World} {ws : List Nat} (h : LgS w g at' ws c wr) (o : Obj) : LgS w g at' ws c (wr.alloc o) := h.step ((Below.refl _ _).alloc (Nat.le_refl _) o)
theorem LgS.play {w : World} {g at' : Nat} {c : Nat × Nat × Nat} {wr : World} {ws ws' : List Nat} {wr' : World} (h : LgS w g at' ws c wr) (hk : Kp (fun k => k = w.heap.size + 1) wr wr') (hr : RoS (w.heap.size + 1) wr' ws') : LgS w g at' ws' c wr' := ⟨h.r.play hk, hr⟩
theorem LgS.laid {w : World} {g at' : Nat} {c : Nat × Nat × Nat} {wr : World} {ws : List Nat} {c' : Nat × Nat × Nat} {wr' : World} (h : LgS w g at' ws c wr) (hk : Kp (fun k => k = g) wr wr') (hr : LgR w g at' c' wr') : LgS w g at' ws c' wr' :=
  ⟨hr, h.row.kept hk (by have := hr.gg; omega)⟩
/-- a closed piece is laid down -/
theorem store_cl {P : Program} {ops : Array Oper} {Q : Exit → Act → World → Prop} {rest : List Oper} {o : Oper} {a : Act} {w wr : World} {g at' : Nat} {c : Nat × Nat × Nat} (c' : Nat × Nat × Nat) (hg : o.guard = none) (p q : Operand) (ho : o.op = .store 106 p q)
    (h0 : a.eval p = .pointer (some ⟨g, 0, none⟩)) (h1 : a.eval q = .agg (pcA at' c')) (hi : (P.info? 106).map (·.size) = some 4) (hS : LgR w g at' c wr)
    (h : ∀ W, LgR w g at' c' W → Kp (fun k => k = g) wr W → wpList P ops Q rest (a.put o.dst undef) W) : wpList P ops Q (o :: rest) a wr :=
  wpList_store_rowD hg _ _ _ ho g _ _ h0 h1 hS.cl hi rfl (by simp [pcA, Value.oneCell']) (h _ (hS.put c') (KpSetRow _ _ _ rfl))
/-- the cells of an instruction, and of what is told of its operation, in blocks of their own -/
def InS (w : World) (j op arg : Nat) : Prop := w.heap[j]? = some (.cells #[.int .u8 (op : Int), .int .u32 (arg : Int)] 36)
def IfS (w : World) (j op : Nat) : Prop := w.heap[j]? = some (.cells (infA op) 55)
theorem InS.kept {w w' : World} {j op arg : Nat} (h : InS w j op arg) {S : Nat → Prop} (hk : Kp S w w') (hn : ¬ S j) : InS w' j op arg := (hk.block j (Array.getElem?_eq_some_iff.1 h).1 hn).trans h
theorem IfS.kept {w w' : World} {j op : Nat} (h : IfS w j op) {S : Nat → Prop} (hk : Kp S w w') (hn : ¬ S j) : IfS w' j op := (hk.block j (Array.getElem?_eq_some_iff.1 h).1 hn).trans h
theorem InS.lt {w : World} {j op arg : Nat} (h : InS w j op arg) : j < w.heap.size := (Array.getElem?_eq_some_iff.1 h).1
theorem IfS.lt {w : World} {j op : Nat} (h : IfS w j op) : j < w.heap.size := (Array.getElem?_eq_some_iff.1 h).1
theorem InS.cells {w : World} {j op arg : Nat} (h : InS w j op arg) : w.cell? ⟨j, 0, none⟩ = some (.int .u8 (op : Int)) ∧ w.cell? ⟨j, 1, none⟩ = some (.int .u32 (arg : Int)) := ⟨obj_cell h 0, obj_cell h 1⟩
theorem IfS.cells {w : World} {j op : Nat} (h : IfS w j op) : w.cell? ⟨j, 0, none⟩ = some (.string (opWd op)) ∧ w.cell? ⟨j, 1, none⟩ = some (.int .i64 (opWi op : Int)) ∧ w.cell? ⟨j, 2, none⟩ = some (.int .u32 (opMo op : Int)) ∧ w.cell? ⟨j, 3, none⟩ = some (.int .i64 (opTa op : Int)) ∧ w.cell? ⟨j, 4, none⟩ = some (.int .i64 (opGi op : Int)) ∧ w.cell? ⟨j, 5, none⟩ = some (.int .u8 (opKi op : Int)) :=
  ⟨obj_cell h 0, obj_cell h 1, obj_cell h 2, obj_cell h 3, obj_cell h 4, obj_cell h 5⟩
theorem ros_new (w : World) (b : Nat) (cs : Array Value) (h : w.heap[b]? = some (.cells cs 112 (0, 0))) (hs : cs.size = 65) (h64 : cs[64]? = some (.int .i64 0)) : RoS b w [] :=
  ⟨⟨cs, h, hs, h64, fun i hi => by simp at hi⟩, by decide, fun x hx => by simp at hx⟩
end Go.Proofs.Ytonmoidalkcmoaa
