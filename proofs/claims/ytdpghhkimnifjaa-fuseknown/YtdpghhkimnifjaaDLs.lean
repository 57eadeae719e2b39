import Derived.Test.YtdpghhkimnifjaaCDPn
import Derived.Test.YtdpghhkimnifjaaCLWd32
namespace Go.Proofs.Ytdpghhkimnifjaa
open Go.RowKit Go.WideShapes
set_option maxRecDepth 100000

/-- what abides while a stretch is played: the answer's place, the last closed piece -/
structure LgR (w : World) (g at' : Nat) (c : Nat × Nat × Nat) (wr : World) : Prop where
  bel : Below w.heap.size w wr
  res : wr.heap[w.heap.size]? = some (.cells #[.int .u32 0, .int .u32 0, .int .u8 0, .int .u32 0] 111)
  cl : wr.heap[g]? = some (.cells (pcA at' c) 111)
  gg : w.heap.size + 1 < g
theorem LgR.glt {w : World} {g at' : Nat} {c : Nat × Nat × Nat} {wr : World} (h : LgR w g at' c wr) : g < wr.heap.size := (Array.getElem?_eq_some_iff.1 h.cl).1
theorem LgR.play {w : World} {g at' : Nat} {c : Nat × Nat × Nat} {wr : World} {wr' : World} (h : LgR w g at' c wr) (hk : Kp (fun k => k = w.heap.size + 1) wr wr') : LgR w g at' c wr' := by
  have hs := h.bel.size
  have hg := h.glt
  have hgg := h.gg
  exact ⟨h.bel.trans (hk.below hs (fun i e => by omega)), (hk.block _ (by omega) (by omega)).trans h.res, (hk.block _ hg (by omega)).trans h.cl, h.gg⟩
theorem LgR.step {w : World} {g at' : Nat} {c : Nat × Nat × Nat} {wr : World} {wr' : World} (h : LgR w g at' c wr) (hb : Below wr.heap.size wr wr') : LgR w g at' c wr' := h.play (Kp.ofBelow hb)
theorem LgR.put {w : World} {g at' : Nat} {c : Nat × Nat × Nat} {wr : World} (h : LgR w g at' c wr) (c' : Nat × Nat × Nat) : LgR w g at' c' (wr.setRow g (pcA at' c')) := by
  have hgg := h.gg
  have hk := KpSetRow (S := fun k => k = g) wr g (pcA at' c') rfl
  exact ⟨h.bel.trans (hk.below h.bel.size (fun i e => by omega)), (hk.block _ (by have := h.glt; omega) (by omega)).trans h.res, setRow_heap _ _ _ _ _ _ h.cl, h.gg⟩
theorem LgR.cells {w : World} {g at' : Nat} {c : Nat × Nat × Nat} {wr : World} (h : LgR w g at' c wr) :
    wr.cell? ⟨g, 0, none⟩ = some (.int .u32 (at' : Int)) ∧ wr.cell? ⟨g, 1, none⟩ = some (.int .u32 (c.1 : Int)) ∧ wr.cell? ⟨g, 2, none⟩ = some (.int .u8 (c.2.1 : Int)) ∧ wr.cell? ⟨g, 3, none⟩ = some (.int .u32 (c.2.2 : Int)) :=
  ⟨obj_cell h.cl 0, obj_cell h.cl 1, obj_cell h.cl 2, obj_cell h.cl 3⟩
/-- and the row of words -/
structure LgS (w : World) (g at' : Nat) (ws : List Nat) (c : Nat × Nat × Nat) (wr : World) : Prop where
  r : LgR w g at' c wr
  row : RoS (w.heap.size + 1) wr ws
theorem LgS.step {w : World} {g at' : Nat} {c : Nat × Nat × Nat} {wr : World} {ws : List Nat} {wr' : World} (h : LgS w g at' ws c wr) (hb : Below wr.heap.size wr wr') : LgS w g at' ws c wr' :=
  ⟨h.r.step hb, h.row.kept (Kp.ofBelow (S := fun _ => False) hb) (fun e => e)⟩
theorem LgS.alloc {w : World} {g at' : Nat} {c : Nat × Nat × Nat} {wr : World} {ws : List Nat} (h : LgS w g at' ws c wr) (o : Obj) : LgS w g at' ws c (wr.alloc o) := h.step ((Below.refl _ _).alloc (Nat.le_refl _) o)
theorem LgS.play {w : World} {g at' : Nat} {c : Nat × Nat × Nat} {wr : World} {ws ws' : List Nat} {wr' : World} (h : LgS w g at' ws c wr) (hk : Kp (fun k => k = w.heap.size + 1) wr wr') (hr : RoS (w.heap.size + 1) wr' ws') : LgS w g at' ws' c wr' := ⟨h.r.play hk, hr⟩
theorem LgS.laid {w : World} {g at' : Nat} {c : Nat × Nat × Nat} {wr : World} {ws : List Nat} {c' : Nat × Nat × Nat} {wr' : World} (h : LgS w g at' ws c wr) (hk : Kp (fun k => k = g) wr wr') (hr : LgR w g at' c' wr') : LgS w g at' ws c' wr' :=
  ⟨hr, h.row.kept hk (by have := hr.gg; omega)⟩
/-- a closed piece is laid down -/
theorem store_cl {P : Program} {ops : Array Oper} {Q : Exit → Act → World → Prop} {rest : List Oper} {o : Oper} {a : Act} {w wr : World} {g at' : Nat} {c : Nat × Nat × Nat} (c' : Nat × Nat × Nat) (hg : o.guard = none) (p q : Operand) (ho : o.op = .store 111 p q)
    (h0 : a.eval p = .pointer (some ⟨g, 0, none⟩)) (h1 : a.eval q = .agg (pcA at' c')) (hi : (P.info? 111).map (·.size) = some 4) (hS : LgR w g at' c wr)
    (h : ∀ W, LgR w g at' c' W → Kp (fun k => k = g) wr W → wpList P ops Q rest (a.put o.dst undef) W) : wpList P ops Q (o :: rest) a wr :=
  wpList_store_rowD hg _ _ _ ho g _ _ h0 h1 hS.cl hi rfl (by simp [pcA, Value.oneCell']) (h _ (hS.put c') (KpSetRow _ _ _ rfl))
/-- the cells of an instruction, and of what is told of its operation, in blocks of their own -/
def InS (w : World) (j op arg : Nat) : Prop := w.heap[j]? = some (.cells #[.int .u8 (op : Int), .int .u32 (arg : Int)] 36)
def IfS (w : World) (j op : Nat) : Prop := w.heap[j]? = some (.cells (infA op) 60)
theorem InS.kept {w w' : World} {j op arg : Nat} (h : InS w j op arg) {S : Nat → Prop} (hk : Kp S w w') (hn : ¬ S j) : InS w' j op arg := (hk.block j (Array.getElem?_eq_some_iff.1 h).1 hn).trans h
theorem IfS.kept {w w' : World} {j op : Nat} (h : IfS w j op) {S : Nat → Prop} (hk : Kp S w w') (hn : ¬ S j) : IfS w' j op := (hk.block j (Array.getElem?_eq_some_iff.1 h).1 hn).trans h
theorem InS.lt {w : World} {j op arg : Nat} (h : InS w j op arg) : j < w.heap.size := (Array.getElem?_eq_some_iff.1 h).1
theorem IfS.lt {w : World} {j op : Nat} (h : IfS w j op) : j < w.heap.size := (Array.getElem?_eq_some_iff.1 h).1
theorem InS.cells {w : World} {j op arg : Nat} (h : InS w j op arg) : w.cell? ⟨j, 0, none⟩ = some (.int .u8 (op : Int)) ∧ w.cell? ⟨j, 1, none⟩ = some (.int .u32 (arg : Int)) := ⟨obj_cell h 0, obj_cell h 1⟩
theorem IfS.cells {w : World} {j op : Nat} (h : IfS w j op) : w.cell? ⟨j, 0, none⟩ = some (.string (opWd op)) ∧ w.cell? ⟨j, 1, none⟩ = some (.int .i64 (opWi op : Int)) ∧ w.cell? ⟨j, 2, none⟩ = some (.int .u32 (opMo op : Int)) ∧ w.cell? ⟨j, 3, none⟩ = some (.int .i64 (opTa op : Int)) ∧ w.cell? ⟨j, 4, none⟩ = some (.int .i64 (opGi op : Int)) ∧ w.cell? ⟨j, 5, none⟩ = some (.int .u8 (opKi op : Int)) :=
  ⟨obj_cell h 0, obj_cell h 1, obj_cell h 2, obj_cell h 3, obj_cell h 4, obj_cell h 5⟩
theorem ros_new (w : World) (b : Nat) (cs : Array Value) (h : w.heap[b]? = some (.cells cs 117 (0, 0))) (hs : cs.size = 65) (h64 : cs[64]? = some (.int .i64 0)) : RoS b w [] :=
  ⟨⟨cs, h, hs, h64, fun i hi => by simp at hi⟩, by decide, fun x hx => by simp at hx⟩
end Go.Proofs.Ytdpghhkimnifjaa
