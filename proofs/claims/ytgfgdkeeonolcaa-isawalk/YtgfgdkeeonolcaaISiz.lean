import Derived.Test.YtgfgdkeeonolcaaIInf
namespace Go.Proofs.Ytgfgdkeeonolcaa
open Go.RowKit
set_option maxRecDepth 100000

def szV (op arg : Nat) : Nat := if isOp op = false then 0 else if opMo op < arg then 0 else 1 + opWi op
def erV (op arg : Nat) : Nat := if isOp op = false then 70 else if opMo op < arg then 71 else 0
theorem opWi_le (k : Nat) : opWi k ≤ 4 := by
  by_cases h : 1 ≤ k ∧ k ≤ 59
  · have : ∀ j, j < 60 → opWi j ≤ 4 := by decide
    exact this k (by omega)
  · rw [(opT_zero k h).2.1]; omega
theorem opMo_lt (k : Nat) : opMo k < 4294967296 := by
  by_cases h : 1 ≤ k ∧ k ≤ 59
  · have : ∀ j, j < 60 → opMo j < 4294967296 := by decide
    exact this k (by omega)
  · rw [(opT_zero k h).2.2.1]; omega
theorem szV_le (op arg : Nat) : szV op arg ≤ 5 := by
  unfold szV; have := opWi_le op; split
  · omega
  · split <;> omega
/-- a block keeps its cells -/
theorem cellB {w W : World} {cs : Array Value} {t : Nat} (h : Below (w.alloc (.cells cs t)).heap.size (w.alloc (.cells cs t)) W) (i : Nat) : W.cell? ⟨w.heap.size, i, none⟩ = cs[i]? := by
  refine (h.cell (p := ⟨w.heap.size, i, none⟩) (by simp)).trans ?_
  exact World.cell?_alloc_new _ _ _ _
theorem neB {w W : World} {o : Obj} (h : Below (w.alloc o).heap.size (w.alloc o) W) : ¬ w.heap.size = W.heap.size := by
  have := h.size; simp at this; omega
theorem cellC {w W : World} {cs : Array Value} {t : Nat} (h : Below (w.alloc (.cells cs t)).heap.size (w.alloc (.cells cs t)) W) (i : Nat) (v : Value) (hv : cs[i]? = some v) (o : Obj) : (W.alloc o).cell? ⟨w.heap.size, i, none⟩ = some v := by
  rw [World.cell?_alloc_old _ _ _ (by simpa using neB h), cellB h i, hv]
end Go.Proofs.Ytgfgdkeeonolcaa
