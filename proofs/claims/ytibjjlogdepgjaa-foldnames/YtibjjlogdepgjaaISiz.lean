import Derived.Test.YtibjjlogdepgjaaIInf
namespace Go.Proofs.Ytibjjlogdepgjaa
open Go.RowKit
set_option maxRecDepth 100000

def szV (op arg : Nat) : Nat := if isOp op = false then 0 else if opMo op < arg then 0 else 1 + opWi op
def erV (op arg : Nat) : Nat := if isOp op = false then 70 else if opMo op < arg then 71 else 0
theorem opWi_le (k : Nat) : opWi k ≤ 4 := by
  by_cases h : 1 ≤ k ∧ k ≤ 59
  · have : ∀ j, j < 60 → opWi j ≤ 4 := by decide
    exact this k (by omega)
  · rw [(opT_zero k h).2.1]; omega
theorem opMo_lt (k : Nat) : opMo k < 4294967296 := by
  by_cases h : 1 ≤ k ∧ k ≤ 59
  · have : ∀ j, j < 60 → opMo j < 4294967296 := by decide
    exact this k (by omega)
  · rw [(opT_zero k h).2.2.1]; omega
theorem szV_le (op arg : Nat) : szV op arg ≤ 5 := by
  unfold szV; have := opWi_le op; split
  · omega
  · split <;> omega
/-- a block keeps its cells -/
theorem cellB {w W : World} {cs : Array Value} {t : Nat} (h : Below (w.alloc (.cells cs t)).heap.size (w.alloc (.cells cs t)) W) (i : Nat) : W.cell? ⟨w.heap.size, i, none⟩ = cs[i]? := by
  refine (h.cell (p := ⟨w.heap.size, i, none⟩) (by simp)).trans ?_
  exact World.cell?_alloc_new _ _ _ _
theorem neB {w W : World} {o : Obj} (h : Below (w.alloc o).heap.size (w.alloc o) W) : ¬ w.heap.size = W.heap.size := by
  have := h.size; simp at this; omega
theorem cellC {w W : World} {cs : Array Value} {t : Nat} (h : Below (w.alloc (.cells cs t)).heap.size (w.alloc (.cells cs t)) W) (i : Nat) (v : Value) (hv : cs[i]? = some v) (o : Obj) : (W.alloc o).cell? ⟨w.heap.size, i, none⟩ = some v := by
  rw [World.cell?_alloc_old _ _ _ (by simpa using neB h), cellB h i, hv]
set_option maxHeartbeats 1000000 in
theorem sized_any (op arg : Nat) (w : World) (h : op < 256) :
    Calls Try.prog 16 #[.agg #[.int .u8 op, .int .u32 arg]] w fun e w' => e = .returned (.tuple #[.int .i64 (szV op arg), .int .i64 (erV op arg)]) ∧ Below w.heap.size w w' := by
  have hI := fun w => info_any op w h
  have hWi := opWi_le op
  have hMo := opMo_lt op
  unfold szV erV
  cases hb : isOp op
  · rw [hb] at hI
    generalize opWd op = a0 at *
    generalize opWi op = a1 at *
    generalize opMo op = a2 at *
    generalize opTa op = a3 at *
    generalize opGi op = a4 at *
    generalize opKi op = a5 at *
    clear hb
    go_enter Try.func16, Try.ntmps16
    go_wp2_with (go_at_call 17; refine (hI _).mono ?_; rintro e wq ⟨rfl, hq⟩; have c1 := cellC hq 1 _ rfl)
    go_ret2
    exact ⟨rfl, bel (bt (bel (Below.refl _ _)) hq)⟩
  · rw [hb] at hI
    generalize opWd op = a0 at *
    generalize opWi op = a1 at *
    generalize opMo op = a2 at *
    generalize opTa op = a3 at *
    generalize opGi op = a4 at *
    generalize opKi op = a5 at *
    clear hb
    by_cases hm : a2 < arg
    · rw [if_neg (by simp), if_pos hm, if_neg (by simp), if_pos hm]
      have hm' : (a2 : Int) < arg := by omega
      go_enter Try.func16, Try.ntmps16
      go_wp2_with (go_at_call 17; refine (hI _).mono ?_; rintro e wq ⟨rfl, hq⟩; have c1 := cellC hq 1 _ rfl)
      go_ret2
      exact ⟨rfl, bel (bt (bel (Below.refl _ _)) hq)⟩
    · rw [if_neg (by simp), if_neg hm, if_neg (by simp), if_neg hm]
      have hm' : ¬ (a2 : Int) < arg := by omega
      have hwr : wrap64 (1 + (a1 : Int)) = 1 + a1 := by unfold wrap64; omega
      go_enter Try.func16, Try.ntmps16
      go_wp2_with (go_at_call 17; refine (hI _).mono ?_; rintro e wq ⟨rfl, hq⟩; have c1 := cellC hq 1 _ rfl)
      go_ret2
      exact ⟨by rfl, bel (bt (bel (Below.refl _ _)) hq)⟩
end Go.Proofs.Ytibjjlogdepgjaa
