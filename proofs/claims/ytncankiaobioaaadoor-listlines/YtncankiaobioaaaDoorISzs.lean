import Derived.Test.YtncankiaobioaaaDoorISiz
import Derived.Test.YtncankiaobioaaaDoorIRef
namespace Go.Proofs.YtncankiaobioaaaDoor
open Go.RowKit
set_option maxRecDepth 100000

set_option maxHeartbeats 1000000 in
theorem check_any (op arg : Nat) (w : World) (h : op < 256) :
    Calls Tryd.prog 6 #[.agg #[.int .u8 op, .int .u32 arg]] w fun e w' => e = .returned (.int .i64 (erV op arg)) ∧ Below w.heap.size w w' := by
  have hI := fun w => sized_any op arg w h
  go_enter Tryd.func6, Tryd.ntmps6
  go_wp2_with (go_at_call 11; refine (hI _).mono ?_; rintro e wq ⟨rfl, hq⟩)
  go_ret
  exact ⟨rfl, bt (bel (Below.refl _ _)) hq⟩
set_option maxHeartbeats 1000000 in
theorem rcheck_any (op arg : Nat) (w : World) (h : op < 256) :
    Calls Tryd.prog 8 #[.agg #[.int .u8 op, .int .u32 arg]] w fun e w' => e = .returned (.int .i64 (erV op arg)) ∧ Below w.heap.size w w' := by
  have hI := fun w => rinfo_any op w h
  have hMo := opMo_lt op
  unfold erV
  generalize opWd op = a0 at *
  generalize opWi op = a1 at *
  generalize opMo op = a2 at *
  generalize opTa op = a3 at *
  generalize opGi op = a4 at *
  generalize opKi op = a5 at *
  cases hb : isOp op
  · rw [hb] at hI
    clear hb
    go_enter Tryd.func8, Tryd.ntmps8
    go_wp2_with (go_at_call 9; refine (hI _).mono ?_; rintro e wq ⟨rfl, hq⟩; have c1 := cellC hq 1 _ rfl)
    go_ret
    exact ⟨rfl, bel (bt (bel (Below.refl _ _)) hq)⟩
  rw [hb] at hI
  clear hb
  by_cases hm : a2 < arg
  · rw [if_neg (by simp), if_pos hm]
    have hm' : (a2 : Int) < arg := by omega
    go_enter Tryd.func8, Tryd.ntmps8
    go_wp2_with (go_at_call 9; refine (hI _).mono ?_; rintro e wq ⟨rfl, hq⟩; have c1 := cellC hq 1 _ rfl)
    go_ret
    exact ⟨rfl, bel (bt (bel (Below.refl _ _)) hq)⟩
  · rw [if_neg (by simp), if_neg hm]
    have hm' : ¬ (a2 : Int) < arg := by omega
    go_enter Tryd.func8, Tryd.ntmps8
    go_wp2_with (go_at_call 9; refine (hI _).mono ?_; rintro e wq ⟨rfl, hq⟩; have c1 := cellC hq 1 _ rfl)
    go_ret
    exact ⟨rfl, bel (bt (bel (Below.refl _ _)) hq)⟩
theorem sz_of_er (op arg : Nat) (h : ¬ erV op arg = 0) : szV op arg = 0 := by
  unfold erV at h; unfold szV
  split at h
  · rw [if_pos (by assumption)]
  · rw [if_neg (by assumption)]
    split at h
    · rw [if_pos (by assumption)]
    · exact absurd rfl h
theorem sz_ok (op arg : Nat) (h : erV op arg = 0) : szV op arg = 1 + opWi op := by
  unfold erV at h; unfold szV
  split at h
  · cases h
  · rw [if_neg (by assumption)]
    split at h
    · cases h
    · rw [if_neg (by assumption)]
end Go.Proofs.YtncankiaobioaaaDoor
