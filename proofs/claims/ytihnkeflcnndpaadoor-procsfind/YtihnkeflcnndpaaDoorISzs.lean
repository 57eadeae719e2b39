import Derived.Test.YtihnkeflcnndpaaDoorISiz
import Derived.Test.YtihnkeflcnndpaaDoorIRef
namespace Go.Proofs.YtihnkeflcnndpaaDoor
open Go.RowKit
set_option maxRecDepth 100000

set_option maxHeartbeats 1000000 in
theorem rcheck_any (op arg : Nat) (w : World) (h : op < 256) :
    Calls Tryd.prog 63 #[.agg #[.int .u8 op, .int .u32 arg]] w fun e w' => e = .returned (.int .i64 (erV op arg)) ∧ Below w.heap.size w w' := by
  have hI := fun w => rinfo_any op w h
  have hMo := opMo_lt op
  unfold erV
  generalize opWd op = a0 at *
  generalize opWi op = a1 at *
  generalize opMo op = a2 at *
  generalize opTa op = a3 at *
  generalize opGi op = a4 at *
  generalize opKi op = a5 at *
  cases hb : isOp op
  · rw [hb] at hI
    clear hb
    go_enter Tryd.func63, Tryd.ntmps63
    go_wp2_with (go_at_call 65; refine (hI _).mono ?_; rintro e wq ⟨rfl, hq⟩; have c1 := cellC hq 1 _ rfl)
    go_ret
    exact ⟨rfl, bel (bt (bel (Below.refl _ _)) hq)⟩
  rw [hb] at hI
  clear hb
  by_cases hm : a2 < arg
  · rw [if_neg (by simp), if_pos hm]
    have hm' : (a2 : Int) < arg := by omega
    go_enter Tryd.func63, Tryd.ntmps63
    go_wp2_with (go_at_call 65; refine (hI _).mono ?_; rintro e wq ⟨rfl, hq⟩; have c1 := cellC hq 1 _ rfl)
    go_ret
    exact ⟨rfl, bel (bt (bel (Below.refl _ _)) hq)⟩
  · rw [if_neg (by simp), if_neg hm]
    have hm' : ¬ (a2 : Int) < arg := by omega
    go_enter Tryd.func63, Tryd.ntmps63
    go_wp2_with (go_at_call 65; refine (hI _).mono ?_; rintro e wq ⟨rfl, hq⟩; have c1 := cellC hq 1 _ rfl)
    go_ret
    exact ⟨rfl, bel (bt (bel (Below.refl _ _)) hq)⟩
theorem sz_of_er (op arg : Nat) (h : ¬ erV op arg = 0) : szV op arg = 0 := by
  unfold erV at h; unfold szV
  split at h
  · rw [if_pos (by assumption)]
  · rw [if_neg (by assumption)]
    split at h
    · rw [if_pos (by assumption)]
    · exact absurd rfl h
theorem sz_ok (op arg : Nat) (h : erV op arg = 0) : szV op arg = 1 + opWi op := by
  unfold erV at h; unfold szV
  split at h
  · cases h
  · rw [if_neg (by assumption)]
    split at h
    · cases h
    · rw [if_neg (by assumption)]
set_option maxHeartbeats 1000000 in
theorem rsize_any (op arg : Nat) (w : World) (h : op < 256) :
    Calls Tryd.prog 64 #[.agg #[.int .u8 op, .int .u32 arg]] w fun e w' => e = .returned (.int .i64 (szV op arg)) ∧ Below w.heap.size w w' := by
  have hC := fun w => rcheck_any op arg w h
  by_cases he : erV op arg = 0
  · have hS := sz_ok op arg he
    have hI := fun w => rinfo_any op w h
    rw [hS]
    rw [he] at hC
    have hWi := opWi_le op
    generalize opWd op = a0 at *
    generalize opWi op = a1 at *
    generalize opMo op = a2 at *
    generalize opTa op = a3 at *
    generalize opGi op = a4 at *
    generalize opKi op = a5 at *
    generalize isOp op = a6 at *
    have hwr : wrap64 (1 + (a1 : Int)) = 1 + a1 := by unfold wrap64; omega
    clear he hS
    go_enter Tryd.func64, Tryd.ntmps64
    go_wp2_with (first
      | (go_at_call 63; refine (hC _).mono ?_; rintro e wq ⟨rfl, hq⟩; have c0 := cellB hq 0; simp only [List.getElem?_toArray, List.getElem?_cons_zero] at c0; simp only [Int.natCast_zero] )
      | (go_at_call 65; refine (hI _).mono ?_; rintro e wr ⟨rfl, hr⟩))
    go_ret
    exact ⟨rfl, bel (bt (bt (bel (Below.refl _ _)) hq) hr)⟩
  · have hS := sz_of_er op arg he
    rw [hS]
    have he' : ¬ ((erV op arg : Nat) : Int) = 0 := by omega
    generalize erV op arg = ev at *
    clear hS he
    go_enter Tryd.func64, Tryd.ntmps64
    go_wp2_with (go_at_call 63; refine (hC _).mono ?_; rintro e wq ⟨rfl, hq⟩)
    go_ret
    exact ⟨rfl, bt (bel (Below.refl _ _)) hq⟩
end Go.Proofs.YtihnkeflcnndpaaDoor
