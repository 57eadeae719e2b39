import Derived.Test.YtigiecodobgenaaSDown
import Derived.Test.YtigiecodobgenaaSLay
import Derived.Test.YtigiecodobgenaaSFin
import Derived.Deep.RegionHeld3
namespace Go.Proofs.Ytigiecodobgenaa
open Go.RowKit

abbrev fm : Value := .agg #[.int .i64 24, .int .i64 (-149), .int .i64 104]
abbrev ob : Obj := .cells #[.int .i64 24, .int .i64 (-149), .int .i64 104] 59
abbrev oz : Obj := .cells #[.int .u8 0, .bool false, .int .u64 0, .int .i64 0] 56
/-- a finite value, or what is without end, if the power is too great -/
def hdV (m : Bool) (n : Nat) (p : Int) : Value := if 104 < p then .agg #[.int .u8 2, .bool m, .int .u64 0, .int .i64 0] else .agg #[.int .u8 3, .bool m, .int .u64 n, .int .i64 p]
set_option maxRecDepth 100000 in
set_option maxHeartbeats 1000000 in
theorem held_any (m : Bool) (n : Nat) (p : Int) (w : World) :
    Calls Try.prog 47 #[.agg #[.int .i64 24, .int .i64 (-149), .int .i64 104], .bool m, .int .u64 n, .int .i64 p] w fun e w' => e = .returned (hdV m n p) ∧ Below w.heap.size w w' := by
  by_cases h : 104 < p
  · have HV : Hid (hdV m n p = .agg #[.int .u8 2, .bool m, .int .u64 0, .int .i64 0]) := by rw [Hid, hdV, if_pos h]
    go_enter Try.func47, Try.ntmps47
    go_wp2_with (go_at_call 58; refine (vendless_any _ _).mono ?_; rintro e wq ⟨rfl, hq⟩; subst wq)
    refine bodyPost_ret (v := .agg #[.int .u8 2, .bool m, .int .u64 0, .int .i64 0]) (by simp [results, Try.f47, go_sem]) rfl ?_
    exact ⟨by rw [HV.out], by repeat (first | exact Below.refl _ _ | refine bel ?_ | refine Below.drew ?_)⟩
  · have HV : Hid (hdV m n p = .agg #[.int .u8 3, .bool m, .int .u64 n, .int .i64 p]) := by rw [Hid, hdV, if_neg h]
    have g1 : decide (104 < p) = false := decide_eq_false h
    go_enter Try.func47, Try.ntmps47
    go_wp2
    refine bodyPost_ret (v := .agg #[.int .u8 3, .bool m, .int .u64 n, .int .i64 p]) (by simp [results, Try.f47, go_sem]) rfl ?_
    exact ⟨by rw [HV.out], by repeat (first | exact Below.refl _ _ | refine bel ?_ | refine Below.drew ?_)⟩
@[go_sem] theorem bV3 (s : Int) (m : Bool) (p : Int) (w : World) : (Instr.build 56 #[(0, .int .u8 s), (1, .bool m), (3, .int .i64 p)]).run Try.prog w = .ok (.agg #[.int .u8 s, .bool m, .int .u64 0, .int .i64 p]) w := run_build w 56 _ _ (by kernel_rfl)
set_option maxRecDepth 100000 in
set_option maxHeartbeats 1000000 in
theorem nought_any (m : Bool) (w : World) :
    Calls Try.prog 45 #[.agg #[.int .i64 24, .int .i64 (-149), .int .i64 104], .bool m] w fun e w' => e = .returned (.agg #[.int .u8 3, .bool m, .int .u64 0, .int .i64 (-149)]) ∧ Below w.heap.size w w' := by
  go_enter Try.func45, Try.ntmps45
  go_wp2
  refine bodyPost_ret (v := .agg #[.int .u8 3, .bool m, .int .u64 0, .int .i64 (-149)]) (by simp [results, Try.f45, go_sem]) rfl ?_
  exact ⟨rfl, by repeat (first | exact Below.refl _ _ | refine bel ?_ | refine Below.drew ?_)⟩
end Go.Proofs.Ytigiecodobgenaa
