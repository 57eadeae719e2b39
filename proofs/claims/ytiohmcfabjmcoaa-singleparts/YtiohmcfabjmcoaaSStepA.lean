import Derived.Test.YtiohmcfabjmcoaaSLay
import Derived.Test.YtiohmcfabjmcoaaSOne
import Derived.Deep.RegionHeld3
namespace Go.Proofs.Ytiohmcfabjmcoaa
open Go.RowKit

set_option maxRecDepth 100000 in
set_option maxHeartbeats 1000000 in
theorem nought2 (m : Bool) (w : World)  :
    Calls Try.prog 25 #[.agg #[.int .u8 2, .bool m, .int .u64 0, .int .i64 0]] w fun e w' => e = .returned (.bool false) ∧ ∃ o0, w' = w.alloc o0 := by
  go_enter Try.func25, Try.ntmps25
  go_wp2
  go_ret
  exact ⟨rfl, _, rfl⟩
set_option maxRecDepth 100000 in
set_option maxHeartbeats 1000000 in
theorem nought3z (m : Bool) (p : Int) (w : World)  :
    Calls Try.prog 25 #[.agg #[.int .u8 3, .bool m, .int .u64 0, .int .i64 p]] w fun e w' => e = .returned (.bool true) ∧ ∃ o0, w' = w.alloc o0 := by
  go_enter Try.func25, Try.ntmps25
  go_wp2
  go_ret
  exact ⟨rfl, _, rfl⟩
set_option maxRecDepth 100000 in
set_option maxHeartbeats 1000000 in
theorem nought3 (m : Bool) (n : Nat) (p : Int) (w : World) (g1 : ((n : Int) == 0) = false) :
    Calls Try.prog 25 #[.agg #[.int .u8 3, .bool m, .int .u64 n, .int .i64 p]] w fun e w' => e = .returned (.bool false) ∧ ∃ o0, w' = w.alloc o0 := by
  go_enter Try.func25, Try.ntmps25
  go_wp2
  go_ret
  exact ⟨rfl, _, rfl⟩
set_option maxRecDepth 100000 in
set_option maxHeartbeats 1000000 in
theorem shorter2 (m : Bool) (w : World)  :
    Calls Try.prog 26 #[.agg #[.int .u8 2, .bool m, .int .u64 0, .int .i64 0]] w fun e w' => e = .returned (.agg #[.int .u8 3, .bool m, .int .u64 16777215, .int .i64 104]) ∧ Below w.heap.size w w' := by
  go_enter Try.func26, Try.ntmps26
  go_wp2
  refine bodyPost_ret (v := .agg #[.int .u8 3, .bool m, .int .u64 16777215, .int .i64 104]) (by simp [results, Try.f26, go_sem]) rfl ?_
  exact ⟨rfl, by repeat (first | exact Below.refl _ _ | refine bel ?_ | refine Below.drew ?_)⟩
set_option maxRecDepth 100000 in
set_option maxHeartbeats 1000000 in
theorem shorter3a (m : Bool) (p : Int) (w : World) (_ : -149 < p) (_ : p < 1000) :
    Calls Try.prog 26 #[.agg #[.int .u8 3, .bool m, .int .u64 8388608, .int .i64 p]] w fun e w' => e = .returned (.agg #[.int .u8 3, .bool m, .int .u64 16777215, .int .i64 (p - 1)]) ∧ Below w.heap.size w w' := by
  go_enter Try.func26, Try.ntmps26
  go_wp2
  refine bodyPost_ret (v := .agg #[.int .u8 3, .bool m, .int .u64 16777215, .int .i64 (p - 1)]) (by simp [results, Try.f26, go_sem]) rfl ?_
  exact ⟨rfl, by repeat (first | exact Below.refl _ _ | refine bel ?_ | refine Below.drew ?_)⟩
set_option maxRecDepth 100000 in
set_option maxHeartbeats 1000000 in
theorem shorter3b (m : Bool) (g : Nat) (p : Int) (w : World) (g1 : (((g : Int) + 1) == 8388608) = false) (_ : g < 16777216) :
    Calls Try.prog 26 #[.agg #[.int .u8 3, .bool m, .int .u64 ((g : Int) + 1), .int .i64 p]] w fun e w' => e = .returned (.agg #[.int .u8 3, .bool m, .int .u64 (g : Int), .int .i64 p]) ∧ Below w.heap.size w w' := by
  go_enter Try.func26, Try.ntmps26
  go_wp2
  refine bodyPost_ret (v := .agg #[.int .u8 3, .bool m, .int .u64 (g : Int), .int .i64 p]) (by simp [results, Try.f26, go_sem]) rfl ?_
  exact ⟨rfl, by repeat (first | exact Below.refl _ _ | refine bel ?_ | refine Below.drew ?_)⟩
set_option maxRecDepth 100000 in
set_option maxHeartbeats 1000000 in
theorem shorter3c (m : Bool) (w : World)  :
    Calls Try.prog 26 #[.agg #[.int .u8 3, .bool m, .int .u64 8388608, .int .i64 (-149)]] w fun e w' => e = .returned (.agg #[.int .u8 3, .bool m, .int .u64 8388607, .int .i64 (-149)]) ∧ Below w.heap.size w w' := by
  go_enter Try.func26, Try.ntmps26
  go_wp2
  refine bodyPost_ret (v := .agg #[.int .u8 3, .bool m, .int .u64 8388607, .int .i64 (-149)]) (by simp [results, Try.f26, go_sem]) rfl ?_
  exact ⟨rfl, by repeat (first | exact Below.refl _ _ | refine bel ?_ | refine Below.drew ?_)⟩
set_option maxRecDepth 100000 in
set_option maxHeartbeats 1000000 in
theorem longer1 (m : Bool) (n : Nat) (p : Int) (w : World) (g1 : decide ((n : Int) + 1 < 16777216) = true) (_ : n < 16777216) :
    Calls Try.prog 27 #[.agg #[.int .u8 3, .bool m, .int .u64 n, .int .i64 p]] w fun e w' => e = .returned (.agg #[.int .u8 3, .bool m, .int .u64 ((n : Int) + 1), .int .i64 p]) ∧ Below w.heap.size w w' := by
  go_enter Try.func27, Try.ntmps27
  go_wp2
  refine bodyPost_ret (v := .agg #[.int .u8 3, .bool m, .int .u64 ((n : Int) + 1), .int .i64 p]) (by simp [results, Try.f27, go_sem]) rfl ?_
  exact ⟨rfl, by repeat (first | exact Below.refl _ _ | refine bel ?_ | refine Below.drew ?_)⟩
set_option maxRecDepth 100000 in
set_option maxHeartbeats 1000000 in
theorem held1 (m : Bool) (p : Int) (w : World) (g1 : decide (104 < p) = false) :
    Calls Try.prog 46 #[.agg #[.int .i64 24, .int .i64 (-149), .int .i64 104], .bool m, .int .u64 8388608, .int .i64 p] w fun e w' => e = .returned (.agg #[.int .u8 3, .bool m, .int .u64 8388608, .int .i64 p]) ∧ ∃ o0 o1, w' = (w.alloc o0).alloc o1 := by
  go_enter Try.func46, Try.ntmps46
  go_wp2
  refine bodyPost_ret (v := .agg #[.int .u8 3, .bool m, .int .u64 8388608, .int .i64 p]) (by simp [results, Try.f46, go_sem]) rfl ?_
  exact ⟨rfl, _, _, rfl⟩
set_option maxRecDepth 100000 in
set_option maxHeartbeats 1000000 in
theorem held2 (m : Bool) (w : World)  :
    Calls Try.prog 46 #[.agg #[.int .i64 24, .int .i64 (-149), .int .i64 104], .bool m, .int .u64 8388608, .int .i64 105] w fun e w' => e = .returned (.agg #[.int .u8 2, .bool m, .int .u64 0, .int .i64 0]) ∧ ∃ o0 o1 o2, w' = ((w.alloc o0).alloc o1).alloc o2 := by
  go_enter Try.func46, Try.ntmps46
  go_wp2_with (go_at_call 53; refine (vendless_any _ _).mono ?_; rintro e wq ⟨rfl, hq⟩; subst wq)
  refine bodyPost_ret (v := .agg #[.int .u8 2, .bool m, .int .u64 0, .int .i64 0]) (by simp [results, Try.f46, go_sem]) rfl ?_
  exact ⟨rfl, _, _, _, rfl⟩
set_option maxRecDepth 100000 in
set_option maxHeartbeats 1000000 in
theorem flip2 (m : Bool) (w : World)  :
    Calls Try.prog 28 #[.agg #[.int .u8 2, .bool m, .int .u64 0, .int .i64 0]] w fun e w' => e = .returned (.agg #[.int .u8 2, .bool (!m), .int .u64 0, .int .i64 0]) ∧ Below w.heap.size w w' := by
  go_enter Try.func28, Try.ntmps28
  go_wp2
  refine bodyPost_ret (v := .agg #[.int .u8 2, .bool (!m), .int .u64 0, .int .i64 0]) (by simp [results, Try.f28, go_sem]) rfl ?_
  exact ⟨rfl, by repeat (first | exact Below.refl _ _ | refine bel ?_ | refine Below.drew ?_)⟩
set_option maxRecDepth 100000 in
set_option maxHeartbeats 1000000 in
theorem flip3 (m : Bool) (n p : Int) (w : World)  :
    Calls Try.prog 28 #[.agg #[.int .u8 3, .bool m, .int .u64 n, .int .i64 p]] w fun e w' => e = .returned (.agg #[.int .u8 3, .bool (!m), .int .u64 n, .int .i64 p]) ∧ Below w.heap.size w w' := by
  go_enter Try.func28, Try.ntmps28
  go_wp2
  refine bodyPost_ret (v := .agg #[.int .u8 3, .bool (!m), .int .u64 n, .int .i64 p]) (by simp [results, Try.f28, go_sem]) rfl ?_
  exact ⟨rfl, by repeat (first | exact Below.refl _ _ | refine bel ?_ | refine Below.drew ?_)⟩
set_option maxRecDepth 100000 in
set_option maxHeartbeats 1000000 in
theorem flip1  (w : World)  :
    Calls Try.prog 28 #[.agg #[.int .u8 1, .bool false, .int .u64 0, .int .i64 0]] w fun e w' => e = .returned (.agg #[.int .u8 1, .bool false, .int .u64 0, .int .i64 0]) ∧ Below w.heap.size w w' := by
  go_enter Try.func28, Try.ntmps28
  go_wp2
  refine bodyPost_ret (v := .agg #[.int .u8 1, .bool false, .int .u64 0, .int .i64 0]) (by simp [results, Try.f28, go_sem]) rfl ?_
  exact ⟨rfl, by repeat (first | exact Below.refl _ _ | refine bel ?_ | refine Below.drew ?_)⟩
end Go.Proofs.Ytiohmcfabjmcoaa
