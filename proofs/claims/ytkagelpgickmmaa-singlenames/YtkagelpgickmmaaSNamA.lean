import Derived.Test.YtkagelpgickmmaaSOneLaw
import Derived.Lib.Tables
namespace Go.Proofs.Ytkagelpgickmmaa
open Go.RowKit

theorem tab_1 : Lib.len8 1 = 1 := by decide +kernel
set_option maxRecDepth 100000 in
theorem len_16777217 (W : World) : Calls Try.prog 39 #[.int .u64 16777217] W fun e w' => e = .returned (.int .i64 25) ∧ w' = W := by
  have h := tab_1
  go_enter Try.func39, Try.ntmps39
  go_wp2
  go_ret
  exact ⟨by first | rfl | simp [h], rfl⟩
theorem lead_16777217 (W : World) : Calls Try.prog 34 #[.int .u64 16777217] W fun e w' => e = .returned (.int .i64 39) ∧ w' = W := by
  go_enter Try.func34, Try.ntmps34
  go_wp2_with (go_at_call 39; refine (len_16777217 _).mono ?_; rintro e wq ⟨rfl, hq⟩; subst wq)
  go_ret
  exact ⟨rfl, rfl⟩
set_option maxRecDepth 100000 in
theorem len_1 (W : World) : Calls Try.prog 39 #[.int .u64 1] W fun e w' => e = .returned (.int .i64 1) ∧ w' = W := by
  have h := tab_1
  go_enter Try.func39, Try.ntmps39
  go_wp2
  go_ret
  exact ⟨by first | rfl | simp [h], rfl⟩
theorem lead_1 (W : World) : Calls Try.prog 34 #[.int .u64 1] W fun e w' => e = .returned (.int .i64 63) ∧ w' = W := by
  go_enter Try.func34, Try.ntmps34
  go_wp2_with (go_at_call 39; refine (len_1 _).mono ?_; rintro e wq ⟨rfl, hq⟩; subst wq)
  go_ret
  exact ⟨rfl, rfl⟩
set_option maxRecDepth 100000 in
theorem len_33554431 (W : World) : Calls Try.prog 39 #[.int .u64 33554431] W fun e w' => e = .returned (.int .i64 25) ∧ w' = W := by
  have h := tab_1
  go_enter Try.func39, Try.ntmps39
  go_wp2
  go_ret
  exact ⟨by first | rfl | simp [h], rfl⟩
theorem lead_33554431 (W : World) : Calls Try.prog 34 #[.int .u64 33554431] W fun e w' => e = .returned (.int .i64 39) ∧ w' = W := by
  go_enter Try.func34, Try.ntmps34
  go_wp2_with (go_at_call 39; refine (len_33554431 _).mono ?_; rintro e wq ⟨rfl, hq⟩; subst wq)
  go_ret
  exact ⟨rfl, rfl⟩
set_option maxRecDepth 100000 in
theorem raised_A (W : World) : Calls Try.prog 27 #[.int .u64 16777217, .int .i64 0, .bool false] W fun e w' => e = .returned (.tuple #[.int .u64 9223372586610589696, .int .i64 (-39), .bool false]) ∧ w' = W := by
  go_enter Try.func27, Try.ntmps27
  go_wp2_with (go_at_call 34; refine (lead_16777217 _).mono ?_; rintro e wq ⟨rfl, hq⟩; subst wq)
  refine bodyPost_ret (v := .tuple #[.int .u64 9223372586610589696, .int .i64 (-39), .bool false]) (by simp [results, Try.f27, go_sem]) rfl ?_
  exact ⟨rfl, rfl⟩
set_option maxRecDepth 100000 in
theorem nearest_A (W : World) : Calls Try.prog 28 #[.int .u64 9223372586610589696, .int .i64 (-39), .bool false] W fun e w' => e = .returned (.int .u32 1266679808) ∧ w' = W := by
  have c : ∀ w, Calls Try.prog 35 #[.int .u32 8388608, .int .i64 1] w fun e w' => e = .returned (.int .u32 1266679808) ∧ w' = w := fun w => by
    go_enter Try.func35, Try.ntmps35
    go_wp2
    go_ret
    exact ⟨rfl, rfl⟩
  have o2 : bits .and .u64 9223372586610589696 1099511627775 = 549755813888 := by decide +kernel
  go_enter Try.func28, Try.ntmps28
  go_wp2_with (go_at_call 35; refine (c _).mono ?_; rintro e wq ⟨rfl, hq⟩; subst wq)
  go_ret
  exact ⟨rfl, rfl⟩
set_option maxRecDepth 100000 in
theorem round_A (W : World) : Calls Try.prog 8 #[.bool false, .int .u64 16777217, .int .i64 0, .bool false] W fun e w' => e = .returned (.int .u32 1266679808) ∧ w' = W := by
  have c : ∀ w, Calls Try.prog 26 #[.bool false, .int .u32 1266679808] w fun e w' => e = .returned (.int .u32 1266679808) ∧ w' = w := fun w => by
    go_enter Try.func26, Try.ntmps26
    go_wp2
    go_ret
    exact ⟨rfl, rfl⟩
  go_enter Try.func8, Try.ntmps8
  go_wp2_with (first
    | (go_at_call 27; refine (raised_A _).mono ?_; rintro e wq ⟨rfl, hq⟩; subst wq)
    | (go_at_call 28; refine (nearest_A _).mono ?_; rintro e wq ⟨rfl, hq⟩; subst wq)
    | (go_at_call 26; refine (c _).mono ?_; rintro e wq ⟨rfl, hq⟩; subst wq))
  go_ret
  exact ⟨rfl, rfl⟩
set_option maxRecDepth 100000 in
theorem raised_B (W : World) : Calls Try.prog 27 #[.int .u64 16777217, .int .i64 0, .bool true] W fun e w' => e = .returned (.tuple #[.int .u64 9223372861488496640, .int .i64 (-39), .bool false]) ∧ w' = W := by
  have o1 : bits .or .u64 9223372586610589696 274877906944 = 9223372861488496640 := by decide +kernel
  go_enter Try.func27, Try.ntmps27
  go_wp2_with (go_at_call 34; refine (lead_16777217 _).mono ?_; rintro e wq ⟨rfl, hq⟩; subst wq)
  refine bodyPost_ret (v := .tuple #[.int .u64 9223372861488496640, .int .i64 (-39), .bool false]) (by simp [results, Try.f27, go_sem]) rfl ?_
  exact ⟨rfl, rfl⟩
set_option maxRecDepth 100000 in
theorem nearest_B (W : World) : Calls Try.prog 28 #[.int .u64 9223372861488496640, .int .i64 (-39), .bool false] W fun e w' => e = .returned (.int .u32 1266679809) ∧ w' = W := by
  have c : ∀ w, Calls Try.prog 35 #[.int .u32 8388609, .int .i64 1] w fun e w' => e = .returned (.int .u32 1266679809) ∧ w' = w := fun w => by
    go_enter Try.func35, Try.ntmps35
    go_wp2
    go_ret
    exact ⟨rfl, rfl⟩
  have o2 : bits .and .u64 9223372861488496640 1099511627775 = 824633720832 := by decide +kernel
  go_enter Try.func28, Try.ntmps28
  go_wp2_with (go_at_call 35; refine (c _).mono ?_; rintro e wq ⟨rfl, hq⟩; subst wq)
  go_ret
  exact ⟨rfl, rfl⟩
set_option maxRecDepth 100000 in
theorem round_B (W : World) : Calls Try.prog 8 #[.bool false, .int .u64 16777217, .int .i64 0, .bool true] W fun e w' => e = .returned (.int .u32 1266679809) ∧ w' = W := by
  have c : ∀ w, Calls Try.prog 26 #[.bool false, .int .u32 1266679809] w fun e w' => e = .returned (.int .u32 1266679809) ∧ w' = w := fun w => by
    go_enter Try.func26, Try.ntmps26
    go_wp2
    go_ret
    exact ⟨rfl, rfl⟩
  go_enter Try.func8, Try.ntmps8
  go_wp2_with (first
    | (go_at_call 27; refine (raised_B _).mono ?_; rintro e wq ⟨rfl, hq⟩; subst wq)
    | (go_at_call 28; refine (nearest_B _).mono ?_; rintro e wq ⟨rfl, hq⟩; subst wq)
    | (go_at_call 26; refine (c _).mono ?_; rintro e wq ⟨rfl, hq⟩; subst wq))
  go_ret
  exact ⟨rfl, rfl⟩
set_option maxRecDepth 100000 in
theorem raised_C (W : World) : Calls Try.prog 27 #[.int .u64 1, .int .i64 (-150), .bool false] W fun e w' => e = .returned (.tuple #[.int .u64 9223372036854775808, .int .i64 (-213), .bool false]) ∧ w' = W := by
  go_enter Try.func27, Try.ntmps27
  go_wp2_with (go_at_call 34; refine (lead_1 _).mono ?_; rintro e wq ⟨rfl, hq⟩; subst wq)
  refine bodyPost_ret (v := .tuple #[.int .u64 9223372036854775808, .int .i64 (-213), .bool false]) (by simp [results, Try.f27, go_sem]) rfl ?_
  exact ⟨rfl, rfl⟩
set_option maxRecDepth 100000 in
theorem nearest_C (W : World) : Calls Try.prog 28 #[.int .u64 9223372036854775808, .int .i64 (-213), .bool false] W fun e w' => e = .returned (.int .u32 0) ∧ w' = W := by
  have c : ∀ w, Calls Try.prog 35 #[.int .u32 0, .int .i64 (-149)] w fun e w' => e = .returned (.int .u32 0) ∧ w' = w := fun w => by
    go_enter Try.func35, Try.ntmps35
    go_wp2
    go_ret
    exact ⟨rfl, rfl⟩
  have o2 : bits .and .u64 9223372036854775808 18446744073709551615 = 9223372036854775808 := by decide +kernel
  go_enter Try.func28, Try.ntmps28
  go_wp2_with (go_at_call 35; refine (c _).mono ?_; rintro e wq ⟨rfl, hq⟩; subst wq)
  go_ret
  exact ⟨rfl, rfl⟩
set_option maxRecDepth 100000 in
theorem round_C (W : World) : Calls Try.prog 8 #[.bool true, .int .u64 1, .int .i64 (-150), .bool false] W fun e w' => e = .returned (.int .u32 2147483648) ∧ w' = W := by
  have c : ∀ w, Calls Try.prog 26 #[.bool true, .int .u32 0] w fun e w' => e = .returned (.int .u32 2147483648) ∧ w' = w := fun w => by
    have o3 : bits .or .u32 0 2147483648 = 2147483648 := by decide +kernel
    go_enter Try.func26, Try.ntmps26
    go_wp2
    go_ret
    exact ⟨rfl, rfl⟩
  go_enter Try.func8, Try.ntmps8
  go_wp2_with (first
    | (go_at_call 27; refine (raised_C _).mono ?_; rintro e wq ⟨rfl, hq⟩; subst wq)
    | (go_at_call 28; refine (nearest_C _).mono ?_; rintro e wq ⟨rfl, hq⟩; subst wq)
    | (go_at_call 26; refine (c _).mono ?_; rintro e wq ⟨rfl, hq⟩; subst wq))
  go_ret
  exact ⟨rfl, rfl⟩
set_option maxRecDepth 100000 in
theorem raised_D (W : World) : Calls Try.prog 27 #[.int .u64 1, .int .i64 (-150), .bool true] W fun e w' => e = .returned (.tuple #[.int .u64 13835058055282163712, .int .i64 (-213), .bool false]) ∧ w' = W := by
  have o1 : bits .or .u64 9223372036854775808 4611686018427387904 = 13835058055282163712 := by decide +kernel
  go_enter Try.func27, Try.ntmps27
  go_wp2_with (go_at_call 34; refine (lead_1 _).mono ?_; rintro e wq ⟨rfl, hq⟩; subst wq)
  refine bodyPost_ret (v := .tuple #[.int .u64 13835058055282163712, .int .i64 (-213), .bool false]) (by simp [results, Try.f27, go_sem]) rfl ?_
  exact ⟨rfl, rfl⟩
set_option maxRecDepth 100000 in
theorem nearest_D (W : World) : Calls Try.prog 28 #[.int .u64 13835058055282163712, .int .i64 (-213), .bool false] W fun e w' => e = .returned (.int .u32 1) ∧ w' = W := by
  have c : ∀ w, Calls Try.prog 35 #[.int .u32 1, .int .i64 (-149)] w fun e w' => e = .returned (.int .u32 1) ∧ w' = w := fun w => by
    go_enter Try.func35, Try.ntmps35
    go_wp2
    go_ret
    exact ⟨rfl, rfl⟩
  have o2 : bits .and .u64 13835058055282163712 18446744073709551615 = 13835058055282163712 := by decide +kernel
  go_enter Try.func28, Try.ntmps28
  go_wp2_with (go_at_call 35; refine (c _).mono ?_; rintro e wq ⟨rfl, hq⟩; subst wq)
  go_ret
  exact ⟨rfl, rfl⟩
set_option maxRecDepth 100000 in
theorem round_D (W : World) : Calls Try.prog 8 #[.bool true, .int .u64 1, .int .i64 (-150), .bool true] W fun e w' => e = .returned (.int .u32 2147483649) ∧ w' = W := by
  have c : ∀ w, Calls Try.prog 26 #[.bool true, .int .u32 1] w fun e w' => e = .returned (.int .u32 2147483649) ∧ w' = w := fun w => by
    have o3 : bits .or .u32 1 2147483648 = 2147483649 := by decide +kernel
    go_enter Try.func26, Try.ntmps26
    go_wp2
    go_ret
    exact ⟨rfl, rfl⟩
  go_enter Try.func8, Try.ntmps8
  go_wp2_with (first
    | (go_at_call 27; refine (raised_D _).mono ?_; rintro e wq ⟨rfl, hq⟩; subst wq)
    | (go_at_call 28; refine (nearest_D _).mono ?_; rintro e wq ⟨rfl, hq⟩; subst wq)
    | (go_at_call 26; refine (c _).mono ?_; rintro e wq ⟨rfl, hq⟩; subst wq))
  go_ret
  exact ⟨rfl, rfl⟩
set_option maxRecDepth 100000 in
theorem raised_E (W : World) : Calls Try.prog 27 #[.int .u64 33554431, .int .i64 103, .bool false] W fun e w' => e = .returned (.tuple #[.int .u64 18446743523953737728, .int .i64 64, .bool false]) ∧ w' = W := by
  go_enter Try.func27, Try.ntmps27
  go_wp2_with (go_at_call 34; refine (lead_33554431 _).mono ?_; rintro e wq ⟨rfl, hq⟩; subst wq)
  refine bodyPost_ret (v := .tuple #[.int .u64 18446743523953737728, .int .i64 64, .bool false]) (by simp [results, Try.f27, go_sem]) rfl ?_
  exact ⟨rfl, rfl⟩
set_option maxRecDepth 100000 in
theorem nearest_E (W : World) : Calls Try.prog 28 #[.int .u64 18446743523953737728, .int .i64 64, .bool false] W fun e w' => e = .returned (.int .u32 2139095040) ∧ w' = W := by
  have c : ∀ w, Calls Try.prog 35 #[.int .u32 16777216, .int .i64 104] w fun e w' => e = .returned (.int .u32 2139095040) ∧ w' = w := fun w => by
    go_enter Try.func35, Try.ntmps35
    go_wp2
    go_ret
    exact ⟨rfl, rfl⟩
  have o2 : bits .and .u64 18446743523953737728 1099511627775 = 549755813888 := by decide +kernel
  go_enter Try.func28, Try.ntmps28
  go_wp2_with (go_at_call 35; refine (c _).mono ?_; rintro e wq ⟨rfl, hq⟩; subst wq)
  go_ret
  exact ⟨rfl, rfl⟩
set_option maxRecDepth 100000 in
theorem round_E (W : World) : Calls Try.prog 8 #[.bool false, .int .u64 33554431, .int .i64 103, .bool false] W fun e w' => e = .returned (.int .u32 2139095040) ∧ w' = W := by
  have c : ∀ w, Calls Try.prog 26 #[.bool false, .int .u32 2139095040] w fun e w' => e = .returned (.int .u32 2139095040) ∧ w' = w := fun w => by
    go_enter Try.func26, Try.ntmps26
    go_wp2
    go_ret
    exact ⟨rfl, rfl⟩
  go_enter Try.func8, Try.ntmps8
  go_wp2_with (first
    | (go_at_call 27; refine (raised_E _).mono ?_; rintro e wq ⟨rfl, hq⟩; subst wq)
    | (go_at_call 28; refine (nearest_E _).mono ?_; rintro e wq ⟨rfl, hq⟩; subst wq)
    | (go_at_call 26; refine (c _).mono ?_; rintro e wq ⟨rfl, hq⟩; subst wq))
  go_ret
  exact ⟨rfl, rfl⟩
end Go.Proofs.Ytkagelpgickmmaa
