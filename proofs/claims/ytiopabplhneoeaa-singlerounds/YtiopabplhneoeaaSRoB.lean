import Derived.Test.YtiopabplhneoeaaSRoA
namespace Go.Proofs.Ytiopabplhneoeaa
open Go.RowKit

theorem u64_pow (D : Nat) (h : D ≤ 63) : IntKind.u64.wrap ((2 : Int) ^ D) = ((2 ^ D : Nat) : Int) := by
  have h1 : 2 ^ D ≤ 2 ^ 63 := Nat.pow_le_pow_right (by decide) h
  have h2 : (2 : Nat) ^ 63 = 9223372036854775808 := by decide
  rw [h2] at h1
  have e : (2 : Int) ^ D = ((2 ^ D : Nat) : Int) := by simp
  rw [IntKind.wrap_u64, e]
  generalize 2 ^ D = t at *
  omega
theorem u64_mask (M D : Nat) (hM : M < 18446744073709551616) (h : D ≤ 64) : bits .and .u64 (M : Int) (IntKind.u64.wrap (IntKind.u64.wrap ((2 : Int) ^ D) - 1)) = ((M % 2 ^ D : Nat) : Int) := by
  have hm : IntKind.u64.wrap (IntKind.u64.wrap ((2 : Int) ^ D) - 1) = ((2 ^ D - 1 : Nat) : Int) := by
    by_cases h6 : D = 64
    · subst h6; decide
    · have h0 := Nat.two_pow_pos D
      have h1 : 2 ^ D ≤ 2 ^ 63 := Nat.pow_le_pow_right (by decide) (by omega)
      have h2 : (2 : Nat) ^ 63 = 9223372036854775808 := by decide
      rw [h2] at h1
      rw [u64_pow D (by omega), IntKind.wrap_u64]
      generalize 2 ^ D = t at *
      omega
  have hl : 2 ^ D - 1 < 18446744073709551616 := by
    have h1 : 2 ^ D ≤ 2 ^ 64 := Nat.pow_le_pow_right (by decide) h
    have h2 : (2 : Nat) ^ 64 = 18446744073709551616 := by decide
    have h0 := Nat.two_pow_pos D
    omega
  rw [hm, u64_and_nat M (2 ^ D - 1) hM hl, Nat.and_two_pow_sub_one_eq_mod]
set_option maxRecDepth 100000 in
set_option maxHeartbeats 1000000 in
theorem nst_l (M D q R h k : Nat) (P : Int) (mo : Bool) (w : World) (hP1 : -5000 ≤ P) (hD : max (40 : Int) (-149 - P) = (D : Int)) (hD2 : D ≤ 64) (hk : P + (D : Int) = -149 + (k : Int)) (hk2 : k ≤ 253) (e1 : (M : Int) / 2 ^ D = (q : Int)) (hq2 : q < 16777216) (e2 : bits .and .u64 (M : Int) (IntKind.u64.wrap (IntKind.u64.wrap ((2 : Int) ^ D) - 1)) = (R : Int)) (e3 : IntKind.u64.wrap ((2 : Int) ^ (D - 1)) = (h : Int)) (hlt : R < h) :
    Calls Try.prog 24 #[.int .u64 M, .int .i64 P, .bool mo] w fun e w' => e = .returned (.int .u32 (k * 8388608 + q : Nat)) ∧ w' = w := by
  have h' : P + (D : Int) ≤ 104 := by omega
  go_enter Try.func24, Try.ntmps24
  go_wp2_with (go_at_call 40; with_reducible refine (fin_any k q _ hk2 (by omega)).mono ?_; rintro e wq ⟨rfl, hq⟩; subst wq)
  go_ret
  exact ⟨rfl, rfl⟩
set_option maxRecDepth 100000 in
set_option maxHeartbeats 1000000 in
theorem nst_g (M D q Q R h k : Nat) (P : Int) (mo : Bool) (w : World) (hP1 : -5000 ≤ P) (hD : max (40 : Int) (-149 - P) = (D : Int)) (hD2 : D ≤ 64) (hk : P + (D : Int) = -149 + (k : Int)) (hk2 : k ≤ 253) (e1 : (M : Int) / 2 ^ D = (q : Int)) (hq2 : Q ≤ 16777216) (hQ : (q : Int) + 1 = (Q : Int)) (e2 : bits .and .u64 (M : Int) (IntKind.u64.wrap (IntKind.u64.wrap ((2 : Int) ^ D) - 1)) = (R : Int)) (e3 : IntKind.u64.wrap ((2 : Int) ^ (D - 1)) = (h : Int)) (hlt : h < R) :
    Calls Try.prog 24 #[.int .u64 M, .int .i64 P, .bool mo] w fun e w' => e = .returned (.int .u32 (k * 8388608 + Q : Nat)) ∧ w' = w := by
  have h' : P + (D : Int) ≤ 104 := by omega
  go_enter Try.func24, Try.ntmps24
  go_wp2_with (go_at_call 40; with_reducible refine (fin_any k Q _ hk2 (by omega)).mono ?_; rintro e wq ⟨rfl, hq⟩; subst wq)
  go_ret
  exact ⟨rfl, rfl⟩
set_option maxRecDepth 100000 in
set_option maxHeartbeats 1000000 in
theorem nst_em (M D q Q h k : Nat) (P : Int) (w : World) (hP1 : -5000 ≤ P) (hD : max (40 : Int) (-149 - P) = (D : Int)) (hD2 : D ≤ 64) (hk : P + (D : Int) = -149 + (k : Int)) (hk2 : k ≤ 253) (e1 : (M : Int) / 2 ^ D = (q : Int)) (hq2 : Q ≤ 16777216) (hQ : (q : Int) + 1 = (Q : Int)) (e2 : bits .and .u64 (M : Int) (IntKind.u64.wrap (IntKind.u64.wrap ((2 : Int) ^ D) - 1)) = (h : Int)) (e3 : IntKind.u64.wrap ((2 : Int) ^ (D - 1)) = (h : Int)) :
    Calls Try.prog 24 #[.int .u64 M, .int .i64 P, .bool true] w fun e w' => e = .returned (.int .u32 (k * 8388608 + Q : Nat)) ∧ w' = w := by
  have h' : P + (D : Int) ≤ 104 := by omega
  go_enter Try.func24, Try.ntmps24
  go_wp2_with (go_at_call 40; with_reducible refine (fin_any k Q _ hk2 (by omega)).mono ?_; rintro e wq ⟨rfl, hq⟩; subst wq)
  go_ret
  exact ⟨rfl, rfl⟩
set_option maxRecDepth 100000 in
set_option maxHeartbeats 1000000 in
theorem nst_eo (M D q Q h k : Nat) (P : Int) (w : World) (hP1 : -5000 ≤ P) (hD : max (40 : Int) (-149 - P) = (D : Int)) (hD2 : D ≤ 64) (hk : P + (D : Int) = -149 + (k : Int)) (hk2 : k ≤ 253) (e1 : (M : Int) / 2 ^ D = (q : Int)) (hq2 : Q ≤ 16777216) (hQ : (q : Int) + 1 = (Q : Int)) (e2 : bits .and .u64 (M : Int) (IntKind.u64.wrap (IntKind.u64.wrap ((2 : Int) ^ D) - 1)) = (h : Int)) (e3 : IntKind.u64.wrap ((2 : Int) ^ (D - 1)) = (h : Int)) (ho : q % 2 = 1) :
    Calls Try.prog 24 #[.int .u64 M, .int .i64 P, .bool false] w fun e w' => e = .returned (.int .u32 (k * 8388608 + Q : Nat)) ∧ w' = w := by
  have h' : P + (D : Int) ≤ 104 := by omega
  go_enter Try.func24, Try.ntmps24
  go_wp2_with (go_at_call 40; with_reducible refine (fin_any k Q _ hk2 (by omega)).mono ?_; rintro e wq ⟨rfl, hq⟩; subst wq)
  go_ret
  exact ⟨rfl, rfl⟩
set_option maxRecDepth 100000 in
set_option maxHeartbeats 1000000 in
theorem nst_ee (M D q h k : Nat) (P : Int) (w : World) (hP1 : -5000 ≤ P) (hD : max (40 : Int) (-149 - P) = (D : Int)) (hD2 : D ≤ 64) (hk : P + (D : Int) = -149 + (k : Int)) (hk2 : k ≤ 253) (e1 : (M : Int) / 2 ^ D = (q : Int)) (hq2 : q < 16777216) (e2 : bits .and .u64 (M : Int) (IntKind.u64.wrap (IntKind.u64.wrap ((2 : Int) ^ D) - 1)) = (h : Int)) (e3 : IntKind.u64.wrap ((2 : Int) ^ (D - 1)) = (h : Int)) (ho : q % 2 = 0) :
    Calls Try.prog 24 #[.int .u64 M, .int .i64 P, .bool false] w fun e w' => e = .returned (.int .u32 (k * 8388608 + q : Nat)) ∧ w' = w := by
  have h' : P + (D : Int) ≤ 104 := by omega
  go_enter Try.func24, Try.ntmps24
  go_wp2_with (go_at_call 40; with_reducible refine (fin_any k q _ hk2 (by omega)).mono ?_; rintro e wq ⟨rfl, hq⟩; subst wq)
  go_ret
  exact ⟨rfl, rfl⟩
end Go.Proofs.Ytiopabplhneoeaa
