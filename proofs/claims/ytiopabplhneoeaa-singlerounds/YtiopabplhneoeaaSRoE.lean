import Derived.Test.YtiopabplhneoeaaSRoD
namespace Go.Proofs.Ytiopabplhneoeaa
open Go.RowKit

/-- what raised gives, by what it is worth -/
theorem rai_any (x : Nat) (P : Int) (mo : Bool) (w : World) (hx : x < 18446744073709551616) (h0 : x ≠ 0 ∨ mo = true) (hP : -4000 ≤ P) (hP2 : P ≤ 3000) :
    Calls Try.prog 23 #[.int .u64 x, .int .i64 P, .bool mo] w fun e w' => (∃ (M : Nat) (P' : Int) (mo' : Bool), e = .returned (.tuple #[.int .u64 M, .int .i64 P', .bool mo']) ∧ 9223372036854775808 ≤ M ∧ M < 18446744073709551616 ∧ P - 64 ≤ P' ∧ P' ≤ P ∧ rg Ieee.single (2 * M + mo'.toNat) (P' - 1) = rg Ieee.single (2 * x + mo.toNat) (P - 1)) ∧ w' = w := by
  have hp64 : (2 : Nat) ^ 64 = 18446744073709551616 := by decide
  have hp63 : (2 : Nat) ^ 63 = 9223372036854775808 := by decide
  have hnb : nbits x ≤ 64 := by
    by_cases hx0 : x = 0
    · subst hx0; decide
    · obtain ⟨b1, b2, b3⟩ := nb_bounds x hx0
      have c1 := (Nat.pow_lt_pow_iff_right (a := 2) (by decide)).1 (Nat.lt_of_le_of_lt b1 (show x < 2 ^ 64 by omega))
      omega
  by_cases h64 : nbits x = 64
  · refine (rai_0 x P mo w hx h64).mono fun e w' ⟨he, hw⟩ => ⟨⟨x, P, mo, he, ?_, hx, by omega, by omega, rfl⟩, hw⟩
    have hx0 : x ≠ 0 := by intro h; subst h; revert h64; decide
    obtain ⟨b1, b2, b3⟩ := nb_bounds x hx0
    rw [h64] at b1
    omega
  obtain ⟨z, hz⟩ : ∃ z, nbits x + z = 64 := ⟨64 - nbits x, by omega⟩
  have hxb : x < 2 ^ nbits x := by
    by_cases hx0 : x = 0
    · subst hx0; decide
    · exact (nb_bounds x hx0).2.1
  have hY : x * 2 ^ z + 2 ^ z ≤ 18446744073709551616 := by
    have h1 : (x + 1) * 2 ^ z ≤ 2 ^ nbits x * 2 ^ z := Nat.mul_le_mul_right _ hxb
    rw [← Nat.pow_add, hz, hp64, Nat.succ_mul] at h1
    exact h1
  have hpz := Nat.two_pow_pos z
  have hh : 2 ^ z = 2 * 2 ^ (z - 1) := by rw [← Nat.pow_succ', show (z - 1).succ = z by omega]
  have e1 : IntKind.u64.wrap ((x : Int) * 2 ^ z) = ((x * 2 ^ z : Nat) : Int) := by
    rw [IntKind.wrap_u64, show (x : Int) * 2 ^ z = ((x * 2 ^ z : Nat) : Int) by simp]
    generalize x * 2 ^ z = t at *
    omega
  have hlow : x ≠ 0 → 9223372036854775808 ≤ x * 2 ^ z := by
    intro hx0
    obtain ⟨b1, b2, b3⟩ := nb_bounds x hx0
    have h1 : 2 ^ (nbits x - 1) * 2 ^ z ≤ x * 2 ^ z := Nat.mul_le_mul_right _ b1
    rw [← Nat.pow_add, show nbits x - 1 + z = 63 by omega, hp63] at h1
    exact h1
  cases mo with
  | false =>
    have hx0 : x ≠ 0 := by simpa using h0
    refine (rai_f x z (x * 2 ^ z) P w hx hz (by omega) (by omega) e1 (by omega) (by omega)).mono fun e w' ⟨he, hw⟩ => ⟨⟨x * 2 ^ z, P - z, false, he, hlow hx0, by omega, by omega, by omega, ?_⟩, hw⟩
    have := rg_shift Ieee.single (by decide) (2 * x) z (P - 1)
    rw [show P - 1 - (z : Int) = P - z - 1 by omega, Nat.mul_assoc] at this
    exact this
  | true =>
    have hor : x * 2 ^ z ||| 2 ^ (z - 1) = x * 2 ^ z + 2 ^ (z - 1) := by
      have := (Nat.shiftLeft_add_eq_or_of_lt (i := z) (b := 2 ^ (z - 1)) (by have := Nat.two_pow_pos (z - 1); omega) x).symm
      rw [Nat.shiftLeft_eq] at this
      exact this
    have hb1 := Nat.two_pow_pos (z - 1)
    have hYl : x * 2 ^ z + 2 ^ (z - 1) < 18446744073709551616 := by
      generalize x * 2 ^ z = t at *
      generalize 2 ^ (z - 1) = u at *
      omega
    have e2 : bits .or .u64 ((x * 2 ^ z : Nat) : Int) (IntKind.u64.wrap (2 ^ (z - 1))) = ((x * 2 ^ z + 2 ^ (z - 1) : Nat) : Int) := by
      rw [u64_pow (z - 1) (by omega), u64_or_nat _ _ (Nat.lt_of_le_of_lt (Nat.le_add_right _ _) hYl) (Nat.lt_of_le_of_lt (Nat.le_add_left _ _) hYl), hor]
    refine (rai_t x z (x * 2 ^ z) (x * 2 ^ z + 2 ^ (z - 1)) P w hx hz (by omega) (by omega) e1 e2 (by omega) (by omega)).mono fun e w' ⟨he, hw⟩ => ⟨⟨x * 2 ^ z + 2 ^ (z - 1), P - z, false, he, ?_, hYl, by omega, by omega, ?_⟩, hw⟩
    · by_cases hx0 : x = 0
      · subst hx0
        have : z = 64 := by have : nbits 0 = 0 := by decide
                            omega
        subst this
        decide
      · exact Nat.le_trans (hlow hx0) (Nat.le_add_right _ _)
    · have := rg_shift Ieee.single (by decide) (2 * x + 1) z (P - 1)
      rw [show P - 1 - (z : Int) = P - z - 1 by omega] at this
      rw [show 2 * (x * 2 ^ z + 2 ^ (z - 1)) + false.toNat = (2 * x + 1) * 2 ^ z from ?_]
      · exact this
      · rw [Nat.add_mul, Nat.mul_assoc, Nat.one_mul, Nat.mul_add, ← hh]; rfl
theorem hid_mk {p : Prop} (h : p) : Hid p := h
theorem nst_r (M : Nat) (P : Int) (mo : Bool) (r : Nat) (w : World) (h1 : 9223372036854775808 ≤ M) (h2 : M < 18446744073709551616) (hP : -4000 ≤ P) (hP2 : P ≤ 4000) (hr : rg Ieee.single (2 * M + mo.toNat) (P - 1) = r) :
    Calls Try.prog 24 #[.int .u64 M, .int .i64 P, .bool mo] w fun e w' => e = .returned (.int .u32 (min r 2139095040 : Nat)) ∧ w' = w := by
  have := nst_any M P mo w h1 h2 hP hP2
  rw [hr] at this
  exact this
/-- a power that is far is held -/
def clp (P : Int) : Int := max (-1000) (min P 1000)
set_option maxRecDepth 100000 in
set_option maxHeartbeats 1000000 in
theorem pround_0 (m : Bool) (P : Int) (w : World) :
    Calls Try.prog 8 #[.bool m, .int .u64 0, .int .i64 P, .bool false] w fun e w' => e = .returned (.int .u32 (wrd m 0 : Nat)) ∧ w' = w := by
  have c : ∀ w, Calls Try.prog 22 #[.bool m, .int .u32 0] w fun e w' => e = .returned (.int .u32 (wrd m 0 : Nat)) ∧ w' = w := fun w => sgn_any m 0 w (by decide)
  go_enter Try.func8, Try.ntmps8
  go_wp2_with (go_at_call 22; with_reducible refine (c _).mono ?_; rintro e wq ⟨rfl, hq⟩; subst wq)
  go_ret
  exact ⟨rfl, rfl⟩
set_option maxRecDepth 100000 in
set_option maxHeartbeats 1000000 in
theorem pround_n (m : Bool) (x : Nat) (P : Int) (mo : Bool) (w : World) (hx : x < 18446744073709551616) (h0 : ((x : Int) == 0 && !mo) = false) (hP : -9223372036854775808 ≤ P) (hP2 : P ≤ 9223372036854775807) :
    Calls Try.prog 8 #[.bool m, .int .u64 x, .int .i64 P, .bool mo] w fun e w' => e = .returned (.int .u32 (wrd m (min (rg Ieee.single (2 * x + mo.toNat) (clp P - 1)) 2139095040) : Nat)) ∧ w' = w := by
  have h0' : x ≠ 0 ∨ mo = true := by
    by_cases hx0 : x = 0
    · subst hx0; right; simpa using h0
    · exact Or.inl hx0
  have hc : max (-1000) (min P 1000) = clp P := rfl
  obtain ⟨Q, hQ⟩ : ∃ Q, clp P = Q := ⟨_, rfl⟩
  have hb : -1000 ≤ Q ∧ Q ≤ 1000 := by unfold clp at hQ; omega
  rw [hQ] at hc ⊢
  have HR := fun w => rai_any x Q mo w hx h0' (by omega) (by omega)
  clear hQ
  generalize rg Ieee.single (2 * x + mo.toNat) (Q - 1) = r at *
  cases mo with
  | false =>
    have hx0 : ((x : Int) == 0) = false := by simpa using h0
    clear h0 h0'
    go_enter Try.func8, Try.ntmps8
    go_wp2_with (first
      | (go_at_call 23; with_reducible refine (HR _).mono ?_; rintro e wq ⟨⟨M1, P1, mo1, rfl, g1, g2, g3, g4, g5⟩, hq⟩; subst wq; replace g5 := hid_mk g5)
      | (go_at_call 24; with_reducible refine (nst_r M1 P1 mo1 r _ g1 g2 (by omega) (by omega) g5.out).mono ?_; rintro e wq ⟨rfl, hq⟩; subst wq)
      | (go_at_call 22; with_reducible refine (sgn_any m _ _ (Nat.lt_of_le_of_lt (Nat.min_le_right _ _) (by decide))).mono ?_; rintro e wq ⟨rfl, hq⟩; subst wq))
    go_ret
    exact ⟨rfl, rfl⟩
  | true =>
    clear h0 h0'
    by_cases hx0 : x = 0
    · subst hx0
      simp only [show ((0 : Nat) : Int) = 0 from rfl] at HR
      go_enter Try.func8, Try.ntmps8
      go_wp2_with (first
        | (go_at_call 23; with_reducible refine (HR _).mono ?_; rintro e wq ⟨⟨M1, P1, mo1, rfl, g1, g2, g3, g4, g5⟩, hq⟩; subst wq; replace g5 := hid_mk g5)
        | (go_at_call 24; with_reducible refine (nst_r M1 P1 mo1 r _ g1 g2 (by omega) (by omega) g5.out).mono ?_; rintro e wq ⟨rfl, hq⟩; subst wq)
        | (go_at_call 22; with_reducible refine (sgn_any m _ _ (Nat.lt_of_le_of_lt (Nat.min_le_right _ _) (by decide))).mono ?_; rintro e wq ⟨rfl, hq⟩; subst wq))
      go_ret
      exact ⟨rfl, rfl⟩
    · have hx0' : ((x : Int) == 0) = false := by rw [beq_eq_false_iff_ne]; omega
      clear hx0
      go_enter Try.func8, Try.ntmps8
      go_wp2_with (first
        | (go_at_call 23; with_reducible refine (HR _).mono ?_; rintro e wq ⟨⟨M1, P1, mo1, rfl, g1, g2, g3, g4, g5⟩, hq⟩; subst wq; replace g5 := hid_mk g5)
        | (go_at_call 24; with_reducible refine (nst_r M1 P1 mo1 r _ g1 g2 (by omega) (by omega) g5.out).mono ?_; rintro e wq ⟨rfl, hq⟩; subst wq)
        | (go_at_call 22; with_reducible refine (sgn_any m _ _ (Nat.lt_of_le_of_lt (Nat.min_le_right _ _) (by decide))).mono ?_; rintro e wq ⟨rfl, hq⟩; subst wq))
      go_ret
      exact ⟨rfl, rfl⟩
end Go.Proofs.Ytiopabplhneoeaa
