import Derived.Test.YtiopabplhneoeaaSRoB
namespace Go.Proofs.Ytiopabplhneoeaa
open Go.RowKit

theorem rne_half (M mt D q R h : Nat) (hmt : mt ≤ 1) (hD : 1 ≤ D) (hq : M / 2 ^ D = q) (hR : M % 2 ^ D = R) (hh : 2 ^ (D - 1) = h) :
    rne (2 * M + mt) (2 ^ (D + 1)) = q + (if h < R ∨ (R = h ∧ (mt = 1 ∨ q % 2 = 1)) then 1 else 0) := by
  have hg : 2 ^ D = 2 * h := by rw [← hh, ← Nat.pow_succ', show (D - 1).succ = D by omega]
  have hg2 : 2 ^ (D + 1) = 2 * 2 ^ D := by rw [Nat.pow_succ, Nat.mul_comm]
  have hpos := Nat.two_pow_pos D
  have hdm := Nat.div_add_mod M (2 ^ D)
  have hRl : R < 2 ^ D := by rw [← hR]; exact Nat.mod_lt _ hpos
  rw [hq, hR] at hdm
  have e1 : (2 * M + mt) / 2 ^ (D + 1) = q := by
    rw [hg2, ← Nat.div_div_eq_div_mul, show (2 * M + mt) / 2 = M by omega, hq]
  have e2 : (2 * M + mt) % 2 ^ (D + 1) = 2 * R + mt := by
    have h1 := Nat.div_add_mod (2 * M + mt) (2 ^ (D + 1))
    rw [e1, hg2, Nat.mul_assoc] at h1
    rw [hg2]
    omega
  unfold rne
  rw [e1, e2, hg2]
  congr 1
  rw [hg]
  by_cases c : h < R ∨ (R = h ∧ (mt = 1 ∨ q % 2 = 1))
  · rw [if_pos c, if_pos]; omega
  · rw [if_neg c, if_neg]; omega
theorem nb65 (N : Nat) (h1 : 2 ^ 64 ≤ N) (h2 : N < 2 ^ 65) : nbits N = 65 := by
  have h0 : N ≠ 0 := by have : 0 < 2 ^ 64 := Nat.two_pow_pos 64; omega
  obtain ⟨b1, b2, b3⟩ := nb_bounds N h0
  have c1 := (Nat.pow_lt_pow_iff_right (a := 2) (by decide)).1 (Nat.lt_of_le_of_lt b1 h2)
  have c2 := (Nat.pow_lt_pow_iff_right (a := 2) (by decide)).1 (Nat.lt_of_le_of_lt h1 b2)
  omega
theorem rg_shift (f : Ieee.Format) (hp : 0 < f.fractionBits) (N z : Nat) (Q : Int) : rg f (N * 2 ^ z) (Q - z) = rg f N Q := by
  obtain ⟨d, hd⟩ : ∃ d : Nat, f.leastPlace ≤ Q - z + d := ⟨(f.leastPlace - (Q - z)).toNat, by omega⟩
  have n1 := rg_near f hp (N * 2 ^ z) (Q - z) d hd
  have n2 := rg_near f hp N Q d (by omega)
  rw [Nat.mul_assoc, ← Nat.pow_add, show z + (Q - z - f.leastPlace + d).toNat = (Q - f.leastPlace + d).toNat by omega] at n1
  exact n1.unique (Nat.two_pow_pos _) n2
theorem nst_any (M : Nat) (P : Int) (mo : Bool) (w : World) (h1 : 9223372036854775808 ≤ M) (h2 : M < 18446744073709551616) (hP : -4000 ≤ P) (hP2 : P ≤ 4000) :
    Calls Try.prog 24 #[.int .u64 M, .int .i64 P, .bool mo] w fun e w' => e = .returned (.int .u32 (min (rg Ieee.single (2 * M + mo.toNat) (P - 1)) 2139095040 : Nat)) ∧ w' = w := by
  have hmt : mo.toNat ≤ 1 := by cases mo <;> decide
  obtain ⟨mt, hm⟩ : ∃ mt, mt = mo.toNat := ⟨_, rfl⟩
  rw [← hm] at hmt ⊢
  have hp64 : (2 : Nat) ^ 64 = 18446744073709551616 := by decide
  have hp65 : (2 : Nat) ^ 65 = 36893488147419103232 := by decide
  have hnb : nbits (2 * M + mt) = 65 := nb65 _ (by omega) (by omega)
  obtain ⟨K, hK⟩ : ∃ K, max (P - 1 + 65 - 24) (-149) = K := ⟨_, rfl⟩
  obtain ⟨D, hD⟩ : ∃ D : Nat, max (40 : Int) (-149 - P) = (D : Int) := ⟨(max (40 : Int) (-149 - P)).toNat, by omega⟩
  have hrg := rg_dn (2 * M + mt) (by omega) (P - 1) K (D + 1) (by rw [hnb]; exact hK) (by omega)
  by_cases hfar : 64 < -149 - P
  · refine (nst_far M P mo w (by omega) hfar).mono fun e w' ⟨he, hw⟩ => ⟨?_, hw⟩
    have hl : 2 * M + mt < 2 ^ D := Nat.lt_of_lt_of_le (show 2 * M + mt < 2 ^ 65 by omega) (Nat.pow_le_pow_right (by decide) (by omega))
    have hg2 : 2 ^ (D + 1) = 2 * 2 ^ D := by rw [Nat.pow_succ, Nat.mul_comm]
    have hr0 : rne (2 * M + mt) (2 ^ (D + 1)) = 0 := by
      unfold rne
      rw [Nat.div_eq_of_lt (by omega), Nat.mod_eq_of_lt (by omega), if_neg (by omega)]
    rw [hrg, hr0, show (K + 149).toNat = 0 by omega]
    exact he
  have hD2 : D ≤ 64 := by omega
  obtain ⟨q, hq⟩ : ∃ q, M / 2 ^ D = q := ⟨_, rfl⟩
  obtain ⟨R, hR⟩ : ∃ R, M % 2 ^ D = R := ⟨_, rfl⟩
  obtain ⟨h, hh⟩ : ∃ h, 2 ^ (D - 1) = h := ⟨_, rfl⟩
  rw [rne_half M mt D q R h hmt (by omega) hq hR hh] at hrg
  have hql : q < 16777216 := by
    rw [← hq, Nat.div_lt_iff_lt_mul (Nat.two_pow_pos D)]
    have : 2 ^ 40 ≤ 2 ^ D := Nat.pow_le_pow_right (by decide) (by omega)
    have h40 : (2 : Nat) ^ 40 = 1099511627776 := by decide
    omega
  by_cases hbig : 64 < P
  · refine (nst_big M P mo w (by omega) hbig).mono fun e w' ⟨he, hw⟩ => ⟨?_, hw⟩
    have hD4 : D = 40 := by omega
    have hqg : 8388608 ≤ q := by
      have h40 : (2 : Nat) ^ 40 = 1099511627776 := by decide
      rw [← hq, hD4, h40]; omega
    rw [show min (rg Ieee.single (2 * M + mt) (P - 1)) 2139095040 = 2139095040 from ?_]
    · exact he
    · rw [hrg]
      have : 254 ≤ (K + 149).toNat := by omega
      generalize (K + 149).toNat = t at *
      exact Nat.min_eq_right (Nat.le_trans (show 2139095040 ≤ t * 8388608 + q by omega) (Nat.add_le_add_left (Nat.le_add_right _ _) _))
  obtain ⟨k, hk⟩ : ∃ k : Nat, P + (D : Int) = -149 + (k : Int) := ⟨(P + (D : Int) + 149).toNat, by omega⟩
  have hk2 : k ≤ 253 := by omega
  have hKk : (K + 149).toNat = k := by omega
  rw [hKk] at hrg
  have e1 : (M : Int) / 2 ^ D = (q : Int) := by rw [← hq]; simp
  have e2 := u64_mask M D h2 hD2
  rw [hR] at e2
  have e3 := u64_pow (D - 1) (by omega)
  rw [hh] at e3
  have fin : ∀ Q, Q ≤ 16777216 → rg Ieee.single (2 * M + mt) (P - 1) = k * 8388608 + Q → min (rg Ieee.single (2 * M + mt) (P - 1)) 2139095040 = k * 8388608 + Q := by
    intro Q hQ e
    rw [e]; exact Nat.min_eq_left (by omega)
  by_cases c1 : h < R
  · rw [if_pos (Or.inl c1)] at hrg
    rw [fin (q + 1) (by omega) hrg]
    exact nst_g M D q (q + 1) R h k P mo w (by omega) hD hD2 hk hk2 e1 (by omega) (by omega) e2 e3 c1
  by_cases c2 : R = h
  · rw [c2] at e2 hrg
    by_cases c3 : mt = 1
    · rw [if_pos (Or.inr ⟨rfl, Or.inl c3⟩)] at hrg
      rw [fin (q + 1) (by omega) hrg]
      have : mo = true := by cases mo <;> simp_all
      subst this
      exact nst_em M D q (q + 1) h k P w (by omega) hD hD2 hk hk2 e1 (by omega) (by omega) e2 e3
    · have : mo = false := by cases mo <;> simp_all
      subst this
      by_cases c4 : q % 2 = 1
      · rw [if_pos (Or.inr ⟨rfl, Or.inr c4⟩)] at hrg
        rw [fin (q + 1) (by omega) hrg]
        exact nst_eo M D q (q + 1) h k P w (by omega) hD hD2 hk hk2 e1 (by omega) (by omega) e2 e3 c4
      · rw [if_neg (by omega)] at hrg
        rw [fin q (by omega) hrg]
        exact nst_ee M D q h k P w (by omega) hD hD2 hk hk2 e1 (by omega) e2 e3 (by omega)
  · rw [if_neg (by omega)] at hrg
    rw [fin q (by omega) hrg]
    exact nst_l M D q R h k P mo w (by omega) hD hD2 hk hk2 e1 (by omega) e2 e3 (by omega)
end Go.Proofs.Ytiopabplhneoeaa
