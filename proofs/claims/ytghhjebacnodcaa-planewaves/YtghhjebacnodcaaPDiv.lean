import Derived.Test.YtghhjebacnodcaaPWh
namespace Go.Proofs.Ytghhjebacnodcaa
open Go.RowKit
theorem div_pow {m t k a c D U : Nat} (h : m * 2 ^ k = t * 2 ^ a * 2 ^ U) (hk : a + (c + 1) ≤ k + D) : m * 2 ^ (c + 1) * 2 ^ (k + D - a - (c + 1)) = t * 2 ^ U * 2 ^ D := by
  have h2 : m * 2 ^ (c + 1) * 2 ^ (k + D - a - (c + 1)) * 2 ^ a = t * 2 ^ U * 2 ^ D * 2 ^ a := by
    have e2 : m * 2 ^ (c + 1) * 2 ^ (k + D - a - (c + 1)) * 2 ^ a = m * 2 ^ k * 2 ^ D := by
      rw [Nat.mul_assoc, Nat.mul_assoc, ← Nat.pow_add, ← Nat.pow_add, Nat.mul_assoc, ← Nat.pow_add]
      congr 2; omega
    rw [e2, h]
    rw [Nat.mul_right_comm _ (2 ^ a) (2 ^ U), Nat.mul_right_comm _ (2 ^ a) (2 ^ D)]
  exact Nat.eq_of_mul_eq_mul_right (Nat.two_pow_pos a) h2
/-- a whole number divided by 1, 2 or 4 -/
theorem wh_div {x y : Nat} {u t : Int} (a : Nat) (ha : a ≤ 2) (hy : Ieee.double.read y = .number false 4503599627370496 (-1074 + ((1022 + a : Nat) : Int))) (hx : Wh x u) (hu : u = t * (2 ^ a : Nat)) (hb : t.natAbs ≤ 9007199254740992) :
    ∃ r, floatBits .quo .f64 x y = some r ∧ Wh r t := by
  obtain ⟨m, k, e1, v1, hm, s1⟩ := wh_read hx
  have h0 : floatBits .quo .f64 x y = ((Ieee.double.read x).quotient 54 (Ieee.double.read y)).map Ieee.double.write := rfl
  rw [e1, hy] at h0
  simp only [Ieee.Datum.quotient, if_neg (show ¬ (4503599627370496 : Nat) = 0 by decide), Option.map_some] at h0
  have hlg : (4503599627370496 : Nat).log2 = 52 := by decide
  have hml := log_lt (n := m) (k := 53) (by decide) (by omega)
  rw [hlg] at h0
  obtain ⟨c, hc⟩ : ∃ c, 54 + 52 - m.log2 = c + 52 := ⟨54 - m.log2, by omega⟩
  have hc1 : c ≤ 54 := by omega
  rw [hc, Nat.shiftLeft_eq] at h0
  have hd : m * 2 ^ (c + 52) = 4503599627370496 * (m * 2 ^ c) := by
    rw [Nat.pow_add, ← Nat.mul_assoc, Nat.mul_comm]
  rw [hd, Nat.mul_div_cancel_left _ (by decide), Nat.mul_mod_right] at h0
  have hM : 2 * (m * 2 ^ c) + ((0 : Nat) != 0).toNat = m * 2 ^ (c + 1) := by
    rw [Nat.pow_succ, ← Nat.mul_assoc m (2 ^ c) 2, Nat.mul_comm (m * 2 ^ c) 2]; rfl
  rw [hM] at h0
  have hpa := Nat.two_pow_pos a
  obtain ⟨D, hD⟩ : ∃ D : Nat, D = 200 := ⟨_, rfl⟩
  refine ⟨_, h0, write_wh _ _ _ t D (k + D - a - (c + 1)) hb (by omega) ?_ ?_⟩
  · have h1 : u.natAbs = t.natAbs * 2 ^ a := by rw [hu, Int.natAbs_mul, Int.natAbs_natCast]
    rw [h1] at v1
    exact div_pow v1 (by omega)
  · intro ht
    have hpa' : (0 : Int) < (2 ^ a : Nat) := by omega
    have hu0 : u ≠ 0 := by
      intro h
      rw [h] at hu
      rcases Int.mul_eq_zero.1 hu.symm with h | h <;> omega
    rw [s1 hu0, Bool.xor_false]
    apply decide_eq_decide.2
    rw [hu]
    constructor
    · intro h
      apply Int.lt_of_not_ge
      intro hge
      have := Int.mul_nonneg hge (Int.le_of_lt hpa')
      omega
    · intro h
      exact Int.mul_neg_of_neg_of_pos h hpa'
theorem wh_0 : Wh 0 0 := ⟨by decide, by decide, by unfold sv; rw [show sg 0 = false from rfl, if_neg (by decide)]; simp [vl]⟩
theorem wh_1 : Wh 4607182418800017408 1 := wh_of 1 (by decide)
theorem wh_m1 : Wh 13830554455654793216 (-1) := wh_ng wh_1
end Go.Proofs.Ytghhjebacnodcaa
