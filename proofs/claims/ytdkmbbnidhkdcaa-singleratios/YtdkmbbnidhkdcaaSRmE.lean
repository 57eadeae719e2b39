import Derived.Test.YtdkmbbnidhkdcaaSRmB
import Derived.Test.YtdkmbbnidhkdcaaSRmD0
import Derived.Test.YtdkmbbnidhkdcaaSRmD1
import Derived.Test.YtdkmbbnidhkdcaaSRmD2
import Derived.Test.YtdkmbbnidhkdcaaSRmD3
namespace Go.Proofs.Ytdkmbbnidhkdcaa
open Go.RowKit

set_option maxHeartbeats 1000000 in
theorem rndM_any (m : Bool) (v0 : Value) (x0 NN : Nat) (P0 P : Int) (w : World) (hv0 : NatV w v0 x0) (hx0 : x0 < 2 ^ (32 * 6)) (hNN : x0 * 2 + 1 = NN) (hP1 : P0 - 1 = P) (hnl : nbits NN ≤ 4000) (hP : -5000 ≤ P) (hP2 : P ≤ 5000) :
    Calls Try.prog 35 #[.agg #[.int .i64 24, .int .i64 (-149), .int .i64 104], .bool m, v0, .int .i64 P0, .bool true] w fun e w' => (∃ n p, e = .returned (hdV m n p) ∧ Fits n p (rg Ieee.single NN P)) ∧ Below w.heap.size w w' := by
  have h0 : NN ≠ 0 := by omega
  obtain ⟨b1, b2, b3⟩ := nb_bounds NN h0
  obtain ⟨nb, hnb⟩ : ∃ nb, nbits NN = nb := ⟨_, rfl⟩
  obtain ⟨K, hK⟩ : ∃ K, max (P + nbits NN - 24) (-149) = K := ⟨_, rfl⟩
  by_cases hKP : K ≤ P
  · obtain ⟨X, hX⟩ : ∃ X : Nat, P - K = X := ⟨(P - K).toNat, by omega⟩
    have hrg := rg_up NN h0 P K X hK hX
    rw [hnb] at hK b1 b2 b3 hnl
    have hMX : NN * 2 ^ X < 16777216 := by
      have h1 : NN * 2 ^ X < 2 ^ nb * 2 ^ X := Nat.mul_lt_mul_of_pos_right b2 (Nat.two_pow_pos _)
      rw [← Nat.pow_add] at h1
      have h2 : 2 ^ (nb + X) ≤ 2 ^ 24 := Nat.pow_le_pow_right (by decide) (by omega)
      rw [p24] at h2
      omega
    by_cases hA : P + nb - 24 < -149
    · obtain rfl : K = -149 := by omega
      refine (rM1a m v0 x0 NN P0 P nb X _ w hv0 hx0 hNN hP1 hnb hnl hP hP2 hA hX rfl (by omega)).mono fun e w' ⟨he, hb⟩ => ⟨⟨_, _, he, 0, by omega, hMX, Or.inl rfl, ?_⟩, hb⟩
      rw [hrg, show ((-149 : Int) + 149).toNat = 0 from rfl]
    · have hK2 : P + nb - 24 = K := by omega
      refine (rM1b m v0 x0 NN P0 P nb X _ K w hv0 hx0 hNN hP1 hnb hnl hP hP2 hA hK2 hKP hX rfl (by omega)).mono fun e w' ⟨he, hb⟩ => ⟨⟨_, _, he, (K + 149).toNat, by omega, hMX, Or.inr ?_, hrg⟩, hb⟩
      have h1 : 2 ^ (nb - 1) * 2 ^ X ≤ NN * 2 ^ X := Nat.mul_le_mul_right _ b1
      rw [← Nat.pow_add, show nb - 1 + X = 23 by omega, p23] at h1
      exact h1
  · obtain ⟨D, hD⟩ : ∃ D : Nat, K - P = D := ⟨(K - P).toNat, by omega⟩
    have hrg := rg_dn NN h0 P K D hK hD
    rw [hnb] at hK b1 b2 b3 hnl
    by_cases hDn : D ≤ nb + 1
    · have hql : NN / 2 ^ D < 16777216 := by
        rw [Nat.div_lt_iff_lt_mul (Nat.two_pow_pos D), ← p24, ← Nat.pow_add]
        exact Nat.lt_of_lt_of_le b2 (Nat.pow_le_pow_right (by decide) (by omega))
      have hqg : ¬ P + nb - 24 < -149 → 8388608 ≤ NN / 2 ^ D := by
        intro h
        rw [Nat.le_div_iff_mul_le (Nat.two_pow_pos D), ← p23, ← Nat.pow_add]
        exact Nat.le_trans (Nat.pow_le_pow_right (by decide) (by omega)) b1
      obtain ⟨q, hq⟩ : ∃ q, NN / 2 ^ D = q := ⟨_, rfl⟩
      obtain ⟨R, hR⟩ : ∃ R, NN % 2 ^ D = R := ⟨_, rfl⟩
      obtain ⟨half, hh⟩ : ∃ half, 2 ^ (D - 1) = half := ⟨_, rfl⟩
      have h2h : 2 ^ D = 2 * half := by rw [← hh, ← Nat.pow_succ']; congr 1; omega
      have hR2 : NN - q * 2 ^ D = R := by
        have := Nat.div_add_mod NN (2 ^ D)
        rw [hq, hR, Nat.mul_comm] at this
        omega
      have hrn : rne NN (2 ^ D) = q + (if half < R ∨ (R = half ∧ q % 2 = 1) then 1 else 0) := by
        unfold rne
        rw [hq, hR, h2h]
        congr 1
        have hc : (2 * half < 2 * R ∨ 2 * half = 2 * R ∧ q % 2 = 1) ↔ (half < R ∨ (R = half ∧ q % 2 = 1)) := by omega
        by_cases c : half < R ∨ (R = half ∧ q % 2 = 1)
        · rw [if_pos c, if_pos (hc.2 c)]
        · rw [if_neg c, if_neg (fun x => c (hc.1 x))]
      rw [hrn] at hrg
      rw [hq] at hql hqg
      have hfit : ∀ n : Nat, n < 16777216 → (¬ P + nb - 24 < -149 → 8388608 ≤ n) → rg Ieee.single NN P = (K + 149).toNat * 8388608 + n → Fits n K (rg Ieee.single NN P) := by
        intro n h1 h2 h3
        refine ⟨(K + 149).toNat, by omega, h1, ?_, h3⟩
        by_cases hA : P + nb - 24 < -149
        · left; omega
        · exact Or.inr (h2 hA)
      have hfit2 : q + 1 = 16777216 → rg Ieee.single NN P = (K + 149).toNat * 8388608 + (q + 1) → Fits 8388608 (K + 1) (rg Ieee.single NN P) := by
        intro h1 h3
        exact fits_over K q _ (by omega) h1 h3
      by_cases hA : P + nb - 24 < -149
      · have hK2 : -149 = K := by omega
        by_cases c1 : half < R
        · rw [if_pos (Or.inl c1)] at hrg
          by_cases ho : q + 1 = 16777216
          · exact (rM3Lgo m v0 x0 NN P0 P nb D q R half K w hv0 hx0 hNN hP1 hnb hnl hP hP2 hA hK2 (by omega) hD hDn hq hql hR2 hh c1 ho).mono fun e w' ⟨he, hb⟩ => ⟨⟨_, _, he, hfit2 ho hrg⟩, hb⟩
          · exact (rM3Lg m v0 x0 NN P0 P nb D q R half K w hv0 hx0 hNN hP1 hnb hnl hP hP2 hA hK2 (by omega) hD hDn hq hql hR2 hh c1 _ rfl ho).mono fun e w' ⟨he, hb⟩ => ⟨⟨_, _, he, hfit (q + 1) (by omega) (fun h => absurd hA h) hrg⟩, hb⟩
        by_cases c2 : R = half
        · by_cases c3 : q % 2 = 1
          · rw [if_pos (Or.inr ⟨c2, c3⟩)] at hrg
            by_cases ho : q + 1 = 16777216
            · exact (rM3Lxo m v0 x0 NN P0 P nb D q R half K w hv0 hx0 hNN hP1 hnb hnl hP hP2 hA hK2 (by omega) hD hDn hq hql hR2 hh c2 c3 ho).mono fun e w' ⟨he, hb⟩ => ⟨⟨_, _, he, hfit2 ho hrg⟩, hb⟩
            · exact (rM3Lx m v0 x0 NN P0 P nb D q R half K w hv0 hx0 hNN hP1 hnb hnl hP hP2 hA hK2 (by omega) hD hDn hq hql hR2 hh c2 c3 _ rfl ho).mono fun e w' ⟨he, hb⟩ => ⟨⟨_, _, he, hfit (q + 1) (by omega) (fun h => absurd hA h) hrg⟩, hb⟩
          · rw [if_neg (by omega), Nat.add_zero] at hrg
            exact (rM3Le m v0 x0 NN P0 P nb D q R half K w hv0 hx0 hNN hP1 hnb hnl hP hP2 hA hK2 (by omega) hD hDn hq hql hR2 hh c2 (by omega)).mono fun e w' ⟨he, hb⟩ => ⟨⟨_, _, he, hfit q hql hqg hrg⟩, hb⟩
        · rw [if_neg (by omega), Nat.add_zero] at hrg
          exact (rM3Ll m v0 x0 NN P0 P nb D q R half K w hv0 hx0 hNN hP1 hnb hnl hP hP2 hA hK2 (by omega) hD hDn hq hql hR2 hh (by omega)).mono fun e w' ⟨he, hb⟩ => ⟨⟨_, _, he, hfit q hql hqg hrg⟩, hb⟩
      · have hK2 : P + nb - 24 = K := by omega
        have hg := hqg hA
        by_cases c1 : half < R
        · rw [if_pos (Or.inl c1)] at hrg
          by_cases ho : q + 1 = 16777216
          · exact (rM3Hgo m v0 x0 NN P0 P nb D q R half K w hv0 hx0 hNN hP1 hnb hnl hP hP2 hA hK2 (by omega) hD hDn hq hql hR2 hh c1 ho).mono fun e w' ⟨he, hb⟩ => ⟨⟨_, _, he, hfit2 ho hrg⟩, hb⟩
          · exact (rM3Hg m v0 x0 NN P0 P nb D q R half K w hv0 hx0 hNN hP1 hnb hnl hP hP2 hA hK2 (by omega) hD hDn hq hql hR2 hh c1 _ rfl ho).mono fun e w' ⟨he, hb⟩ => ⟨⟨_, _, he, hfit (q + 1) (by omega) (fun _ => by omega) hrg⟩, hb⟩
        by_cases c2 : R = half
        · by_cases c3 : q % 2 = 1
          · rw [if_pos (Or.inr ⟨c2, c3⟩)] at hrg
            by_cases ho : q + 1 = 16777216
            · exact (rM3Hxo m v0 x0 NN P0 P nb D q R half K w hv0 hx0 hNN hP1 hnb hnl hP hP2 hA hK2 (by omega) hD hDn hq hql hR2 hh c2 c3 ho).mono fun e w' ⟨he, hb⟩ => ⟨⟨_, _, he, hfit2 ho hrg⟩, hb⟩
            · exact (rM3Hx m v0 x0 NN P0 P nb D q R half K w hv0 hx0 hNN hP1 hnb hnl hP hP2 hA hK2 (by omega) hD hDn hq hql hR2 hh c2 c3 _ rfl ho).mono fun e w' ⟨he, hb⟩ => ⟨⟨_, _, he, hfit (q + 1) (by omega) (fun _ => by omega) hrg⟩, hb⟩
          · rw [if_neg (by omega), Nat.add_zero] at hrg
            exact (rM3He m v0 x0 NN P0 P nb D q R half K w hv0 hx0 hNN hP1 hnb hnl hP hP2 hA hK2 (by omega) hD hDn hq hql hR2 hh c2 (by omega)).mono fun e w' ⟨he, hb⟩ => ⟨⟨_, _, he, hfit q hql hqg hrg⟩, hb⟩
        · rw [if_neg (by omega), Nat.add_zero] at hrg
          exact (rM3Hl m v0 x0 NN P0 P nb D q R half K w hv0 hx0 hNN hP1 hnb hnl hP hP2 hA hK2 (by omega) hD hDn hq hql hR2 hh (by omega)).mono fun e w' ⟨he, hb⟩ => ⟨⟨_, _, he, hfit q hql hqg hrg⟩, hb⟩
    · have hA : P + nb - 24 < -149 := by omega
      have hK2 : K = -149 := by omega
      subst hK2
      refine (rM2 m v0 x0 NN P0 P nb w hv0 hx0 hNN hP1 hnb hnl hP hP2 hA (by omega) (by omega)).mono fun e w' ⟨he, hb⟩ => ⟨⟨_, _, he, 0, by omega, by omega, Or.inl rfl, ?_⟩, hb⟩
      have h1 : NN < 2 ^ D := Nat.lt_of_lt_of_le b2 (Nat.pow_le_pow_right (by decide) (by omega))
      have h2 : 2 * NN < 2 ^ D := by
        have h3 : 2 ^ (nb + 1) ≤ 2 ^ D := Nat.pow_le_pow_right (by decide) (by omega)
        rw [Nat.pow_succ] at h3
        omega
      rw [hrg]
      unfold rne
      rw [Nat.div_eq_of_lt h1, Nat.mod_eq_of_lt h1, if_neg (by omega), show ((-149 : Int) + 149).toNat = 0 from rfl]
end Go.Proofs.Ytdkmbbnidhkdcaa
