import Derived.Test.YtjggbdlmghembaaGreatCSOvC
import Derived.Test.YtjggbdlmghembaaGreatSRmD0
import Derived.Test.YtjggbdlmghembaaGreatSRmD1
import Derived.Test.YtjggbdlmghembaaGreatSRmD2
import Derived.Test.YtjggbdlmghembaaGreatSRmD3
import Derived.Test.YtjggbdlmghembaaGreatCABRm
namespace Go.Proofs.YtjggbdlmghembaaGreat
open Go.RowKit
set_option maxRecDepth 100000

set_option maxHeartbeats 1000000 in
theorem rndM_any (m : Bool) (v0 : Value) (x0 NN : Nat) (P0 P : Int) (w : World) (hv0 : NatV w v0 x0) (hx0 : x0 < 2 ^ (32 * 6)) (hNN : x0 * 2 + 1 = NN) (hP1 : P0 - 1 = P) (hnl : nbits NN ≤ 4000) (hP : -5000 ≤ P) (hP2 : P ≤ 5000) :
    Calls Tryz.prog 68 #[.agg #[.int .i64 24, .int .i64 (-149), .int .i64 104], .bool m, v0, .int .i64 P0, .bool true] w fun e w' => (∃ n p, e = .returned (hdV m n p) ∧ Fits n p (rg Ieee.single NN P)) ∧ Below w.heap.size w w' := by
  have h0 : NN ≠ 0 := by omega
  obtain ⟨b1, b2, b3⟩ := nb_bounds NN h0
  obtain ⟨nb, hnb⟩ : ∃ nb, nbits NN = nb := ⟨_, rfl⟩
  obtain ⟨K, hK⟩ : ∃ K, max (P + nbits NN - 24) (-149) = K := ⟨_, rfl⟩
  by_cases hKP : K ≤ P
  · obtain ⟨X, hX⟩ : ∃ X : Nat, P - K = X := ⟨(P - K).toNat, by omega⟩
    have hrg := rg_up NN h0 P K X hK hX
    rw [hnb] at hK b1 b2 b3 hnl
    have hMX : NN * 2 ^ X < 16777216 := by
      have h1 : NN * 2 ^ X < 2 ^ nb * 2 ^ X := Nat.mul_lt_mul_of_pos_right b2 (Nat.two_pow_pos _)
      rw [← Nat.pow_add] at h1
      have h2 : 2 ^ (nb + X) ≤ 2 ^ 24 := Nat.pow_le_pow_right (by decide) (by omega)
      rw [p24] at h2
      omega
    by_cases hA : P + nb - 24 < -149
    · obtain rfl : K = -149 := by omega
      refine (rM1a m v0 x0 NN P0 P nb X _ w hv0 hx0 hNN hP1 hnb hnl hP hP2 hA hX rfl (by omega)).mono fun e w' ⟨he, hb⟩ => ⟨⟨_, _, he, 0, by omega, hMX, Or.inl rfl, ?_⟩, hb⟩
      rw [hrg, show ((-149 : Int) + 149).toNat = 0 from rfl]
    · have hK2 : P + nb - 24 = K := by omega
      refine (rM1b m v0 x0 NN P0 P nb X _ K w hv0 hx0 hNN hP1 hnb hnl hP hP2 hA hK2 hKP hX rfl (by omega)).mono fun e w' ⟨he, hb⟩ => ⟨⟨_, _, he, (K + 149).toNat, by omega, hMX, Or.inr ?_, hrg⟩, hb⟩
      have h1 : 2 ^ (nb - 1) * 2 ^ X ≤ NN * 2 ^ X := Nat.mul_le_mul_right _ b1
      rw [← Nat.pow_add, show nb - 1 + X = 23 by omega, p23] at h1
      exact h1
  · obtain ⟨D, hD⟩ : ∃ D : Nat, K - P = D := ⟨(K - P).toNat, by omega⟩
    have hrg := rg_dn NN h0 P K D hK hD
    rw [hnb] at hK b1 b2 b3 hnl
    by_cases hDn : D ≤ nb + 1
    · have hql : NN / 2 ^ D < 16777216 := by
        rw [Nat.div_lt_iff_lt_mul (Nat.two_pow_pos D), ← p24, ← Nat.pow_add]
        exact Nat.lt_of_lt_of_le b2 (Nat.pow_le_pow_right (by decide) (by omega))
      have hqg : ¬ P + nb - 24 < -149 → 8388608 ≤ NN / 2 ^ D := by
        intro h
        rw [Nat.le_div_iff_mul_le (Nat.two_pow_pos D), ← p23, ← Nat.pow_add]
        exact Nat.le_trans (Nat.pow_le_pow_right (by decide) (by omega)) b1
      obtain ⟨q, hq⟩ : ∃ q, NN / 2 ^ D = q := ⟨_, rfl⟩
      obtain ⟨R, hR⟩ : ∃ R, NN % 2 ^ D = R := ⟨_, rfl⟩
      obtain ⟨half, hh⟩ : ∃ half, 2 ^ (D - 1) = half := ⟨_, rfl⟩
      have h2h : 2 ^ D = 2 * half := by rw [← hh, ← Nat.pow_succ']; congr 1; omega
      have hR2 : NN - q * 2 ^ D = R := by
        have := Nat.div_add_mod NN (2 ^ D)
        rw [hq, hR, Nat.mul_comm] at this
        omega
      have hrn : rne NN (2 ^ D) = q + (if half < R ∨ (R = half ∧ q % 2 = 1) then 1 else 0) := by
        unfold rne
        rw [hq, hR, h2h]
        congr 1
        have hc : (2 * half < 2 * R ∨ 2 * half = 2 * R ∧ q % 2 = 1) ↔ (half < R ∨ (R = half ∧ q % 2 = 1)) := by omega
        by_cases c : half < R ∨ (R = half ∧ q % 2 = 1)
        · rw [if_pos c, if_pos (hc.2 c)]
        · rw [if_neg c, if_neg (fun x => c (hc.1 x))]
      rw [hrn] at hrg
      rw [hq] at hql hqg
      have hfit : ∀ n : Nat, n < 16777216 → (¬ P + nb - 24 < -149 → 8388608 ≤ n) → rg Ieee.single NN P = (K + 149).toNat * 8388608 + n → Fits n K (rg Ieee.single NN P) := by
        intro n h1 h2 h3
        refine ⟨(K + 149).toNat, by omega, h1, ?_, h3⟩
        by_cases hA : P + nb - 24 < -149
        · left; omega
        · exact Or.inr (h2 hA)
      have hfit2 : q + 1 = 16777216 → rg Ieee.single NN P = (K + 149).toNat * 8388608 + (q + 1) → Fits 8388608 (K + 1) (rg Ieee.single NN P) := by
        intro h1 h3
        exact fits_over K q _ (by omega) h1 h3
      by_cases hA : P + nb - 24 < -149
      · have hK2 : -149 = K := by omega
        by_cases c1 : half < R
        · rw [if_pos (Or.inl c1)] at hrg
          by_cases ho : q + 1 = 16777216
          · exact (rM3Lgo m v0 x0 NN P0 P nb D q R half K w hv0 hx0 hNN hP1 hnb hnl hP hP2 hA hK2 (by omega) hD hDn hq hql hR2 hh c1 ho).mono fun e w' ⟨he, hb⟩ => ⟨⟨_, _, he, hfit2 ho hrg⟩, hb⟩
          · exact (rM3Lg m v0 x0 NN P0 P nb D q R half K w hv0 hx0 hNN hP1 hnb hnl hP hP2 hA hK2 (by omega) hD hDn hq hql hR2 hh c1 _ rfl ho).mono fun e w' ⟨he, hb⟩ => ⟨⟨_, _, he, hfit (q + 1) (by omega) (fun h => absurd hA h) hrg⟩, hb⟩
        by_cases c2 : R = half
        · by_cases c3 : q % 2 = 1
          · rw [if_pos (Or.inr ⟨c2, c3⟩)] at hrg
            by_cases ho : q + 1 = 16777216
            · exact (rM3Lxo m v0 x0 NN P0 P nb D q R half K w hv0 hx0 hNN hP1 hnb hnl hP hP2 hA hK2 (by omega) hD hDn hq hql hR2 hh c2 c3 ho).mono fun e w' ⟨he, hb⟩ => ⟨⟨_, _, he, hfit2 ho hrg⟩, hb⟩
            · exact (rM3Lx m v0 x0 NN P0 P nb D q R half K w hv0 hx0 hNN hP1 hnb hnl hP hP2 hA hK2 (by omega) hD hDn hq hql hR2 hh c2 c3 _ rfl ho).mono fun e w' ⟨he, hb⟩ => ⟨⟨_, _, he, hfit (q + 1) (by omega) (fun h => absurd hA h) hrg⟩, hb⟩
          · rw [if_neg (by omega), Nat.add_zero] at hrg
            exact (rM3Le m v0 x0 NN P0 P nb D q R half K w hv0 hx0 hNN hP1 hnb hnl hP hP2 hA hK2 (by omega) hD hDn hq hql hR2 hh c2 (by omega)).mono fun e w' ⟨he, hb⟩ => ⟨⟨_, _, he, hfit q hql hqg hrg⟩, hb⟩
        · rw [if_neg (by omega), Nat.add_zero] at hrg
          exact (rM3Ll m v0 x0 NN P0 P nb D q R half K w hv0 hx0 hNN hP1 hnb hnl hP hP2 hA hK2 (by omega) hD hDn hq hql hR2 hh (by omega)).mono fun e w' ⟨he, hb⟩ => ⟨⟨_, _, he, hfit q hql hqg hrg⟩, hb⟩
      · have hK2 : P + nb - 24 = K := by omega
        have hg := hqg hA
        by_cases c1 : half < R
        · rw [if_pos (Or.inl c1)] at hrg
          by_cases ho : q + 1 = 16777216
          · exact (rM3Hgo m v0 x0 NN P0 P nb D q R half K w hv0 hx0 hNN hP1 hnb hnl hP hP2 hA hK2 (by omega) hD hDn hq hql hR2 hh c1 ho).mono fun e w' ⟨he, hb⟩ => ⟨⟨_, _, he, hfit2 ho hrg⟩, hb⟩
          · exact (rM3Hg m v0 x0 NN P0 P nb D q R half K w hv0 hx0 hNN hP1 hnb hnl hP hP2 hA hK2 (by omega) hD hDn hq hql hR2 hh c1 _ rfl ho).mono fun e w' ⟨he, hb⟩ => ⟨⟨_, _, he, hfit (q + 1) (by omega) (fun _ => by omega) hrg⟩, hb⟩
        by_cases c2 : R = half
        · by_cases c3 : q % 2 = 1
          · rw [if_pos (Or.inr ⟨c2, c3⟩)] at hrg
            by_cases ho : q + 1 = 16777216
            · exact (rM3Hxo m v0 x0 NN P0 P nb D q R half K w hv0 hx0 hNN hP1 hnb hnl hP hP2 hA hK2 (by omega) hD hDn hq hql hR2 hh c2 c3 ho).mono fun e w' ⟨he, hb⟩ => ⟨⟨_, _, he, hfit2 ho hrg⟩, hb⟩
            · exact (rM3Hx m v0 x0 NN P0 P nb D q R half K w hv0 hx0 hNN hP1 hnb hnl hP hP2 hA hK2 (by omega) hD hDn hq hql hR2 hh c2 c3 _ rfl ho).mono fun e w' ⟨he, hb⟩ => ⟨⟨_, _, he, hfit (q + 1) (by omega) (fun _ => by omega) hrg⟩, hb⟩
          · rw [if_neg (by omega), Nat.add_zero] at hrg
            exact (rM3He m v0 x0 NN P0 P nb D q R half K w hv0 hx0 hNN hP1 hnb hnl hP hP2 hA hK2 (by omega) hD hDn hq hql hR2 hh c2 (by omega)).mono fun e w' ⟨he, hb⟩ => ⟨⟨_, _, he, hfit q hql hqg hrg⟩, hb⟩
        · rw [if_neg (by omega), Nat.add_zero] at hrg
          exact (rM3Hl m v0 x0 NN P0 P nb D q R half K w hv0 hx0 hNN hP1 hnb hnl hP hP2 hA hK2 (by omega) hD hDn hq hql hR2 hh (by omega)).mono fun e w' ⟨he, hb⟩ => ⟨⟨_, _, he, hfit q hql hqg hrg⟩, hb⟩
    · have hA : P + nb - 24 < -149 := by omega
      have hK2 : K = -149 := by omega
      subst hK2
      refine (rM2 m v0 x0 NN P0 P nb w hv0 hx0 hNN hP1 hnb hnl hP hP2 hA (by omega) (by omega)).mono fun e w' ⟨he, hb⟩ => ⟨⟨_, _, he, 0, by omega, by omega, Or.inl rfl, ?_⟩, hb⟩
      have h1 : NN < 2 ^ D := Nat.lt_of_lt_of_le b2 (Nat.pow_le_pow_right (by decide) (by omega))
      have h2 : 2 * NN < 2 ^ D := by
        have h3 : 2 ^ (nb + 1) ≤ 2 ^ D := Nat.pow_le_pow_right (by decide) (by omega)
        rw [Nat.pow_succ] at h3
        omega
      rw [hrg]
      unfold rne
      rw [Nat.div_eq_of_lt h1, Nat.mod_eq_of_lt h1, if_neg (by omega), show ((-149 : Int) + 149).toNat = 0 from rfl]
end Go.Proofs.YtjggbdlmghembaaGreat
namespace Go.Proofs.YtjggbdlmghembaaGreat
open Go.RowKit
set_option maxRecDepth 100000

theorem rg_shift (f : Ieee.Format) (hp : 0 < f.fractionBits) (N z : Nat) (Q : Int) : rg f (N * 2 ^ z) (Q - z) = rg f N Q := by
  obtain ⟨d, hd⟩ : ∃ d : Nat, f.leastPlace ≤ Q - z + d := ⟨(f.leastPlace - (Q - z)).toNat, by omega⟩
  have n1 := rg_near f hp (N * 2 ^ z) (Q - z) d hd
  have n2 := rg_near f hp N Q d (by omega)
  rw [Nat.mul_assoc, ← Nat.pow_add, show z + (Q - z - f.leastPlace + d).toNat = (Q - f.leastPlace + d).toNat by omega] at n1
  exact n1.unique (Nat.two_pow_pos _) n2
theorem p192 : (2 : Nat) ^ (32 * 6) = 2 ^ 192 := rfl
theorem rnd_q (m : Bool) (v : Value) (x : Nat) (Q : Int) (mo : Bool) (r : Nat) (w : World) (h : NatV w v x) (hx : x < 2 ^ (32 * 6)) (hP : -2000 ≤ Q) (hP2 : Q ≤ 2000) (hr : rg Ieee.single (2 * x + mo.toNat) (Q - 1) = r) :
    Calls Tryz.prog 68 #[.agg #[.int .i64 24, .int .i64 (-149), .int .i64 104], .bool m, v, .int .i64 Q, .bool mo] w fun e w' => (∃ n p, e = .returned (hdV m n p) ∧ Fits n p r) ∧ Below w.heap.size w w' := by
  cases mo with
  | false =>
    have := rg_shift Ieee.single (by decide) x 1 Q
    rw [show x * 2 ^ 1 = 2 * x by omega] at this
    have hr' : rg Ieee.single x Q = r := by rw [← this]; exact hr
    have := rnd_nv m v x 6 Q w h hx (by omega) (by omega) (by omega)
    rw [hr'] at this
    exact this
  | true =>
    have hnl : nbits (2 * x + 1) ≤ 4000 := by
      obtain ⟨b1, b2, b3⟩ := nb_bounds (2 * x + 1) (by omega)
      have h9 : 2 * x + 1 < 2 ^ (192 + 1) := by rw [Nat.pow_succ, ← p192]; omega
      have c1 := (Nat.pow_lt_pow_iff_right (a := 2) (by decide)).1 (Nat.lt_of_le_of_lt b1 h9)
      omega
    have := rndM_any m v x (2 * x + 1) Q (Q - 1) w h hx (by omega) rfl hnl (by omega) (by omega)
    rw [show rg Ieee.single (2 * x + 1) (Q - 1) = r from hr] at this
    exact this
theorem q_lt (na : Nat) (h : na < 16777216) : na * 2 ^ 128 < 2 ^ (32 * 6) := by
  have h1 : na * 2 ^ 128 < 2 ^ 24 * 2 ^ 128 := Nat.mul_lt_mul_of_pos_right h (Nat.two_pow_pos _)
  rw [← Nat.pow_add] at h1
  exact Nat.lt_of_lt_of_le h1 (Nat.pow_le_pow_right (by decide) (by decide))
theorem over_q (v u : Value) (na nb V q : Nat) (mo : Bool) (w : World) (h : NatV w v V) (h' : NatV w u nb) (hna : na < 16777216) (hV : na * 2 ^ 128 = V) (hnb : nb < 16777216) (h0 : nb ≠ 0) (hq : V / nb = q) (hmo : decide (0 < V % nb) = mo) :
    Calls Tryz.prog 104 #[v, u] w fun e w' => (∃ v', e = .returned (.tuple #[v', .bool mo]) ∧ NatV w' v' q) ∧ Below w.heap.size w w' := by
  have hVl : V < 2 ^ (32 * 6) := by rw [← hV]; exact q_lt na hna
  have hnl : nbits V ≤ 3200 := by
    by_cases hz : V = 0
    · rw [hz]; decide
    · obtain ⟨b1, b2, b3⟩ := nb_bounds V hz
      have c1 := (Nat.pow_lt_pow_iff_right (a := 2) (by decide)).1 (Nat.lt_of_le_of_lt b1 (show V < 2 ^ 192 from hVl))
      omega
  have := over_nv v u V nb 6 _ w h h' hVl (Nat.lt_of_lt_of_le hnb (by decide)) (by omega) (by omega) rfl hnl
  rw [hmo, hq] at this
  exact this
set_option maxRecDepth 100000 in
set_option maxHeartbeats 4000000 in
theorem rt_n1 (sb : Int) (mb : Bool) (nb pb : Int) (w : World) :
    Calls Tryz.prog 96 #[.agg #[.int .i64 24, .int .i64 (-149), .int .i64 104], .agg #[.int .u8 1, .bool false, .int .u64 0, .int .i64 0], .agg #[.int .u8 sb, .bool mb, .int .u64 nb, .int .i64 pb]] w fun e w' => e = .returned (vN) ∧ Below w.heap.size w w' := by
  have HB : Below ((((w.alloc ob).alloc (oV 1 false 0 0)).alloc (oV sb mb nb pb)).alloc oz).heap.size ((((w.alloc ob).alloc (oV 1 false 0 0)).alloc (oV sb mb nb pb)).alloc oz) ((((w.alloc ob).alloc (oV 1 false 0 0)).alloc (oV sb mb nb pb)).alloc oz) := Below.refl _ _
  go_enter Tryz.func96, Tryz.ntmps96
  go_wp2_with (first
    | (go_at_call 99; with_reducible refine (vnone_b _).mono ?_; rintro e w1 ⟨rfl, hb1⟩; replace HB := bt2 hb1 (show Below ((((w.alloc ob).alloc (oV 1 false 0 0)).alloc (oV sb mb nb pb)).alloc oz).heap.size ((((w.alloc ob).alloc (oV 1 false 0 0)).alloc (oV sb mb nb pb)).alloc oz) _ from by (repeat (first | exact HB | exact Below.refl _ _ | with_reducible refine bel ?_ | with_reducible refine Below.drew ?_ | with_reducible refine bt3 ?_))); obtain ⟨x0, x1, x2, x3, x4, x5, x6, x7, x8, x9, x10⟩ := jF HB; obtain ⟨r0, r1, r2, r3, q0, q1, q2, q3⟩ := jA HB))
  refine bodyPost_ret (v := vN) (by simp [results, Tryz.f96, go_sem, r0, r1, r2, r3]) rfl ?_
  exact ⟨rfl, jB HB⟩
set_option maxRecDepth 100000 in
set_option maxHeartbeats 4000000 in
theorem rt_n2 (sa : Int) (ma : Bool) (na pa : Int) (h : (sa == 1) = false) (w : World) :
    Calls Tryz.prog 96 #[.agg #[.int .i64 24, .int .i64 (-149), .int .i64 104], .agg #[.int .u8 sa, .bool ma, .int .u64 na, .int .i64 pa], .agg #[.int .u8 1, .bool false, .int .u64 0, .int .i64 0]] w fun e w' => e = .returned (vN) ∧ Below w.heap.size w w' := by
  have HB : Below ((((w.alloc ob).alloc (oV sa ma na pa)).alloc (oV 1 false 0 0)).alloc oz).heap.size ((((w.alloc ob).alloc (oV sa ma na pa)).alloc (oV 1 false 0 0)).alloc oz) ((((w.alloc ob).alloc (oV sa ma na pa)).alloc (oV 1 false 0 0)).alloc oz) := Below.refl _ _
  go_enter Tryz.func96, Tryz.ntmps96
  go_wp2_with (first
    | (go_at_call 99; with_reducible refine (vnone_b _).mono ?_; rintro e w1 ⟨rfl, hb1⟩; replace HB := bt2 hb1 (show Below ((((w.alloc ob).alloc (oV sa ma na pa)).alloc (oV 1 false 0 0)).alloc oz).heap.size ((((w.alloc ob).alloc (oV sa ma na pa)).alloc (oV 1 false 0 0)).alloc oz) _ from by (repeat (first | exact HB | exact Below.refl _ _ | with_reducible refine bel ?_ | with_reducible refine Below.drew ?_ | with_reducible refine bt3 ?_))); obtain ⟨x0, x1, x2, x3, x4, x5, x6, x7, x8, x9, x10⟩ := jF HB; obtain ⟨r0, r1, r2, r3, q0, q1, q2, q3⟩ := jA HB))
  refine bodyPost_ret (v := vN) (by simp [results, Tryz.f96, go_sem, r0, r1, r2, r3]) rfl ?_
  exact ⟨rfl, jB HB⟩
set_option maxRecDepth 100000 in
set_option maxHeartbeats 4000000 in
theorem rt_ee (ma mb : Bool) (w : World) :
    Calls Tryz.prog 96 #[.agg #[.int .i64 24, .int .i64 (-149), .int .i64 104], .agg #[.int .u8 2, .bool ma, .int .u64 0, .int .i64 0], .agg #[.int .u8 2, .bool mb, .int .u64 0, .int .i64 0]] w fun e w' => e = .returned (vN) ∧ Below w.heap.size w w' := by
  have HB : Below ((((w.alloc ob).alloc (oV 2 ma 0 0)).alloc (oV 2 mb 0 0)).alloc oz).heap.size ((((w.alloc ob).alloc (oV 2 ma 0 0)).alloc (oV 2 mb 0 0)).alloc oz) ((((w.alloc ob).alloc (oV 2 ma 0 0)).alloc (oV 2 mb 0 0)).alloc oz) := Below.refl _ _
  go_enter Tryz.func96, Tryz.ntmps96
  go_wp2_with (first
    | (go_at_call 99; with_reducible refine (vnone_b _).mono ?_; rintro e w1 ⟨rfl, hb1⟩; replace HB := bt2 hb1 (show Below ((((w.alloc ob).alloc (oV 2 ma 0 0)).alloc (oV 2 mb 0 0)).alloc oz).heap.size ((((w.alloc ob).alloc (oV 2 ma 0 0)).alloc (oV 2 mb 0 0)).alloc oz) _ from by (repeat (first | exact HB | exact Below.refl _ _ | with_reducible refine bel ?_ | with_reducible refine Below.drew ?_ | with_reducible refine bt3 ?_))); obtain ⟨x0, x1, x2, x3, x4, x5, x6, x7, x8, x9, x10⟩ := jF HB; obtain ⟨r0, r1, r2, r3, q0, q1, q2, q3⟩ := jA HB))
  refine bodyPost_ret (v := vN) (by simp [results, Tryz.f96, go_sem, r0, r1, r2, r3]) rfl ?_
  exact ⟨rfl, jB HB⟩
set_option maxRecDepth 100000 in
set_option maxHeartbeats 4000000 in
theorem rt_ef (ma mb mm : Bool) (hmm : (!(ma == mb)) = mm) (nb pb : Int) (w : World) :
    Calls Tryz.prog 96 #[.agg #[.int .i64 24, .int .i64 (-149), .int .i64 104], .agg #[.int .u8 2, .bool ma, .int .u64 0, .int .i64 0], .agg #[.int .u8 3, .bool mb, .int .u64 nb, .int .i64 pb]] w fun e w' => e = .returned (vE mm) ∧ Below w.heap.size w w' := by
  have HB : Below ((((w.alloc ob).alloc (oV 2 ma 0 0)).alloc (oV 3 mb nb pb)).alloc oz).heap.size ((((w.alloc ob).alloc (oV 2 ma 0 0)).alloc (oV 3 mb nb pb)).alloc oz) ((((w.alloc ob).alloc (oV 2 ma 0 0)).alloc (oV 3 mb nb pb)).alloc oz) := Below.refl _ _
  go_enter Tryz.func96, Tryz.ntmps96
  go_wp2_with (first
    | (go_at_call 100; with_reducible refine (vendless_b mm _).mono ?_; rintro e w1 ⟨rfl, hb1⟩; replace HB := bt2 hb1 (show Below ((((w.alloc ob).alloc (oV 2 ma 0 0)).alloc (oV 3 mb nb pb)).alloc oz).heap.size ((((w.alloc ob).alloc (oV 2 ma 0 0)).alloc (oV 3 mb nb pb)).alloc oz) _ from by (repeat (first | exact HB | exact Below.refl _ _ | with_reducible refine bel ?_ | with_reducible refine Below.drew ?_ | with_reducible refine bt3 ?_))); obtain ⟨x0, x1, x2, x3, x4, x5, x6, x7, x8, x9, x10⟩ := jF HB; obtain ⟨r0, r1, r2, r3, q0, q1, q2, q3⟩ := jA HB))
  refine bodyPost_ret (v := vE mm) (by simp [results, Tryz.f96, go_sem, r0, r1, r2, r3]) rfl ?_
  exact ⟨rfl, jB HB⟩
set_option maxRecDepth 100000 in
set_option maxHeartbeats 4000000 in
theorem rt_fe (ma mb mm : Bool) (hmm : (!(ma == mb)) = mm) (na pa : Int) (w : World) :
    Calls Tryz.prog 96 #[.agg #[.int .i64 24, .int .i64 (-149), .int .i64 104], .agg #[.int .u8 3, .bool ma, .int .u64 na, .int .i64 pa], .agg #[.int .u8 2, .bool mb, .int .u64 0, .int .i64 0]] w fun e w' => e = .returned (.agg #[.int .u8 3, .bool mm, .int .u64 0, .int .i64 (-149)]) ∧ Below w.heap.size w w' := by
  have HB : Below ((((w.alloc ob).alloc (oV 3 ma na pa)).alloc (oV 2 mb 0 0)).alloc oz).heap.size ((((w.alloc ob).alloc (oV 3 ma na pa)).alloc (oV 2 mb 0 0)).alloc oz) ((((w.alloc ob).alloc (oV 3 ma na pa)).alloc (oV 2 mb 0 0)).alloc oz) := Below.refl _ _
  go_enter Tryz.func96, Tryz.ntmps96
  go_wp2_with (first
    | (go_at_call 86; with_reducible refine (nought_any mm _).mono ?_; rintro e w1 ⟨rfl, hb1⟩; replace HB := bt2 hb1 (show Below ((((w.alloc ob).alloc (oV 3 ma na pa)).alloc (oV 2 mb 0 0)).alloc oz).heap.size ((((w.alloc ob).alloc (oV 3 ma na pa)).alloc (oV 2 mb 0 0)).alloc oz) _ from by (repeat (first | exact HB | exact Below.refl _ _ | with_reducible refine bel ?_ | with_reducible refine Below.drew ?_ | with_reducible refine bt3 ?_))); obtain ⟨x0, x1, x2, x3, x4, x5, x6, x7, x8, x9, x10⟩ := jF HB; obtain ⟨r0, r1, r2, r3, q0, q1, q2, q3⟩ := jA HB))
  refine bodyPost_ret (v := .agg #[.int .u8 3, .bool mm, .int .u64 0, .int .i64 (-149)]) (by simp [results, Tryz.f96, go_sem, r0, r1, r2, r3]) rfl ?_
  exact ⟨rfl, jB HB⟩
set_option maxRecDepth 100000 in
set_option maxHeartbeats 4000000 in
theorem rt_zz (ma mb : Bool) (pa pb : Int) (w : World) :
    Calls Tryz.prog 96 #[.agg #[.int .i64 24, .int .i64 (-149), .int .i64 104], .agg #[.int .u8 3, .bool ma, .int .u64 0, .int .i64 pa], .agg #[.int .u8 3, .bool mb, .int .u64 0, .int .i64 pb]] w fun e w' => e = .returned (vN) ∧ Below w.heap.size w w' := by
  have HB : Below ((((w.alloc ob).alloc (oV 3 ma 0 pa)).alloc (oV 3 mb 0 pb)).alloc oz).heap.size ((((w.alloc ob).alloc (oV 3 ma 0 pa)).alloc (oV 3 mb 0 pb)).alloc oz) ((((w.alloc ob).alloc (oV 3 ma 0 pa)).alloc (oV 3 mb 0 pb)).alloc oz) := Below.refl _ _
  go_enter Tryz.func96, Tryz.ntmps96
  go_wp2_with (first
    | (go_at_call 77; with_reducible refine (isn3z mb pb _).mono ?_; rintro e w1 ⟨rfl, hb1⟩; replace HB := bt2 hb1 (show Below ((((w.alloc ob).alloc (oV 3 ma 0 pa)).alloc (oV 3 mb 0 pb)).alloc oz).heap.size ((((w.alloc ob).alloc (oV 3 ma 0 pa)).alloc (oV 3 mb 0 pb)).alloc oz) _ from by (repeat (first | exact HB | exact Below.refl _ _ | with_reducible refine bel ?_ | with_reducible refine Below.drew ?_ | with_reducible refine bt3 ?_))); obtain ⟨x0, x1, x2, x3, x4, x5, x6, x7, x8, x9, x10⟩ := jF HB; obtain ⟨r0, r1, r2, r3, q0, q1, q2, q3⟩ := jA HB)
    | (go_at_call 77; with_reducible refine (isn3z ma pa _).mono ?_; rintro e w1 ⟨rfl, hb1⟩; replace HB := bt2 hb1 (show Below ((((w.alloc ob).alloc (oV 3 ma 0 pa)).alloc (oV 3 mb 0 pb)).alloc oz).heap.size ((((w.alloc ob).alloc (oV 3 ma 0 pa)).alloc (oV 3 mb 0 pb)).alloc oz) _ from by (repeat (first | exact HB | exact Below.refl _ _ | with_reducible refine bel ?_ | with_reducible refine Below.drew ?_ | with_reducible refine bt3 ?_))); obtain ⟨x0, x1, x2, x3, x4, x5, x6, x7, x8, x9, x10⟩ := jF HB; obtain ⟨r0, r1, r2, r3, q0, q1, q2, q3⟩ := jA HB)
    | (go_at_call 99; with_reducible refine (vnone_b _).mono ?_; rintro e w1 ⟨rfl, hb1⟩; replace HB := bt2 hb1 (show Below ((((w.alloc ob).alloc (oV 3 ma 0 pa)).alloc (oV 3 mb 0 pb)).alloc oz).heap.size ((((w.alloc ob).alloc (oV 3 ma 0 pa)).alloc (oV 3 mb 0 pb)).alloc oz) _ from by (repeat (first | exact HB | exact Below.refl _ _ | with_reducible refine bel ?_ | with_reducible refine Below.drew ?_ | with_reducible refine bt3 ?_))); obtain ⟨x0, x1, x2, x3, x4, x5, x6, x7, x8, x9, x10⟩ := jF HB; obtain ⟨r0, r1, r2, r3, q0, q1, q2, q3⟩ := jA HB))
  refine bodyPost_ret (v := vN) (by simp [results, Tryz.f96, go_sem, r0, r1, r2, r3]) rfl ?_
  exact ⟨rfl, jB HB⟩
set_option maxRecDepth 100000 in
set_option maxHeartbeats 4000000 in
theorem rt_fz (ma mb mm : Bool) (hmm : (!(ma == mb)) = mm) (na : Nat) (pa pb : Int) (g : ((na : Int) == 0) = false) (w : World) :
    Calls Tryz.prog 96 #[.agg #[.int .i64 24, .int .i64 (-149), .int .i64 104], .agg #[.int .u8 3, .bool ma, .int .u64 na, .int .i64 pa], .agg #[.int .u8 3, .bool mb, .int .u64 0, .int .i64 pb]] w fun e w' => e = .returned (vE mm) ∧ Below w.heap.size w w' := by
  have HB : Below ((((w.alloc ob).alloc (oV 3 ma na pa)).alloc (oV 3 mb 0 pb)).alloc oz).heap.size ((((w.alloc ob).alloc (oV 3 ma na pa)).alloc (oV 3 mb 0 pb)).alloc oz) ((((w.alloc ob).alloc (oV 3 ma na pa)).alloc (oV 3 mb 0 pb)).alloc oz) := Below.refl _ _
  go_enter Tryz.func96, Tryz.ntmps96
  go_wp2_with (first
    | (go_at_call 77; with_reducible refine (isn3z mb pb _).mono ?_; rintro e w1 ⟨rfl, hb1⟩; replace HB := bt2 hb1 (show Below ((((w.alloc ob).alloc (oV 3 ma na pa)).alloc (oV 3 mb 0 pb)).alloc oz).heap.size ((((w.alloc ob).alloc (oV 3 ma na pa)).alloc (oV 3 mb 0 pb)).alloc oz) _ from by (repeat (first | exact HB | exact Below.refl _ _ | with_reducible refine bel ?_ | with_reducible refine Below.drew ?_ | with_reducible refine bt3 ?_))); obtain ⟨x0, x1, x2, x3, x4, x5, x6, x7, x8, x9, x10⟩ := jF HB; obtain ⟨r0, r1, r2, r3, q0, q1, q2, q3⟩ := jA HB)
    | (go_at_call 77; with_reducible refine (isn3 ma na pa _ g).mono ?_; rintro e w1 ⟨rfl, hb1⟩; replace HB := bt2 hb1 (show Below ((((w.alloc ob).alloc (oV 3 ma na pa)).alloc (oV 3 mb 0 pb)).alloc oz).heap.size ((((w.alloc ob).alloc (oV 3 ma na pa)).alloc (oV 3 mb 0 pb)).alloc oz) _ from by (repeat (first | exact HB | exact Below.refl _ _ | with_reducible refine bel ?_ | with_reducible refine Below.drew ?_ | with_reducible refine bt3 ?_))); obtain ⟨x0, x1, x2, x3, x4, x5, x6, x7, x8, x9, x10⟩ := jF HB; obtain ⟨r0, r1, r2, r3, q0, q1, q2, q3⟩ := jA HB)
    | (go_at_call 100; with_reducible refine (vendless_b mm _).mono ?_; rintro e w1 ⟨rfl, hb1⟩; replace HB := bt2 hb1 (show Below ((((w.alloc ob).alloc (oV 3 ma na pa)).alloc (oV 3 mb 0 pb)).alloc oz).heap.size ((((w.alloc ob).alloc (oV 3 ma na pa)).alloc (oV 3 mb 0 pb)).alloc oz) _ from by (repeat (first | exact HB | exact Below.refl _ _ | with_reducible refine bel ?_ | with_reducible refine Below.drew ?_ | with_reducible refine bt3 ?_))); obtain ⟨x0, x1, x2, x3, x4, x5, x6, x7, x8, x9, x10⟩ := jF HB; obtain ⟨r0, r1, r2, r3, q0, q1, q2, q3⟩ := jA HB))
  refine bodyPost_ret (v := vE mm) (by simp [results, Tryz.f96, go_sem, r0, r1, r2, r3]) rfl ?_
  exact ⟨rfl, jB HB⟩
end Go.Proofs.YtjggbdlmghembaaGreat
