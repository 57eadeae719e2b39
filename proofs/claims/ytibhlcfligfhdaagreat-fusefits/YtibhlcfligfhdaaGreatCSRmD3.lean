import Derived.Test.YtibhlcfligfhdaaGreatCSRmD2
import Derived.Test.YtibhlcfligfhdaaGreatCSRmB
import Derived.Test.YtibhlcfligfhdaaGreatCSRmD0
import Derived.Test.YtibhlcfligfhdaaGreatCSRmD1
import Derived.Test.YtibhlcfligfhdaaGreatCSPrA
namespace Go.Proofs.YtibhlcfligfhdaaGreat
end Go.Proofs.YtibhlcfligfhdaaGreat
namespace Go.Proofs.YtibhlcfligfhdaaGreat
open Go.RowKit
set_option maxRecDepth 100000
set_option maxHeartbeats 1000000 in
theorem rndM_any (m : Bool) (v0 : Value) (x0 NN : Nat) (P0 P : Int) (w : World) (hv0 : NatV w v0 x0) (hx0 : x0 < 2 ^ (32 * 6)) (hNN : x0 * 2 + 1 = NN) (hP1 : P0 - 1 = P) (hnl : nbits NN ≤ 4000) (hP : -5000 ≤ P) (hP2 : P ≤ 5000) :
   Calls Tryz.prog 105 #[.agg #[.int .i64 24, .int .i64 (-149), .int .i64 104], .bool m, v0, .int .i64 P0, .bool true] w fun e w' => (∃ n p, e = .returned (hdV m n p) ∧ Fits n p (rg Ieee.single NN P)) ∧ Below w.heap.size w w' := by
 have h0 : NN ≠ 0 := by omega
 obtain ⟨b1, b2, b3⟩ := nb_bounds NN h0
 obtain ⟨nb, hnb⟩ : ∃ nb, nbits NN = nb := ⟨_, rfl⟩
 obtain ⟨K, hK⟩ : ∃ K, max (P + nbits NN - 24) (-149) = K := ⟨_, rfl⟩
 by_cases hKP : K ≤ P
 · obtain ⟨X, hX⟩ : ∃ X : Nat, P - K = X := ⟨(P - K).toNat, by omega⟩
   have hrg := rg_up NN h0 P K X hK hX
   rw [hnb] at hK b1 b2 b3 hnl
   have hMX : NN * 2 ^ X < 16777216 := by
     have h1 : NN * 2 ^ X < 2 ^ nb * 2 ^ X := Nat.mul_lt_mul_of_pos_right b2 (Nat.two_pow_pos _)
     rw [← Nat.pow_add] at h1
     have h2 : 2 ^ (nb + X) ≤ 2 ^ 24 := Nat.pow_le_pow_right (by decide) (by omega)
     rw [p24] at h2
     omega
   by_cases hA : P + nb - 24 < -149
   · obtain rfl : K = -149 := by omega
     refine (rM1a m v0 x0 NN P0 P nb X _ w hv0 hx0 hNN hP1 hnb hnl hP hP2 hA hX rfl (by omega)).mono fun e w' ⟨he, hb⟩ => ⟨⟨_, _, he, 0, by omega, hMX, Or.inl rfl, ?_⟩, hb⟩
     rw [hrg, show ((-149 : Int) + 149).toNat = 0 from rfl]
   · have hK2 : P + nb - 24 = K := by omega
     refine (rM1b m v0 x0 NN P0 P nb X _ K w hv0 hx0 hNN hP1 hnb hnl hP hP2 hA hK2 hKP hX rfl (by omega)).mono fun e w' ⟨he, hb⟩ => ⟨⟨_, _, he, (K + 149).toNat, by omega, hMX, Or.inr ?_, hrg⟩, hb⟩
     have h1 : 2 ^ (nb - 1) * 2 ^ X ≤ NN * 2 ^ X := Nat.mul_le_mul_right _ b1
     rw [← Nat.pow_add, show nb - 1 + X = 23 by omega, p23] at h1
     exact h1
 · obtain ⟨D, hD⟩ : ∃ D : Nat, K - P = D := ⟨(K - P).toNat, by omega⟩
   have hrg := rg_dn NN h0 P K D hK hD
   rw [hnb] at hK b1 b2 b3 hnl
   by_cases hDn : D ≤ nb + 1
   · have hql : NN / 2 ^ D < 16777216 := by
       rw [Nat.div_lt_iff_lt_mul (Nat.two_pow_pos D), ← p24, ← Nat.pow_add]
       exact Nat.lt_of_lt_of_le b2 (Nat.pow_le_pow_right (by decide) (by omega))
     have hqg : ¬ P + nb - 24 < -149 → 8388608 ≤ NN / 2 ^ D := by
       intro h
       rw [Nat.le_div_iff_mul_le (Nat.two_pow_pos D), ← p23, ← Nat.pow_add]
       exact Nat.le_trans (Nat.pow_le_pow_right (by decide) (by omega)) b1
     obtain ⟨q, hq⟩ : ∃ q, NN / 2 ^ D = q := ⟨_, rfl⟩
     obtain ⟨R, hR⟩ : ∃ R, NN % 2 ^ D = R := ⟨_, rfl⟩
     obtain ⟨half, hh⟩ : ∃ half, 2 ^ (D - 1) = half := ⟨_, rfl⟩
     have h2h : 2 ^ D = 2 * half := by rw [← hh, ← Nat.pow_succ']; congr 1; omega
     have hR2 : NN - q * 2 ^ D = R := by
       have := Nat.div_add_mod NN (2 ^ D)
       rw [hq, hR, Nat.mul_comm] at this
       omega
     have hrn : rne NN (2 ^ D) = q + (if half < R ∨ (R = half ∧ q % 2 = 1) then 1 else 0) := by
       unfold rne
       rw [hq, hR, h2h]
       congr 1
       have hc : (2 * half < 2 * R ∨ 2 * half = 2 * R ∧ q % 2 = 1) ↔ (half < R ∨ (R = half ∧ q % 2 = 1)) := by omega
       by_cases c : half < R ∨ (R = half ∧ q % 2 = 1)
       · rw [if_pos c, if_pos (hc.2 c)]
       · rw [if_neg c, if_neg (fun x => c (hc.1 x))]
     rw [hrn] at hrg
     rw [hq] at hql hqg
     have hfit : ∀ n : Nat, n < 16777216 → (¬ P + nb - 24 < -149 → 8388608 ≤ n) → rg Ieee.single NN P = (K + 149).toNat * 8388608 + n → Fits n K (rg Ieee.single NN P) := by
       intro n h1 h2 h3
       refine ⟨(K + 149).toNat, by omega, h1, ?_, h3⟩
       by_cases hA : P + nb - 24 < -149
       · left; omega
       · exact Or.inr (h2 hA)
     have hfit2 : q + 1 = 16777216 → rg Ieee.single NN P = (K + 149).toNat * 8388608 + (q + 1) → Fits 8388608 (K + 1) (rg Ieee.single NN P) := by
       intro h1 h3
       exact fits_over K q _ (by omega) h1 h3
     by_cases hA : P + nb - 24 < -149
     · have hK2 : -149 = K := by omega
       by_cases c1 : half < R
       · rw [if_pos (Or.inl c1)] at hrg
         by_cases ho : q + 1 = 16777216
         · exact (rM3Lgo m v0 x0 NN P0 P nb D q R half K w hv0 hx0 hNN hP1 hnb hnl hP hP2 hA hK2 (by omega) hD hDn hq hql hR2 hh c1 ho).mono fun e w' ⟨he, hb⟩ => ⟨⟨_, _, he, hfit2 ho hrg⟩, hb⟩
         · exact (rM3Lg m v0 x0 NN P0 P nb D q R half K w hv0 hx0 hNN hP1 hnb hnl hP hP2 hA hK2 (by omega) hD hDn hq hql hR2 hh c1 _ rfl ho).mono fun e w' ⟨he, hb⟩ => ⟨⟨_, _, he, hfit (q + 1) (by omega) (fun h => absurd hA h) hrg⟩, hb⟩
       by_cases c2 : R = half
       · by_cases c3 : q % 2 = 1
         · rw [if_pos (Or.inr ⟨c2, c3⟩)] at hrg
           by_cases ho : q + 1 = 16777216
           · exact (rM3Lxo m v0 x0 NN P0 P nb D q R half K w hv0 hx0 hNN hP1 hnb hnl hP hP2 hA hK2 (by omega) hD hDn hq hql hR2 hh c2 c3 ho).mono fun e w' ⟨he, hb⟩ => ⟨⟨_, _, he, hfit2 ho hrg⟩, hb⟩
           · exact (rM3Lx m v0 x0 NN P0 P nb D q R half K w hv0 hx0 hNN hP1 hnb hnl hP hP2 hA hK2 (by omega) hD hDn hq hql hR2 hh c2 c3 _ rfl ho).mono fun e w' ⟨he, hb⟩ => ⟨⟨_, _, he, hfit (q + 1) (by omega) (fun h => absurd hA h) hrg⟩, hb⟩
         · rw [if_neg (by omega), Nat.add_zero] at hrg
           exact (rM3Le m v0 x0 NN P0 P nb D q R half K w hv0 hx0 hNN hP1 hnb hnl hP hP2 hA hK2 (by omega) hD hDn hq hql hR2 hh c2 (by omega)).mono fun e w' ⟨he, hb⟩ => ⟨⟨_, _, he, hfit q hql hqg hrg⟩, hb⟩
       · rw [if_neg (by omega), Nat.add_zero] at hrg
         exact (rM3Ll m v0 x0 NN P0 P nb D q R half K w hv0 hx0 hNN hP1 hnb hnl hP hP2 hA hK2 (by omega) hD hDn hq hql hR2 hh (by omega)).mono fun e w' ⟨he, hb⟩ => ⟨⟨_, _, he, hfit q hql hqg hrg⟩, hb⟩
     · have hK2 : P + nb - 24 = K := by omega
       have hg := hqg hA
       by_cases c1 : half < R
       · rw [if_pos (Or.inl c1)] at hrg
         by_cases ho : q + 1 = 16777216
         · exact (rM3Hgo m v0 x0 NN P0 P nb D q R half K w hv0 hx0 hNN hP1 hnb hnl hP hP2 hA hK2 (by omega) hD hDn hq hql hR2 hh c1 ho).mono fun e w' ⟨he, hb⟩ => ⟨⟨_, _, he, hfit2 ho hrg⟩, hb⟩
         · exact (rM3Hg m v0 x0 NN P0 P nb D q R half K w hv0 hx0 hNN hP1 hnb hnl hP hP2 hA hK2 (by omega) hD hDn hq hql hR2 hh c1 _ rfl ho).mono fun e w' ⟨he, hb⟩ => ⟨⟨_, _, he, hfit (q + 1) (by omega) (fun _ => by omega) hrg⟩, hb⟩
       by_cases c2 : R = half
       · by_cases c3 : q % 2 = 1
         · rw [if_pos (Or.inr ⟨c2, c3⟩)] at hrg
           by_cases ho : q + 1 = 16777216
           · exact (rM3Hxo m v0 x0 NN P0 P nb D q R half K w hv0 hx0 hNN hP1 hnb hnl hP hP2 hA hK2 (by omega) hD hDn hq hql hR2 hh c2 c3 ho).mono fun e w' ⟨he, hb⟩ => ⟨⟨_, _, he, hfit2 ho hrg⟩, hb⟩
           · exact (rM3Hx m v0 x0 NN P0 P nb D q R half K w hv0 hx0 hNN hP1 hnb hnl hP hP2 hA hK2 (by omega) hD hDn hq hql hR2 hh c2 c3 _ rfl ho).mono fun e w' ⟨he, hb⟩ => ⟨⟨_, _, he, hfit (q + 1) (by omega) (fun _ => by omega) hrg⟩, hb⟩
         · rw [if_neg (by omega), Nat.add_zero] at hrg
           exact (rM3He m v0 x0 NN P0 P nb D q R half K w hv0 hx0 hNN hP1 hnb hnl hP hP2 hA hK2 (by omega) hD hDn hq hql hR2 hh c2 (by omega)).mono fun e w' ⟨he, hb⟩ => ⟨⟨_, _, he, hfit q hql hqg hrg⟩, hb⟩
       · rw [if_neg (by omega), Nat.add_zero] at hrg
         exact (rM3Hl m v0 x0 NN P0 P nb D q R half K w hv0 hx0 hNN hP1 hnb hnl hP hP2 hA hK2 (by omega) hD hDn hq hql hR2 hh (by omega)).mono fun e w' ⟨he, hb⟩ => ⟨⟨_, _, he, hfit q hql hqg hrg⟩, hb⟩
   · have hA : P + nb - 24 < -149 := by omega
     have hK2 : K = -149 := by omega
     subst hK2
     refine (rM2 m v0 x0 NN P0 P nb w hv0 hx0 hNN hP1 hnb hnl hP hP2 hA (by omega) (by omega)).mono fun e w' ⟨he, hb⟩ => ⟨⟨_, _, he, 0, by omega, by omega, Or.inl rfl, ?_⟩, hb⟩
     have h1 : NN < 2 ^ D := Nat.lt_of_lt_of_le b2 (Nat.pow_le_pow_right (by decide) (by omega))
     have h2 : 2 * NN < 2 ^ D := by
       have h3 : 2 ^ (nb + 1) ≤ 2 ^ D := Nat.pow_le_pow_right (by decide) (by omega)
       rw [Nat.pow_succ] at h3
       omega
     rw [hrg]
     unfold rne
     rw [Nat.div_eq_of_lt h1, Nat.mod_eq_of_lt h1, if_neg (by omega), show ((-149 : Int) + 149).toNat = 0 from rfl]
end Go.Proofs.YtibhlcfligfhdaaGreat
namespace Go.Proofs.YtibhlcfligfhdaaGreat
open Go.RowKit
set_option maxRecDepth 100000
theorem rg_shift (f : Ieee.Format) (hp : 0 < f.fractionBits) (N z : Nat) (Q : Int) : rg f (N * 2 ^ z) (Q - z) = rg f N Q := by
 obtain ⟨d, hd⟩ : ∃ d : Nat, f.leastPlace ≤ Q - z + d := ⟨(f.leastPlace - (Q - z)).toNat, by omega⟩
 have n1 := rg_near f hp (N * 2 ^ z) (Q - z) d hd
 have n2 := rg_near f hp N Q d (by omega)
 rw [Nat.mul_assoc, ← Nat.pow_add, show z + (Q - z - f.leastPlace + d).toNat = (Q - f.leastPlace + d).toNat by omega] at n1
 exact n1.unique (Nat.two_pow_pos _) n2
theorem p192 : (2 : Nat) ^ (32 * 6) = 2 ^ 192 := rfl
theorem rnd_q (m : Bool) (v : Value) (x : Nat) (Q : Int) (mo : Bool) (r : Nat) (w : World) (h : NatV w v x) (hx : x < 2 ^ (32 * 6)) (hP : -2000 ≤ Q) (hP2 : Q ≤ 2000) (hr : rg Ieee.single (2 * x + mo.toNat) (Q - 1) = r) :
   Calls Tryz.prog 105 #[.agg #[.int .i64 24, .int .i64 (-149), .int .i64 104], .bool m, v, .int .i64 Q, .bool mo] w fun e w' => (∃ n p, e = .returned (hdV m n p) ∧ Fits n p r) ∧ Below w.heap.size w w' := by
 cases mo with
 | false =>
   have := rg_shift Ieee.single (by decide) x 1 Q
   rw [show x * 2 ^ 1 = 2 * x by omega] at this
   have hr' : rg Ieee.single x Q = r := by rw [← this]; exact hr
   have := rnd_nv m v x 6 Q w h hx (by omega) (by omega) (by omega)
   rw [hr'] at this
   exact this
 | true =>
   have hnl : nbits (2 * x + 1) ≤ 4000 := by
     obtain ⟨b1, b2, b3⟩ := nb_bounds (2 * x + 1) (by omega)
     have h9 : 2 * x + 1 < 2 ^ (192 + 1) := by rw [Nat.pow_succ, ← p192]; omega
     have c1 := (Nat.pow_lt_pow_iff_right (a := 2) (by decide)).1 (Nat.lt_of_le_of_lt b1 h9)
     omega
   have := rndM_any m v x (2 * x + 1) Q (Q - 1) w h hx (by omega) rfl hnl (by omega) (by omega)
   rw [show rg Ieee.single (2 * x + 1) (Q - 1) = r from hr] at this
   exact this
theorem q_lt (na : Nat) (h : na < 16777216) : na * 2 ^ 128 < 2 ^ (32 * 6) := by
 have h1 : na * 2 ^ 128 < 2 ^ 24 * 2 ^ 128 := Nat.mul_lt_mul_of_pos_right h (Nat.two_pow_pos _)
 rw [← Nat.pow_add] at h1
 exact Nat.lt_of_lt_of_le h1 (Nat.pow_le_pow_right (by decide) (by decide))
theorem over_q (v u : Value) (na nb V q : Nat) (mo : Bool) (w : World) (h : NatV w v V) (h' : NatV w u nb) (hna : na < 16777216) (hV : na * 2 ^ 128 = V) (hnb : nb < 16777216) (h0 : nb ≠ 0) (hq : V / nb = q) (hmo : decide (0 < V % nb) = mo) :
   Calls Tryz.prog 149 #[v, u] w fun e w' => (∃ v', e = .returned (.tuple #[v', .bool mo]) ∧ NatV w' v' q) ∧ Below w.heap.size w w' := by
 have hVl : V < 2 ^ (32 * 6) := by rw [← hV]; exact q_lt na hna
 have hnl : nbits V ≤ 3200 := by
   by_cases hz : V = 0
   · rw [hz]; decide
   · obtain ⟨b1, b2, b3⟩ := nb_bounds V hz
     have c1 := (Nat.pow_lt_pow_iff_right (a := 2) (by decide)).1 (Nat.lt_of_le_of_lt b1 (show V < 2 ^ 192 from hVl))
     omega
 have := over_nv v u V nb 6 _ w h h' hVl (Nat.lt_of_lt_of_le hnb (by decide)) (by omega) (by omega) rfl hnl
 rw [hmo, hq] at this
 exact this
set_option maxRecDepth 100000 in
set_option maxHeartbeats 4000000 in
theorem rt_n1 (sb : Int) (mb : Bool) (nb pb : Int) (w : World) :
   Calls Tryz.prog 141 #[.agg #[.int .i64 24, .int .i64 (-149), .int .i64 104], .agg #[.int .u8 1, .bool false, .int .u64 0, .int .i64 0], .agg #[.int .u8 sb, .bool mb, .int .u64 nb, .int .i64 pb]] w fun e w' => e = .returned (vN) ∧ Below w.heap.size w w' := by
 have HB : Below ((((w.alloc ob).alloc (oV 1 false 0 0)).alloc (oV sb mb nb pb)).alloc oz).heap.size ((((w.alloc ob).alloc (oV 1 false 0 0)).alloc (oV sb mb nb pb)).alloc oz) ((((w.alloc ob).alloc (oV 1 false 0 0)).alloc (oV sb mb nb pb)).alloc oz) := Below.refl _ _
 go_enter Tryz.func141, Tryz.ntmps141
 go_wp2_with (first
   | (go_at_call 144; with_reducible refine (vnone_b _).mono ?_; rintro e w1 ⟨rfl, hb1⟩; replace HB := bt2 hb1 (show Below ((((w.alloc ob).alloc (oV 1 false 0 0)).alloc (oV sb mb nb pb)).alloc oz).heap.size ((((w.alloc ob).alloc (oV 1 false 0 0)).alloc (oV sb mb nb pb)).alloc oz) _ from by (repeat (first | exact HB | exact Below.refl _ _ | with_reducible first | refine bel ?_ | refine Below.drew ?_ | refine bt3 ?_))); obtain ⟨x0, x1, x2, x3, x4, x5, x6, x7, x8, x9, x10⟩ := jF HB; obtain ⟨r0, r1, r2, r3, q0, q1, q2, q3⟩ := jA HB))
 refine bodyPost_ret (v := vN) (by simp [results, Tryz.f141, go_sem, r0, r1, r2, r3]) rfl ?_
 exact ⟨rfl, jB HB⟩
set_option maxRecDepth 100000 in
set_option maxHeartbeats 4000000 in
theorem rt_n2 (sa : Int) (ma : Bool) (na pa : Int) (h : (sa == 1) = false) (w : World) :
   Calls Tryz.prog 141 #[.agg #[.int .i64 24, .int .i64 (-149), .int .i64 104], .agg #[.int .u8 sa, .bool ma, .int .u64 na, .int .i64 pa], .agg #[.int .u8 1, .bool false, .int .u64 0, .int .i64 0]] w fun e w' => e = .returned (vN) ∧ Below w.heap.size w w' := by
 have HB : Below ((((w.alloc ob).alloc (oV sa ma na pa)).alloc (oV 1 false 0 0)).alloc oz).heap.size ((((w.alloc ob).alloc (oV sa ma na pa)).alloc (oV 1 false 0 0)).alloc oz) ((((w.alloc ob).alloc (oV sa ma na pa)).alloc (oV 1 false 0 0)).alloc oz) := Below.refl _ _
 go_enter Tryz.func141, Tryz.ntmps141
 go_wp2_with (first
   | (go_at_call 144; with_reducible refine (vnone_b _).mono ?_; rintro e w1 ⟨rfl, hb1⟩; replace HB := bt2 hb1 (show Below ((((w.alloc ob).alloc (oV sa ma na pa)).alloc (oV 1 false 0 0)).alloc oz).heap.size ((((w.alloc ob).alloc (oV sa ma na pa)).alloc (oV 1 false 0 0)).alloc oz) _ from by (repeat (first | exact HB | exact Below.refl _ _ | with_reducible first | refine bel ?_ | refine Below.drew ?_ | refine bt3 ?_))); obtain ⟨x0, x1, x2, x3, x4, x5, x6, x7, x8, x9, x10⟩ := jF HB; obtain ⟨r0, r1, r2, r3, q0, q1, q2, q3⟩ := jA HB))
 refine bodyPost_ret (v := vN) (by simp [results, Tryz.f141, go_sem, r0, r1, r2, r3]) rfl ?_
 exact ⟨rfl, jB HB⟩
set_option maxRecDepth 100000 in
set_option maxHeartbeats 4000000 in
theorem rt_ee (ma mb : Bool) (w : World) :
   Calls Tryz.prog 141 #[.agg #[.int .i64 24, .int .i64 (-149), .int .i64 104], .agg #[.int .u8 2, .bool ma, .int .u64 0, .int .i64 0], .agg #[.int .u8 2, .bool mb, .int .u64 0, .int .i64 0]] w fun e w' => e = .returned (vN) ∧ Below w.heap.size w w' := by
 have HB : Below ((((w.alloc ob).alloc (oV 2 ma 0 0)).alloc (oV 2 mb 0 0)).alloc oz).heap.size ((((w.alloc ob).alloc (oV 2 ma 0 0)).alloc (oV 2 mb 0 0)).alloc oz) ((((w.alloc ob).alloc (oV 2 ma 0 0)).alloc (oV 2 mb 0 0)).alloc oz) := Below.refl _ _
 go_enter Tryz.func141, Tryz.ntmps141
 go_wp2_with (first
   | (go_at_call 144; with_reducible refine (vnone_b _).mono ?_; rintro e w1 ⟨rfl, hb1⟩; replace HB := bt2 hb1 (show Below ((((w.alloc ob).alloc (oV 2 ma 0 0)).alloc (oV 2 mb 0 0)).alloc oz).heap.size ((((w.alloc ob).alloc (oV 2 ma 0 0)).alloc (oV 2 mb 0 0)).alloc oz) _ from by (repeat (first | exact HB | exact Below.refl _ _ | with_reducible first | refine bel ?_ | refine Below.drew ?_ | refine bt3 ?_))); obtain ⟨x0, x1, x2, x3, x4, x5, x6, x7, x8, x9, x10⟩ := jF HB; obtain ⟨r0, r1, r2, r3, q0, q1, q2, q3⟩ := jA HB))
 refine bodyPost_ret (v := vN) (by simp [results, Tryz.f141, go_sem, r0, r1, r2, r3]) rfl ?_
 exact ⟨rfl, jB HB⟩
set_option maxRecDepth 100000 in
set_option maxHeartbeats 4000000 in
theorem rt_ef (ma mb mm : Bool) (hmm : (!(ma == mb)) = mm) (nb pb : Int) (w : World) :
   Calls Tryz.prog 141 #[.agg #[.int .i64 24, .int .i64 (-149), .int .i64 104], .agg #[.int .u8 2, .bool ma, .int .u64 0, .int .i64 0], .agg #[.int .u8 3, .bool mb, .int .u64 nb, .int .i64 pb]] w fun e w' => e = .returned (vE mm) ∧ Below w.heap.size w w' := by
 have HB : Below ((((w.alloc ob).alloc (oV 2 ma 0 0)).alloc (oV 3 mb nb pb)).alloc oz).heap.size ((((w.alloc ob).alloc (oV 2 ma 0 0)).alloc (oV 3 mb nb pb)).alloc oz) ((((w.alloc ob).alloc (oV 2 ma 0 0)).alloc (oV 3 mb nb pb)).alloc oz) := Below.refl _ _
 go_enter Tryz.func141, Tryz.ntmps141
 go_wp2_with (first
   | (go_at_call 145; with_reducible refine (vendless_b mm _).mono ?_; rintro e w1 ⟨rfl, hb1⟩; replace HB := bt2 hb1 (show Below ((((w.alloc ob).alloc (oV 2 ma 0 0)).alloc (oV 3 mb nb pb)).alloc oz).heap.size ((((w.alloc ob).alloc (oV 2 ma 0 0)).alloc (oV 3 mb nb pb)).alloc oz) _ from by (repeat (first | exact HB | exact Below.refl _ _ | with_reducible first | refine bel ?_ | refine Below.drew ?_ | refine bt3 ?_))); obtain ⟨x0, x1, x2, x3, x4, x5, x6, x7, x8, x9, x10⟩ := jF HB; obtain ⟨r0, r1, r2, r3, q0, q1, q2, q3⟩ := jA HB))
 refine bodyPost_ret (v := vE mm) (by simp [results, Tryz.f141, go_sem, r0, r1, r2, r3]) rfl ?_
 exact ⟨rfl, jB HB⟩
set_option maxRecDepth 100000 in
set_option maxHeartbeats 4000000 in
theorem rt_fe (ma mb mm : Bool) (hmm : (!(ma == mb)) = mm) (na pa : Int) (w : World) :
   Calls Tryz.prog 141 #[.agg #[.int .i64 24, .int .i64 (-149), .int .i64 104], .agg #[.int .u8 3, .bool ma, .int .u64 na, .int .i64 pa], .agg #[.int .u8 2, .bool mb, .int .u64 0, .int .i64 0]] w fun e w' => e = .returned (.agg #[.int .u8 3, .bool mm, .int .u64 0, .int .i64 (-149)]) ∧ Below w.heap.size w w' := by
 have HB : Below ((((w.alloc ob).alloc (oV 3 ma na pa)).alloc (oV 2 mb 0 0)).alloc oz).heap.size ((((w.alloc ob).alloc (oV 3 ma na pa)).alloc (oV 2 mb 0 0)).alloc oz) ((((w.alloc ob).alloc (oV 3 ma na pa)).alloc (oV 2 mb 0 0)).alloc oz) := Below.refl _ _
 go_enter Tryz.func141, Tryz.ntmps141
 go_wp2_with (first
   | (go_at_call 131; with_reducible refine (nought_any mm _).mono ?_; rintro e w1 ⟨rfl, hb1⟩; replace HB := bt2 hb1 (show Below ((((w.alloc ob).alloc (oV 3 ma na pa)).alloc (oV 2 mb 0 0)).alloc oz).heap.size ((((w.alloc ob).alloc (oV 3 ma na pa)).alloc (oV 2 mb 0 0)).alloc oz) _ from by (repeat (first | exact HB | exact Below.refl _ _ | with_reducible first | refine bel ?_ | refine Below.drew ?_ | refine bt3 ?_))); obtain ⟨x0, x1, x2, x3, x4, x5, x6, x7, x8, x9, x10⟩ := jF HB; obtain ⟨r0, r1, r2, r3, q0, q1, q2, q3⟩ := jA HB))
 refine bodyPost_ret (v := .agg #[.int .u8 3, .bool mm, .int .u64 0, .int .i64 (-149)]) (by simp [results, Tryz.f141, go_sem, r0, r1, r2, r3]) rfl ?_
 exact ⟨rfl, jB HB⟩
set_option maxRecDepth 100000 in
set_option maxHeartbeats 4000000 in
theorem rt_zz (ma mb : Bool) (pa pb : Int) (w : World) :
   Calls Tryz.prog 141 #[.agg #[.int .i64 24, .int .i64 (-149), .int .i64 104], .agg #[.int .u8 3, .bool ma, .int .u64 0, .int .i64 pa], .agg #[.int .u8 3, .bool mb, .int .u64 0, .int .i64 pb]] w fun e w' => e = .returned (vN) ∧ Below w.heap.size w w' := by
 have HB : Below ((((w.alloc ob).alloc (oV 3 ma 0 pa)).alloc (oV 3 mb 0 pb)).alloc oz).heap.size ((((w.alloc ob).alloc (oV 3 ma 0 pa)).alloc (oV 3 mb 0 pb)).alloc oz) ((((w.alloc ob).alloc (oV 3 ma 0 pa)).alloc (oV 3 mb 0 pb)).alloc oz) := Below.refl _ _
 go_enter Tryz.func141, Tryz.ntmps141
 go_wp2_with (first
   | (go_at_call 114; with_reducible refine (isn3z mb pb _).mono ?_; rintro e w1 ⟨rfl, hb1⟩; replace HB := bt2 hb1 (show Below ((((w.alloc ob).alloc (oV 3 ma 0 pa)).alloc (oV 3 mb 0 pb)).alloc oz).heap.size ((((w.alloc ob).alloc (oV 3 ma 0 pa)).alloc (oV 3 mb 0 pb)).alloc oz) _ from by (repeat (first | exact HB | exact Below.refl _ _ | with_reducible first | refine bel ?_ | refine Below.drew ?_ | refine bt3 ?_))); obtain ⟨x0, x1, x2, x3, x4, x5, x6, x7, x8, x9, x10⟩ := jF HB; obtain ⟨r0, r1, r2, r3, q0, q1, q2, q3⟩ := jA HB)
   | (go_at_call 114; with_reducible refine (isn3z ma pa _).mono ?_; rintro e w1 ⟨rfl, hb1⟩; replace HB := bt2 hb1 (show Below ((((w.alloc ob).alloc (oV 3 ma 0 pa)).alloc (oV 3 mb 0 pb)).alloc oz).heap.size ((((w.alloc ob).alloc (oV 3 ma 0 pa)).alloc (oV 3 mb 0 pb)).alloc oz) _ from by (repeat (first | exact HB | exact Below.refl _ _ | with_reducible first | refine bel ?_ | refine Below.drew ?_ | refine bt3 ?_))); obtain ⟨x0, x1, x2, x3, x4, x5, x6, x7, x8, x9, x10⟩ := jF HB; obtain ⟨r0, r1, r2, r3, q0, q1, q2, q3⟩ := jA HB)
   | (go_at_call 144; with_reducible refine (vnone_b _).mono ?_; rintro e w1 ⟨rfl, hb1⟩; replace HB := bt2 hb1 (show Below ((((w.alloc ob).alloc (oV 3 ma 0 pa)).alloc (oV 3 mb 0 pb)).alloc oz).heap.size ((((w.alloc ob).alloc (oV 3 ma 0 pa)).alloc (oV 3 mb 0 pb)).alloc oz) _ from by (repeat (first | exact HB | exact Below.refl _ _ | with_reducible first | refine bel ?_ | refine Below.drew ?_ | refine bt3 ?_))); obtain ⟨x0, x1, x2, x3, x4, x5, x6, x7, x8, x9, x10⟩ := jF HB; obtain ⟨r0, r1, r2, r3, q0, q1, q2, q3⟩ := jA HB))
 refine bodyPost_ret (v := vN) (by simp [results, Tryz.f141, go_sem, r0, r1, r2, r3]) rfl ?_
 exact ⟨rfl, jB HB⟩
set_option maxRecDepth 100000 in
set_option maxHeartbeats 4000000 in
theorem rt_fz (ma mb mm : Bool) (hmm : (!(ma == mb)) = mm) (na : Nat) (pa pb : Int) (g : ((na : Int) == 0) = false) (w : World) :
   Calls Tryz.prog 141 #[.agg #[.int .i64 24, .int .i64 (-149), .int .i64 104], .agg #[.int .u8 3, .bool ma, .int .u64 na, .int .i64 pa], .agg #[.int .u8 3, .bool mb, .int .u64 0, .int .i64 pb]] w fun e w' => e = .returned (vE mm) ∧ Below w.heap.size w w' := by
 have HB : Below ((((w.alloc ob).alloc (oV 3 ma na pa)).alloc (oV 3 mb 0 pb)).alloc oz).heap.size ((((w.alloc ob).alloc (oV 3 ma na pa)).alloc (oV 3 mb 0 pb)).alloc oz) ((((w.alloc ob).alloc (oV 3 ma na pa)).alloc (oV 3 mb 0 pb)).alloc oz) := Below.refl _ _
 go_enter Tryz.func141, Tryz.ntmps141
 go_wp2_with (first
   | (go_at_call 114; with_reducible refine (isn3z mb pb _).mono ?_; rintro e w1 ⟨rfl, hb1⟩; replace HB := bt2 hb1 (show Below ((((w.alloc ob).alloc (oV 3 ma na pa)).alloc (oV 3 mb 0 pb)).alloc oz).heap.size ((((w.alloc ob).alloc (oV 3 ma na pa)).alloc (oV 3 mb 0 pb)).alloc oz) _ from by (repeat (first | exact HB | exact Below.refl _ _ | with_reducible first | refine bel ?_ | refine Below.drew ?_ | refine bt3 ?_))); obtain ⟨x0, x1, x2, x3, x4, x5, x6, x7, x8, x9, x10⟩ := jF HB; obtain ⟨r0, r1, r2, r3, q0, q1, q2, q3⟩ := jA HB)
   | (go_at_call 114; with_reducible refine (isn3 ma na pa _ g).mono ?_; rintro e w1 ⟨rfl, hb1⟩; replace HB := bt2 hb1 (show Below ((((w.alloc ob).alloc (oV 3 ma na pa)).alloc (oV 3 mb 0 pb)).alloc oz).heap.size ((((w.alloc ob).alloc (oV 3 ma na pa)).alloc (oV 3 mb 0 pb)).alloc oz) _ from by (repeat (first | exact HB | exact Below.refl _ _ | with_reducible first | refine bel ?_ | refine Below.drew ?_ | refine bt3 ?_))); obtain ⟨x0, x1, x2, x3, x4, x5, x6, x7, x8, x9, x10⟩ := jF HB; obtain ⟨r0, r1, r2, r3, q0, q1, q2, q3⟩ := jA HB)
   | (go_at_call 145; with_reducible refine (vendless_b mm _).mono ?_; rintro e w1 ⟨rfl, hb1⟩; replace HB := bt2 hb1 (show Below ((((w.alloc ob).alloc (oV 3 ma na pa)).alloc (oV 3 mb 0 pb)).alloc oz).heap.size ((((w.alloc ob).alloc (oV 3 ma na pa)).alloc (oV 3 mb 0 pb)).alloc oz) _ from by (repeat (first | exact HB | exact Below.refl _ _ | with_reducible first | refine bel ?_ | refine Below.drew ?_ | refine bt3 ?_))); obtain ⟨x0, x1, x2, x3, x4, x5, x6, x7, x8, x9, x10⟩ := jF HB; obtain ⟨r0, r1, r2, r3, q0, q1, q2, q3⟩ := jA HB))
 refine bodyPost_ret (v := vE mm) (by simp [results, Tryz.f141, go_sem, r0, r1, r2, r3]) rfl ?_
 exact ⟨rfl, jB HB⟩
end Go.Proofs.YtibhlcfligfhdaaGreat
namespace Go.Proofs.YtibhlcfligfhdaaGreat
open Go.RowKit
set_option maxRecDepth 100000
set_option maxRecDepth 100000 in
set_option maxHeartbeats 4000000 in
theorem rt_ff (ma mb mm : Bool) (hmm : (!(ma == mb)) = mm) (na nb V q r : Nat) (mo : Bool) (pa pb p : Int) (w : World) (hna : na < 16777216) (hnb : nb < 16777216) (g : ((nb : Int) == 0) = false) (h1 : -149 ≤ pa) (h2 : pa ≤ 104) (h3 : -149 ≤ pb) (h4 : pb ≤ 104) (hp : pa - pb - 128 = p) (hV : na * 2 ^ 128 = V) (hq : V / nb = q) (hmo : decide (0 < V % nb) = mo) (hr : rg Ieee.single (2 * q + mo.toNat) (p - 1) = r) :
   Calls Tryz.prog 141 #[.agg #[.int .i64 24, .int .i64 (-149), .int .i64 104], .agg #[.int .u8 3, .bool ma, .int .u64 na, .int .i64 pa], .agg #[.int .u8 3, .bool mb, .int .u64 nb, .int .i64 pb]] w fun e w' => (∃ n q, e = .returned (hdV mm n q) ∧ Fits n q r) ∧ Below w.heap.size w w' := by
 have HU : ∀ v w, NatV w v na → Calls Tryz.prog 130 #[v, .int .i64 128] w fun e w' => (∃ v', e = .returned v' ∧ NatV w' v' V) ∧ Below w.heap.size w w' := fun v w h => by
   have := up_nv v na 128 w h (by omega) (by decide)
   rw [hV] at this
   exact this
 have HOV := fun v u w (h : NatV w v V) (h' : NatV w u nb) => over_q v u na nb V q mo w h h' hna hV hnb (by have := beq_eq_false_iff_ne.1 g; omega) hq hmo
 have hql : q < 2 ^ (32 * 6) := by rw [← hq]; exact Nat.lt_of_le_of_lt (Nat.div_le_self _ _) (by rw [← hV]; exact q_lt na hna)
 have HRD := fun v w (h : NatV w v q) => rnd_q mm v q p mo r w h hql (by omega) (by omega) hr
 have HP1 : Hid (IntKind.i64.wrap (pa - pb) = pa - pb) := by rw [Hid, IntKind.wrap_i64]; omega
 have HPw : Hid (IntKind.i64.wrap (pa - pb - 128) = p) := by rw [Hid, IntKind.wrap_i64]; omega
 have HPw2 : Hid (IntKind.i64.wrap p = p) := by rw [Hid, IntKind.wrap_i64]; omega
 clear hV hq hmo hr hql
 have HB : Below ((((w.alloc ob).alloc (oV 3 ma na pa)).alloc (oV 3 mb nb pb)).alloc oz).heap.size ((((w.alloc ob).alloc (oV 3 ma na pa)).alloc (oV 3 mb nb pb)).alloc oz) ((((w.alloc ob).alloc (oV 3 ma na pa)).alloc (oV 3 mb nb pb)).alloc oz) := Below.refl _ _
 go_enter Tryz.func141, Tryz.ntmps141
 go_wp2_with (go_at_call 114; with_reducible refine (isn3 mb nb pb _ g).mono ?_; rintro e w1 ⟨rfl, hb1⟩; replace HB := bt2 hb1 (show Below ((((w.alloc ob).alloc (oV 3 ma na pa)).alloc (oV 3 mb nb pb)).alloc oz).heap.size ((((w.alloc ob).alloc (oV 3 ma na pa)).alloc (oV 3 mb nb pb)).alloc oz) _ from by (repeat (first | exact HB | exact Below.refl _ _ | with_reducible first | refine bel ?_ | refine Below.drew ?_ | refine bt3 ?_))); obtain ⟨x0, x1, x2, x3, x4, x5, x6, x7, x8, x9, x10⟩ := jF HB; obtain ⟨r0, r1, r2, r3, q0, q1, q2, q3⟩ := jA HB)
 have HA := nv_nil w1
 have HQ := nv_nil w1
 clear x0 x1 x2 x3 x4 x5 x6 x7 x8 x9 x10 r0 r1 r2 r3 q0 q1 q2 q3
 go_region_held3 (fun w' => w'.cell? ⟨w.heap.size, 0, none⟩ = some (.int .i64 24) ∧ w'.cell? ⟨w.heap.size, 1, none⟩ = some (.int .i64 (-149)) ∧ w'.cell? ⟨w.heap.size, 2, none⟩ = some (.int .i64 104) ∧ w'.cell? ⟨w.heap.size + 1, 0, none⟩ = some (.int .u8 3) ∧ w'.cell? ⟨w.heap.size + 1, 1, none⟩ = some (.bool ma) ∧ w'.cell? ⟨w.heap.size + 1, 2, none⟩ = some (.int .u64 (na : Nat)) ∧ w'.cell? ⟨w.heap.size + 1, 3, none⟩ = some (.int .i64 pa) ∧ w'.cell? ⟨w.heap.size + 1 + 1, 0, none⟩ = some (.int .u8 3) ∧ w'.cell? ⟨w.heap.size + 1 + 1, 1, none⟩ = some (.bool mb) ∧ w'.cell? ⟨w.heap.size + 1 + 1, 2, none⟩ = some (.int .u64 (nb : Nat)) ∧ w'.cell? ⟨w.heap.size + 1 + 1, 3, none⟩ = some (.int .i64 pb)) ((first | ((try dsimp only); with_reducible refine jS ?_; (repeat (first | exact HB | exact Below.refl _ _ | with_reducible first | refine bel ?_ | refine Below.drew ?_ | refine bt3 ?_)); done) | (refine jF ?_; (repeat (first | exact HB | exact Below.refl _ _ | with_reducible first | refine bel ?_ | refine Below.drew ?_ | refine bt3 ?_)); done))) (first
   | (go_at_call 107; with_reducible refine (nat_any na _ (by omega)).mono ?_; rintro e w1 ⟨⟨v1, rfl, hv1⟩, hb1⟩; replace HB : Below ((((w.alloc ob).alloc (oV 3 ma na pa)).alloc (oV 3 mb nb pb)).alloc oz).heap.size ((((w.alloc ob).alloc (oV 3 ma na pa)).alloc (oV 3 mb nb pb)).alloc oz) w1 := bt2 hb1 (by apply_rules [HB, Below.refl, bel, Below.drew, bt3]); replace HQ := HQ.step (by apply_rules [Below.refl, bel, Below.drew, bt3]) hb1; replace HA := hv1; clear hb1 hv1)
   | (go_at_call 107; with_reducible refine (nat_any nb _ (by omega)).mono ?_; rintro e w3 ⟨⟨v3, rfl, hv3⟩, hb3⟩; replace HB : Below ((((w.alloc ob).alloc (oV 3 ma na pa)).alloc (oV 3 mb nb pb)).alloc oz).heap.size ((((w.alloc ob).alloc (oV 3 ma na pa)).alloc (oV 3 mb nb pb)).alloc oz) w3 := bt2 hb3 (by apply_rules [HB, Below.refl, bel, Below.drew, bt3]); replace HA := HA.step (by apply_rules [Below.refl, bel, Below.drew, bt3]) hb3; replace HQ := hv3; clear hb3 hv3)
   | (go_at_call 130; with_reducible refine (HU v1 _ (HA.on (by apply_rules [Below.refl, bel, Below.drew, bt3]))).mono ?_; rintro e w4 ⟨⟨v4, rfl, hv4⟩, hb4⟩; replace HB : Below ((((w.alloc ob).alloc (oV 3 ma na pa)).alloc (oV 3 mb nb pb)).alloc oz).heap.size ((((w.alloc ob).alloc (oV 3 ma na pa)).alloc (oV 3 mb nb pb)).alloc oz) w4 := bt2 hb4 (by apply_rules [HB, Below.refl, bel, Below.drew, bt3]); replace HQ := HQ.step (by apply_rules [Below.refl, bel, Below.drew, bt3]) hb4; replace HA := hv4; clear hb4 hv4)
   | (go_at_call 149; with_reducible refine (HOV v4 v3 _ (HA.on (by apply_rules [Below.refl, bel, Below.drew, bt3])) (HQ.on (by apply_rules [Below.refl, bel, Below.drew, bt3]))).mono ?_; rintro e w5 ⟨⟨v5, rfl, hv5⟩, hb5⟩; replace HB : Below ((((w.alloc ob).alloc (oV 3 ma na pa)).alloc (oV 3 mb nb pb)).alloc oz).heap.size ((((w.alloc ob).alloc (oV 3 ma na pa)).alloc (oV 3 mb nb pb)).alloc oz) w5 := bt2 hb5 (by apply_rules [HB, Below.refl, bel, Below.drew, bt3]); replace HQ := HQ.step (by apply_rules [Below.refl, bel, Below.drew, bt3]) hb5; replace HA := hv5; clear hb5 hv5))
 clear HQ
 obtain ⟨x0, x1, x2, x3, x4, x5, x6, x7, x8, x9, x10⟩ := jF HB; obtain ⟨r0, r1, r2, r3, q0, q1, q2, q3⟩ := jA HB
 go_wp2_with (first
   | (go_at_call 105; (first | rw [HPw.out] | rw [HPw2.out] | skip); with_reducible refine (HRD v5 _ (HA.on (by apply_rules [Below.refl, bel, Below.drew, bt3]))).mono ?_; rintro e w9 ⟨⟨n9, p9, rfl, hf9⟩, hb9⟩; rw [hdV_agg]; replace HB : Below ((((w.alloc ob).alloc (oV 3 ma na pa)).alloc (oV 3 mb nb pb)).alloc oz).heap.size ((((w.alloc ob).alloc (oV 3 ma na pa)).alloc (oV 3 mb nb pb)).alloc oz) w9 := bt2 hb9 (by apply_rules [HB, Below.refl, bel, Below.drew, bt3]); clear x0 x1 x2 x3 x4 x5 x6 x7 x8 x9 x10 r0 r1 r2 r3 q0 q1 q2 q3; obtain ⟨r0, r1, r2, r3, q0, q1, q2, q3⟩ := jA HB))
 all_goals refine bodyPost_ret (v := .agg #[.int .u8 (vS p9), .bool mm, .int .u64 (vM n9 p9), .int .i64 (vP p9)]) (by simp [results, Tryz.f141, go_sem, r0, r1, r2, r3]) rfl ?_
 all_goals exact ⟨⟨n9, p9, by rw [hdV_agg], hf9⟩, jB HB⟩
end Go.Proofs.YtibhlcfligfhdaaGreat
namespace Go.Proofs.YtibhlcfligfhdaaGreat
open Go.RowKit
set_option maxRecDepth 100000
theorem xor_neR (m n : Bool) : (m ^^ n) = !(m == n) := by cases m <;> cases n <;> rfl
theorem div0 (a b : Nat) : Ieee.single.div a b = ((Ieee.single.read a).quotient 25 (Ieee.single.read b)).map Ieee.single.write := rfl
theorem fdiv_rd (a b : Nat) (fa : a % 2147483648 < 2139095040) (fb : b % 2147483648 < 2139095040) (hb : rdm b ≠ 0) :
   fdiv a b = Ieee.single.word (sn a ^^ sn b) (min (rg Ieee.single (2 * (rdm a * 2 ^ 128 / rdm b) + (rdm a * 2 ^ 128 % rdm b != 0).toNat) (-149 + (rdk a : Int) - (-149 + (rdk b : Int)) - 128 - 1)) 2139095040) := by
 obtain ⟨ka, na⟩ := rd_k fa
 obtain ⟨kb, nb⟩ := rd_k fb
 have h0 := div0 a b
 rw [read_rd a fa, read_rd b fb] at h0
 simp only [Ieee.Datum.quotient, if_neg hb, Option.map_some] at h0
 generalize hm : 25 + (rdm b).log2 - (rdm a).log2 = more at h0
 rw [Nat.shiftLeft_eq] at h0
 have hf : fdiv a b = Ieee.single.word (sn a ^^ sn b) (min (rg Ieee.single (2 * (rdm a * 2 ^ more / rdm b) + (rdm a * 2 ^ more % rdm b != 0).toNat) (-149 + (rdk a : Int) - (-149 + (rdk b : Int)) - more - 1)) 2139095040) := by
   unfold fdiv; rw [h0]; exact nearest_word _ _ _
 rw [hf]
 congr 2
 by_cases hz : rdm a = 0
 · rw [hz]
   simp only [Nat.zero_mul, Nat.zero_div, Nat.zero_mod]
   unfold rg
   rw [if_pos (by decide), if_pos (by decide)]
 have hbp : 0 < rdm b := by omega
 have hlb := log_lt (n := rdm b) (k := 24) (by decide) (show rdm b < 2 ^ 24 by omega)
 have hla := log_lt (n := rdm a) (k := 24) (by decide) (show rdm a < 2 ^ 24 by omega)
 have hlt : rdm b < 2 ^ ((rdm b).log2 + 1) := Nat.lt_log2_self
 have hge : 2 ^ (rdm a).log2 ≤ rdm a := Nat.log2_self_le hz
 have hD : 16777216 ≤ rdm a * 2 ^ more / rdm b := by
   rw [Nat.le_div_iff_mul_le hbp]
   have h3 : 2 ^ ((rdm a).log2 + more) ≤ rdm a * 2 ^ more := by rw [Nat.pow_add]; exact Nat.mul_le_mul_right _ hge
   have h4 : 2 ^ (24 + ((rdm b).log2 + 1)) ≤ 2 ^ ((rdm a).log2 + more) := Nat.pow_le_pow_right (by decide) (by omega)
   have h5 : 16777216 * rdm b ≤ 16777216 * 2 ^ ((rdm b).log2 + 1) := Nat.mul_le_mul_left _ (Nat.le_of_lt hlt)
   rw [Nat.pow_add 2 24] at h4
   omega
 obtain ⟨d, hd⟩ : ∃ d, more + d = 128 := ⟨128 - more, by omega⟩
 have := rg_quot (rdm a) (rdm b) more d (-149 + (rdk a : Int) - (-149 + (rdk b : Int)) - 128 - 1) hbp hD
 rw [hd] at this
 rw [← this]
 congr 1
 omega
theorem fdiv_ii {a b : Nat} (hi : a % 2147483648 = 2139095040) (hj : b % 2147483648 = 2139095040) : fdiv a b = 2143289344 := by
 have h0 := div0 a b
 rw [inf_read hi, inf_read hj] at h0
 unfold fdiv
 rw [h0]
 rfl
theorem fdiv_if {a b : Nat} (hi : a % 2147483648 = 2139095040) (hf : b % 2147483648 < 2139095040) : fdiv a b = Ieee.single.word (sn a ^^ sn b) 2139095040 := by
 have h0 := div0 a b
 rw [inf_read hi, read_rd b hf] at h0
 unfold fdiv
 rw [h0]
 rfl
theorem fdiv_fi {a b : Nat} (hi : b % 2147483648 = 2139095040) (hf : a % 2147483648 < 2139095040) : fdiv a b = Ieee.single.word (sn a ^^ sn b) 0 := by
 have h0 := div0 a b
 rw [inf_read hi, read_rd a hf] at h0
 unfold fdiv
 rw [h0]
 rfl
theorem fdiv_fz {a b : Nat} (fa : a % 2147483648 < 2139095040) (fb : b % 2147483648 < 2139095040) (hb : rdm b = 0) : fdiv a b = if rdm a = 0 then 2143289344 else Ieee.single.word (sn a ^^ sn b) 2139095040 := by
 have h0 := div0 a b
 rw [read_rd a fa, read_rd b fb] at h0
 unfold fdiv
 rw [h0]
 simp only [Ieee.Datum.quotient, if_pos hb]
 split <;> rfl
theorem layV_endR (m : Bool) (x : Nat) (h : x = wrd m 2139095040) : LayV (vE m) x := fun w => by
 have := lay_endless m w
 rw [h]; exact this
theorem dec_ne (n : Nat) : (decide (0 < n)).toNat = (n != 0).toNat := by
 by_cases h : n = 0
 · subst h; rfl
 · rw [decide_eq_true (by omega), show (n != 0) = true by simp [h]]
theorem ratiov_any (a b : Nat) (w : World) (ha : a < 4294967296) (hb : b < 4294967296) :
   Calls Tryz.prog 141 #[.agg #[.int .i64 24, .int .i64 (-149), .int .i64 104], tv a, tv b] w fun e w' => (∃ v, e = .returned v ∧ LayV v (fdiv a b)) ∧ Below w.heap.size w w' := by
 have hx : (sn a ^^ sn b) = !(sg a == sg b) := by rw [xor_neR, sg_sn a ha, sg_sn b hb]
 rcases ok_cases a with ca | ca | ca
 · rw [tv_none ca, fdiv_nan (Or.inl ca)]
   rcases ok_cases b with cb | cb | cb
   · rw [tv_none cb]; exact (rt_n1 _ _ _ _ w).mono fun e w' ⟨he, h⟩ => ⟨⟨_, he, layV_none⟩, h⟩
   · rw [tv_inf cb]; exact (rt_n1 _ _ _ _ w).mono fun e w' ⟨he, h⟩ => ⟨⟨_, he, layV_none⟩, h⟩
   · rw [tv_fin cb]; exact (rt_n1 _ _ _ _ w).mono fun e w' ⟨he, h⟩ => ⟨⟨_, he, layV_none⟩, h⟩
 · rw [tv_inf ca]
   rcases ok_cases b with cb | cb | cb
   · rw [tv_none cb, fdiv_nan (Or.inr cb)]; exact (rt_n2 2 _ _ _ rfl w).mono fun e w' ⟨he, h⟩ => ⟨⟨_, he, layV_none⟩, h⟩
   · rw [tv_inf cb, fdiv_ii ca cb]
     exact (rt_ee _ _ w).mono fun e w' ⟨he, h⟩ => ⟨⟨_, he, layV_none⟩, h⟩
   · rw [tv_fin cb]
     have hf := fdiv_if ca cb
     rw [hx, word_wrd _ _ (by decide)] at hf
     exact (rt_ef _ _ _ rfl _ _ w).mono fun e w' ⟨he, h⟩ => ⟨⟨_, he, layV_endR _ _ hf⟩, h⟩
 · rcases ok_cases b with cb | cb | cb
   · rw [tv_fin ca, tv_none cb, fdiv_nan (Or.inr cb)]; exact (rt_n2 3 _ _ _ rfl w).mono fun e w' ⟨he, h⟩ => ⟨⟨_, he, layV_none⟩, h⟩
   · rw [tv_fin ca, tv_inf cb]
     have hf := fdiv_fi cb ca
     rw [hx, word_wrd _ _ (by decide)] at hf
     refine (rt_fe _ _ _ rfl _ _ w).mono fun e w' ⟨he, h⟩ => ⟨⟨_, he, ?_⟩, h⟩
     have hfit : Fits 0 (-149) 0 := ⟨0, by omega, by omega, Or.inl rfl, rfl⟩
     have h9 := layV_fit (m := !(sg a == sg b)) (x := fdiv a b) hfit (by rw [hf, Nat.zero_min])
     rw [show hdV (!(sg a == sg b)) 0 (-149) = .agg #[.int .u8 3, .bool (!(sg a == sg b)), .int .u64 ((0 : Nat) : Int), .int .i64 (-149)] from if_neg (by decide)] at h9
     exact h9
   · rw [tv_fin ca, tv_fin cb]
     obtain ⟨ka, na⟩ := rd_k ca
     obtain ⟨kb, nb⟩ := rd_k cb
     by_cases hz : rdm b = 0
     · have hf := fdiv_fz ca cb hz
       rw [hz]
       by_cases hy : rdm a = 0
       · rw [if_pos hy] at hf
         rw [hf, hy]
         exact (rt_zz _ _ _ _ w).mono fun e w' ⟨he, h⟩ => ⟨⟨_, he, layV_none⟩, h⟩
       · rw [if_neg hy, hx, word_wrd _ _ (by decide)] at hf
         exact (rt_fz _ _ _ rfl _ _ _ (by rw [beq_eq_false_iff_ne]; omega) w).mono fun e w' ⟨he, h⟩ => ⟨⟨_, he, layV_endR _ _ hf⟩, h⟩
     · have hf := fdiv_rd a b ca cb hz
       rw [hx, word_wrd _ _ (Nat.lt_of_le_of_lt (Nat.min_le_right _ _) (by decide)), ← dec_ne] at hf
       exact (rt_ff _ _ _ rfl _ _ _ _ _ _ _ _ _ w na nb (by rw [beq_eq_false_iff_ne]; omega) (by omega) (by omega) (by omega) (by omega) rfl rfl rfl rfl rfl).mono fun e w' ⟨⟨n, q, he, hq⟩, hbl⟩ => ⟨⟨_, he, layV_fit hq hf⟩, hbl⟩
set_option maxRecDepth 100000 in
set_option maxHeartbeats 1000000 in
theorem ratios_any (a b : Nat) (w : World) (ha : a < 4294967296) (hb : b < 4294967296) :
   Calls Tryz.prog 113 #[.int .u32 a, .int .u32 b] w fun e w' => e = .returned (.int .u32 (fdiv a b)) ∧ Below w.heap.size w w' := by
 have HB : Below w.heap.size w w := Below.refl _ _
 go_enter Tryz.func113, Tryz.ntmps113
 go_wp2_with (first
   | (go_at_call 106; refine (form_any _).mono ?_; rintro e wq ⟨rfl, hq⟩; subst wq)
   | (go_at_call 100; with_reducible refine (take_any a _ ha).mono ?_; rintro e w1 ⟨rfl, h1⟩; replace HB : Below w.heap.size w w1 := bt2 h1 (by apply_rules [HB, Below.refl, bel, Below.drew, bt3]))
   | (go_at_call 100; with_reducible refine (take_any b _ hb).mono ?_; rintro e w1 ⟨rfl, h1⟩; replace HB : Below w.heap.size w w1 := bt2 h1 (by apply_rules [HB, Below.refl, bel, Below.drew, bt3]))
   | (go_at_call 141; with_reducible refine (ratiov_any a b _ ha hb).mono ?_; rintro e w2 ⟨⟨v, rfl, hv⟩, h2⟩; replace HB : Below w.heap.size w w2 := bt2 h2 (by apply_rules [HB, Below.refl, bel, Below.drew, bt3]))
   | (go_at_call 104; with_reducible refine (layAt hv _).mono ?_; rintro e w3 ⟨rfl, h3⟩; replace HB : Below w.heap.size w w3 := bt2 h3 (by apply_rules [HB, Below.refl, bel, Below.drew, bt3])))
 go_ret
 exact ⟨rfl, HB⟩
end Go.Proofs.YtibhlcfligfhdaaGreat
