import Derived.Test.YtkkflgiepfenpaaSNrW0
import Derived.Test.YtkkflgiepfenpaaSNrW1
import Derived.Test.YtkkflgiepfenpaaSNrW2
namespace Go.Proofs.Ytkkflgiepfenpaa
open Go.RowKit

theorem hlo_lt (r : Nat) (h : rdm r < 16777216) : hlo r < 67108864 := by unfold hlo; split <;> omega
theorem xor_sign (a b : Nat) (ha : a < 4294967296) (hb : b < 4294967296) : ((((a ^^^ b) / 2147483648 * 2147483648 : Nat) : Int) != 0) = (sn a ^^ sn b) := by
  have e2 : (a ^^^ b) / 2147483648 = (a / 2147483648) ^^^ (b / 2147483648) := by
    rw [show 2147483648 = 2 ^ 31 by decide, ← Nat.shiftRight_eq_div_pow, ← Nat.shiftRight_eq_div_pow, ← Nat.shiftRight_eq_div_pow, Nat.shiftRight_xor_distrib]
  rw [e2]
  unfold sn
  have h1 : a / 2147483648 = 0 ∨ a / 2147483648 = 1 := by omega
  have h2 : b / 2147483648 = 0 ∨ b / 2147483648 = 1 := by omega
  rcases h1 with h1 | h1 <;> rcases h2 with h2 | h2 <;> rw [h1, h2] <;> rfl
theorem fmul_zero (a b : Nat) (fa : a % 2147483648 < 2139095040) (fb : b % 2147483648 < 2139095040) (h : rdm a = 0 ∨ rdm b = 0) : fmul a b % 2147483648 = 0 := by
  obtain ⟨r, e, hr⟩ := fmul_fin a b fa fb
  have hz : val (a % 2147483648) * val (b % 2147483648) = 0 := by
    rw [← (rd_val a).1, ← (rd_val b).1]
    rcases h with h | h <;> rw [h] <;> simp
  rw [hz] at hr
  rw [e, near_zero hr, word_mod _ _ (by decide)]; rfl
theorem fdiv_zero (a b : Nat) (fa : a % 2147483648 < 2139095040) (fb : b % 2147483648 < 2139095040) (h : rdm a = 0) (hb : rdm b ≠ 0) : fdiv a b % 2147483648 = 0 := by
  have h0 : Ieee.single.div a b = ((Ieee.single.read a).quotient 25 (Ieee.single.read b)).map Ieee.single.write := rfl
  rw [read_rd a fa, read_rd b fb, h] at h0
  simp only [Ieee.Datum.quotient, if_neg hb, Option.map_some, Nat.zero_shiftLeft, Nat.zero_div, Nat.zero_mod] at h0
  unfold fdiv
  rw [h0]
  show Ieee.single.word _ 0 % 2147483648 = 0
  exact word_mod _ _ (by decide)
set_option maxRecDepth 100000 in
set_option maxHeartbeats 4000000 in
theorem single_nearest (a b : Nat) (w : World) (la : a < 4294967296) (lb : b < 4294967296) :
    Calls Try.prog 3 #[.int .u32 a, .int .u32 b] w fun e w' => e = .returned (.bool true) ∧ ∃ m, w' = w.drewN m := by
  have f1 := fun w => fin_any a w la
  have f2 := fun w => fin_any b w lb
  have z1 := fun w => awake_any w
  by_cases fa : ¬ a % 2147483648 < 2139095040
  · rw [decide_eq_false fa] at f1
    clear f2
    go_enter Try.func3, Try.ntmps3
    go_wp2_with (first | (go_at_call 5; (first | with_reducible refine (f1 _).mono ?_); rintro e wq ⟨rfl, hq⟩; subst wq) | (go_at_call 6; (first | with_reducible refine (z1 _).mono ?_); rintro e wq ⟨rfl, m, hq⟩; subst wq))
    go_ret
    exact ⟨rfl, _, rfl⟩
  have fa := Decidable.not_not.1 fa
  rw [decide_eq_true fa] at f1
  by_cases fb : ¬ b % 2147483648 < 2139095040
  · rw [decide_eq_false fb] at f2
    go_enter Try.func3, Try.ntmps3
    go_wp2_with (first | (go_at_call 5; (first | with_reducible refine (f1 _).mono ?_ | with_reducible refine (f2 _).mono ?_); rintro e wq ⟨rfl, hq⟩; subst wq) | (go_at_call 6; (first | with_reducible refine (z1 _).mono ?_); rintro e wq ⟨rfl, m, hq⟩; subst wq))
    go_ret
    exact ⟨rfl, _, rfl⟩
  have fb := Decidable.not_not.1 fb
  rw [decide_eq_true fb] at f2
  have r1 := fun w => read_any a w la
  have r2 := fun w => read_any b w lb
  have p1 := fun w => prod_any a b w
  have q1 := fun w => ratio_any a b w
  have t1 := fun w => root_any a w (rfine_all a)
  have ha := b_and a la
  have hx := u32_xor_nat a b la lb
  have ho := b_andNot' (a ^^^ b) (Nat.xor_lt_two_pow (n := 32) la lb)
  have gs := xor_sign a b la lb
  obtain ⟨va, rva, ma, na⟩ := rd_val a
  obtain ⟨vb, rvb, mb, nb⟩ := rd_val b
  have ka : rdk a ≤ 253 := by omega
  have kb : rdk b ≤ 253 := by omega
  have b1 : (-149 : Int) ≤ -149 + (rdk a : Int) := by omega
  have b2 : -149 + (rdk a : Int) ≤ 104 := by omega
  have b3 : (-149 : Int) ≤ -149 + (rdk b : Int) := by omega
  have b4 : -149 + (rdk b : Int) ≤ 104 := by omega
  by_cases x0 : rdm a = 0
  · have gX : (((rdm a : Nat) : Int) != 0) = false := by rw [x0]; rfl
    have pz := fmul_zero a b fa fb (Or.inl x0)
    have gP : (((fmul a b % 2147483648 : Nat) : Int) != 0) = false := by rw [pz]; rfl
    have hP := b_and (fmul a b) (fmul_lt a b)
    have fP := fun w => fin_any (fmul a b) w (fmul_lt a b)
    rw [decide_eq_true (by omega)] at fP
    by_cases y0 : rdm b = 0
    · have gY : (((rdm b : Nat) : Int) != 0) = false := by rw [y0]; rfl
      exact nr_zyx a b _ _ _ _ _ 0 0 _ _ _ _ _ _ _ w f1 f2 r1 r2 p1 q1 t1 z1 ha hx ho gs b1 b2 b3 b4 fP hP gP gY gX
    · have gY : (((rdm b : Nat) : Int) != 0) = true := by simp; omega
      have qz := fdiv_zero a b fa fb x0 y0
      have hQ := b_and (fdiv a b) (fdiv_lt a b)
      have fQ := fun w => fin_any (fdiv a b) w (fdiv_lt a b)
      rw [decide_eq_true (by omega)] at fQ
      have gQ : (((fdiv a b % 2147483648 : Nat) : Int) != 0) = false := by rw [qz]; rfl
      exact nr_zzx a b _ _ _ _ _ _ 0 _ _ _ _ _ _ _ w f1 f2 r1 r2 p1 q1 t1 z1 ha hx ho gs b1 b2 b3 b4 fP hP gP gY fQ hQ gQ gX
  have gX : (((rdm a : Nat) : Int) != 0) = true := by simp; omega
  by_cases y0 : rdm b = 0
  · have gY : (((rdm b : Nat) : Int) != 0) = false := by rw [y0]; rfl
    have pz := fmul_zero a b fa fb (Or.inr y0)
    have gP : (((fmul a b % 2147483648 : Nat) : Int) != 0) = false := by rw [pz]; rfl
    have hP := b_and (fmul a b) (fmul_lt a b)
    have fP := fun w => fin_any (fmul a b) w (fmul_lt a b)
    rw [decide_eq_true (by omega)] at fP
    by_cases hsa : a < 2147483648
    · have hal : a < 2139095040 := by omega
      obtain ⟨q1', q2', q3'⟩ := root_btw a (by omega) hal
      have gA : ((a : Int) == ((a % 2147483648 : Nat) : Int)) = true := by rw [show a % 2147483648 = a by omega]; exact beq_self_eq_true _
      have fR := fun w => fin_any (froot a) w (froot_lt a)
      rw [decide_eq_true (by omega)] at fR
      have hR := b_and (froot a) (froot_lt a)
      have gR : (((froot a : Nat) : Int) == 0) = false := by simp; omega
      have sR : (((froot a : Nat) : Int) != ((froot a % 2147483648 : Nat) : Int)) = false := by rw [show froot a % 2147483648 = froot a by omega]; simp
      obtain ⟨-, -, z5, z6, -⟩ := halves_val (froot a) (by omega)
      obtain ⟨-, z1', z2, -⟩ := rd_val (froot a)
      have vR := fun w => halves_any (froot a) w (froot_lt a) z5
      have rb : (-1000 : Int) ≤ -151 + (rdk (froot a) : Int) := by omega
      have rb2 : -151 + (rdk (froot a) : Int) ≤ 1000 := by omega
      have z7 := hlo_lt (froot a) z2
      have z8 : hlo (froot a) * hlo (froot a) < 4611686018427387904 := Nat.lt_of_le_of_lt (Nat.mul_le_mul (Nat.le_of_lt z7) (Nat.le_of_lt z7)) (by decide)
      have z9 : (4 * rdm (froot a) + 2) * (4 * rdm (froot a) + 2) < 4611686018427387904 := Nat.lt_of_le_of_lt (Nat.mul_le_mul (show 4 * rdm (froot a) + 2 ≤ 67108864 by omega) (show 4 * rdm (froot a) + 2 ≤ 67108864 by omega)) (by decide)
      have kR := fun w => btw_any (rdm a) (hlo (froot a) * hlo (froot a)) ((4 * rdm (froot a) + 2) * (4 * rdm (froot a) + 2)) (-149 + (rdk a : Int)) (2 * (-151 + (rdk (froot a) : Int))) (rdm (froot a) % 2 == 0) w (by omega) (by omega) (by omega) (by omega) (by omega) (by omega) (Nat.mul_pos z6 z6) z8 (Nat.mul_pos (by omega) (by omega)) z9 q3'
      rw [Int.natCast_mul, Int.natCast_mul] at kR
      have wR : ((hlo (froot a) : Nat) : Int) * ((hlo (froot a) : Nat) : Int) < 18446744073709551616 := by rw [← Int.natCast_mul]; omega
      have wR0 : 0 ≤ ((hlo (froot a) : Nat) : Int) * ((hlo (froot a) : Nat) : Int) := by rw [← Int.natCast_mul]; omega
      have wR1 : ((4 * rdm (froot a) + 2 : Nat) : Int) * ((4 * rdm (froot a) + 2 : Nat) : Int) < 18446744073709551616 := by rw [← Int.natCast_mul]; omega
      have wR2 : 0 ≤ ((4 * rdm (froot a) + 2 : Nat) : Int) * ((4 * rdm (froot a) + 2 : Nat) : Int) := by rw [← Int.natCast_mul]; omega
      exact nr_zye a b _ _ _ _ _ 0 _ _ _ _ _ _ _ _ w f1 f2 r1 r2 p1 q1 t1 z1 ha hx ho gs b1 b2 b3 b4 fP hP gP gY gX gA fR hR gR sR _ _ _ _ rb rb2 vR kR wR wR0 wR1 wR2
    · have gA : ((a : Int) == ((a % 2147483648 : Nat) : Int)) = false := by simp; omega
      exact nr_zys a b _ _ _ _ _ 0 0 _ _ _ _ _ _ _ w f1 f2 r1 r2 p1 q1 t1 z1 ha hx ho gs b1 b2 b3 b4 fP hP gP gY gX gA
  have gY : (((rdm b : Nat) : Int) != 0) = true := by simp; omega
  have hP := b_and (fmul a b) (fmul_lt a b)
  have fP := fun w => fin_any (fmul a b) w (fmul_lt a b)
  by_cases pf : fmul a b % 2147483648 < 2139095040
  · rw [decide_eq_true pf] at fP
    by_cases pz : fmul a b % 2147483648 = 0
    · have gP : (((fmul a b % 2147483648 : Nat) : Int) != 0) = false := by rw [pz]; rfl
      have hQ := b_and (fdiv a b) (fdiv_lt a b)
      have fQ := fun w => fin_any (fdiv a b) w (fdiv_lt a b)
      by_cases qf : fdiv a b % 2147483648 < 2139095040
      · rw [decide_eq_true qf] at fQ
        by_cases qz : fdiv a b % 2147483648 = 0
        · have gQ : (((fdiv a b % 2147483648 : Nat) : Int) != 0) = false := by rw [qz]; rfl
          by_cases hsa : a < 2147483648
          · have hal : a < 2139095040 := by omega
            obtain ⟨q1', q2', q3'⟩ := root_btw a (by omega) hal
            have gA : ((a : Int) == ((a % 2147483648 : Nat) : Int)) = true := by rw [show a % 2147483648 = a by omega]; exact beq_self_eq_true _
            have fR := fun w => fin_any (froot a) w (froot_lt a)
            rw [decide_eq_true (by omega)] at fR
            have hR := b_and (froot a) (froot_lt a)
            have gR : (((froot a : Nat) : Int) == 0) = false := by simp; omega
            have sR : (((froot a : Nat) : Int) != ((froot a % 2147483648 : Nat) : Int)) = false := by rw [show froot a % 2147483648 = froot a by omega]; simp
            obtain ⟨-, -, z5, z6, -⟩ := halves_val (froot a) (by omega)
            obtain ⟨-, z1', z2, -⟩ := rd_val (froot a)
            have vR := fun w => halves_any (froot a) w (froot_lt a) z5
            have rb : (-1000 : Int) ≤ -151 + (rdk (froot a) : Int) := by omega
            have rb2 : -151 + (rdk (froot a) : Int) ≤ 1000 := by omega
            have z7 := hlo_lt (froot a) z2
            have z8 : hlo (froot a) * hlo (froot a) < 4611686018427387904 := Nat.lt_of_le_of_lt (Nat.mul_le_mul (Nat.le_of_lt z7) (Nat.le_of_lt z7)) (by decide)
            have z9 : (4 * rdm (froot a) + 2) * (4 * rdm (froot a) + 2) < 4611686018427387904 := Nat.lt_of_le_of_lt (Nat.mul_le_mul (show 4 * rdm (froot a) + 2 ≤ 67108864 by omega) (show 4 * rdm (froot a) + 2 ≤ 67108864 by omega)) (by decide)
            have kR := fun w => btw_any (rdm a) (hlo (froot a) * hlo (froot a)) ((4 * rdm (froot a) + 2) * (4 * rdm (froot a) + 2)) (-149 + (rdk a : Int)) (2 * (-151 + (rdk (froot a) : Int))) (rdm (froot a) % 2 == 0) w (by omega) (by omega) (by omega) (by omega) (by omega) (by omega) (Nat.mul_pos z6 z6) z8 (Nat.mul_pos (by omega) (by omega)) z9 q3'
            rw [Int.natCast_mul, Int.natCast_mul] at kR
            have wR : ((hlo (froot a) : Nat) : Int) * ((hlo (froot a) : Nat) : Int) < 18446744073709551616 := by rw [← Int.natCast_mul]; omega
            have wR0 : 0 ≤ ((hlo (froot a) : Nat) : Int) * ((hlo (froot a) : Nat) : Int) := by rw [← Int.natCast_mul]; omega
            have wR1 : ((4 * rdm (froot a) + 2 : Nat) : Int) * ((4 * rdm (froot a) + 2 : Nat) : Int) < 18446744073709551616 := by rw [← Int.natCast_mul]; omega
            have wR2 : 0 ≤ ((4 * rdm (froot a) + 2 : Nat) : Int) * ((4 * rdm (froot a) + 2 : Nat) : Int) := by rw [← Int.natCast_mul]; omega
            exact nr_zze a b _ _ _ _ _ _ _ _ _ _ _ _ _ _ w f1 f2 r1 r2 p1 q1 t1 z1 ha hx ho gs b1 b2 b3 b4 fP hP gP gY fQ hQ gQ gX gA fR hR gR sR _ _ _ _ rb rb2 vR kR wR wR0 wR1 wR2
          · have gA : ((a : Int) == ((a % 2147483648 : Nat) : Int)) = false := by simp; omega
            exact nr_zzs a b _ _ _ _ _ _ 0 _ _ _ _ _ _ _ w f1 f2 r1 r2 p1 q1 t1 z1 ha hx ho gs b1 b2 b3 b4 fP hP gP gY fQ hQ gQ gX gA
        · have gQ : (((fdiv a b % 2147483648 : Nat) : Int) != 0) = true := by simp; omega
          obtain ⟨more, E, r, e1, e2, e3, e4⟩ := fdiv_fin a b fa fb (by omega) (by omega)
          obtain ⟨w1', w2', w3', -⟩ := word_facts (sn a ^^ sn b) (min r 2139095040) (by omega)
          rw [← e1] at w2' w3'
          have er : fdiv a b % 2147483648 = r := by omega
          rw [← er] at e2
          have qb := ratio_btw a b (fdiv a b) (by omega) more E (by omega) e2 e3 e4
          obtain ⟨-, -, y5, y6, -⟩ := halves_val (fdiv a b) (by omega)
          obtain ⟨-, y1', y2, -⟩ := rd_val (fdiv a b)
          have vQ := fun w => halves_any (fdiv a b) w (fdiv_lt a b) y5
          have y7 := hlo_lt (fdiv a b) y2
          have y8 : hlo (fdiv a b) * rdm b < 4611686018427387904 := Nat.lt_of_le_of_lt (Nat.mul_le_mul (Nat.le_of_lt y7) (Nat.le_of_lt mb)) (by decide)
          have y9 : (4 * rdm (fdiv a b) + 2) * rdm b < 4611686018427387904 := Nat.lt_of_le_of_lt (Nat.mul_le_mul (show 4 * rdm (fdiv a b) + 2 ≤ 67108864 by omega) (Nat.le_of_lt mb)) (by decide)
          have kQ := fun w => btw_any (rdm a) (hlo (fdiv a b) * rdm b) ((4 * rdm (fdiv a b) + 2) * rdm b) ((rdk a : Int) - rdk b) (-151 + (rdk (fdiv a b) : Int)) (rdm (fdiv a b) % 2 == 0) w (by omega) (by omega) (by omega) (by omega) (by omega) (by omega) (Nat.mul_pos y6 (by omega)) y8 (Nat.mul_pos (by omega) (by omega)) y9 qb
          rw [Int.natCast_mul, Int.natCast_mul, show (rdk a : Int) - (rdk b : Int) = -149 + (rdk a : Int) - (-149 + (rdk b : Int)) by omega] at kQ
          have wQ : ((hlo (fdiv a b) : Nat) : Int) * ((rdm b : Nat) : Int) < 18446744073709551616 := by rw [← Int.natCast_mul]; omega
          have wQ0 : 0 ≤ ((hlo (fdiv a b) : Nat) : Int) * ((rdm b : Nat) : Int) := by rw [← Int.natCast_mul]; omega
          have wQ1 : ((4 * rdm (fdiv a b) + 2 : Nat) : Int) * ((rdm b : Nat) : Int) < 18446744073709551616 := by rw [← Int.natCast_mul]; omega
          have wQ2 : 0 ≤ ((4 * rdm (fdiv a b) + 2 : Nat) : Int) * ((rdm b : Nat) : Int) := by rw [← Int.natCast_mul]; omega
          have sQ : (((fdiv a b : Nat) : Int) != ((fdiv a b % 2147483648 : Nat) : Int)) = (sn a ^^ sn b) := by rw [sn_bool _ (fdiv_lt a b)]; exact w3'
          by_cases hsa : a < 2147483648
          · have hal : a < 2139095040 := by omega
            obtain ⟨q1', q2', q3'⟩ := root_btw a (by omega) hal
            have gA : ((a : Int) == ((a % 2147483648 : Nat) : Int)) = true := by rw [show a % 2147483648 = a by omega]; exact beq_self_eq_true _
            have fR := fun w => fin_any (froot a) w (froot_lt a)
            rw [decide_eq_true (by omega)] at fR
            have hR := b_and (froot a) (froot_lt a)
            have gR : (((froot a : Nat) : Int) == 0) = false := by simp; omega
            have sR : (((froot a : Nat) : Int) != ((froot a % 2147483648 : Nat) : Int)) = false := by rw [show froot a % 2147483648 = froot a by omega]; simp
            obtain ⟨-, -, z5, z6, -⟩ := halves_val (froot a) (by omega)
            obtain ⟨-, z1', z2, -⟩ := rd_val (froot a)
            have vR := fun w => halves_any (froot a) w (froot_lt a) z5
            have rb : (-1000 : Int) ≤ -151 + (rdk (froot a) : Int) := by omega
            have rb2 : -151 + (rdk (froot a) : Int) ≤ 1000 := by omega
            have z7 := hlo_lt (froot a) z2
            have z8 : hlo (froot a) * hlo (froot a) < 4611686018427387904 := Nat.lt_of_le_of_lt (Nat.mul_le_mul (Nat.le_of_lt z7) (Nat.le_of_lt z7)) (by decide)
            have z9 : (4 * rdm (froot a) + 2) * (4 * rdm (froot a) + 2) < 4611686018427387904 := Nat.lt_of_le_of_lt (Nat.mul_le_mul (show 4 * rdm (froot a) + 2 ≤ 67108864 by omega) (show 4 * rdm (froot a) + 2 ≤ 67108864 by omega)) (by decide)
            have kR := fun w => btw_any (rdm a) (hlo (froot a) * hlo (froot a)) ((4 * rdm (froot a) + 2) * (4 * rdm (froot a) + 2)) (-149 + (rdk a : Int)) (2 * (-151 + (rdk (froot a) : Int))) (rdm (froot a) % 2 == 0) w (by omega) (by omega) (by omega) (by omega) (by omega) (by omega) (Nat.mul_pos z6 z6) z8 (Nat.mul_pos (by omega) (by omega)) z9 q3'
            rw [Int.natCast_mul, Int.natCast_mul] at kR
            have wR : ((hlo (froot a) : Nat) : Int) * ((hlo (froot a) : Nat) : Int) < 18446744073709551616 := by rw [← Int.natCast_mul]; omega
            have wR0 : 0 ≤ ((hlo (froot a) : Nat) : Int) * ((hlo (froot a) : Nat) : Int) := by rw [← Int.natCast_mul]; omega
            have wR1 : ((4 * rdm (froot a) + 2 : Nat) : Int) * ((4 * rdm (froot a) + 2 : Nat) : Int) < 18446744073709551616 := by rw [← Int.natCast_mul]; omega
            have wR2 : 0 ≤ ((4 * rdm (froot a) + 2 : Nat) : Int) * ((4 * rdm (froot a) + 2 : Nat) : Int) := by rw [← Int.natCast_mul]; omega
            exact nr_zee a b _ _ _ _ _ _ _ _ _ _ _ _ _ _ w f1 f2 r1 r2 p1 q1 t1 z1 ha hx ho gs b1 b2 b3 b4 fP hP gP gY fQ hQ gQ _ _ _ _ vQ kQ wQ wQ0 wQ1 wQ2 sQ gX gA fR hR gR sR _ _ _ _ rb rb2 vR kR wR wR0 wR1 wR2
          · have gA : ((a : Int) == ((a % 2147483648 : Nat) : Int)) = false := by simp; omega
            exact nr_zes a b _ _ _ _ _ _ 0 _ _ _ _ _ _ _ w f1 f2 r1 r2 p1 q1 t1 z1 ha hx ho gs b1 b2 b3 b4 fP hP gP gY fQ hQ gQ _ _ _ _ vQ kQ wQ wQ0 wQ1 wQ2 sQ gX gA
      · rw [decide_eq_false qf] at fQ
        by_cases hsa : a < 2147483648
        · have hal : a < 2139095040 := by omega
          obtain ⟨q1', q2', q3'⟩ := root_btw a (by omega) hal
          have gA : ((a : Int) == ((a % 2147483648 : Nat) : Int)) = true := by rw [show a % 2147483648 = a by omega]; exact beq_self_eq_true _
          have fR := fun w => fin_any (froot a) w (froot_lt a)
          rw [decide_eq_true (by omega)] at fR
          have hR := b_and (froot a) (froot_lt a)
          have gR : (((froot a : Nat) : Int) == 0) = false := by simp; omega
          have sR : (((froot a : Nat) : Int) != ((froot a % 2147483648 : Nat) : Int)) = false := by rw [show froot a % 2147483648 = froot a by omega]; simp
          obtain ⟨-, -, z5, z6, -⟩ := halves_val (froot a) (by omega)
          obtain ⟨-, z1', z2, -⟩ := rd_val (froot a)
          have vR := fun w => halves_any (froot a) w (froot_lt a) z5
          have rb : (-1000 : Int) ≤ -151 + (rdk (froot a) : Int) := by omega
          have rb2 : -151 + (rdk (froot a) : Int) ≤ 1000 := by omega
          have z7 := hlo_lt (froot a) z2
          have z8 : hlo (froot a) * hlo (froot a) < 4611686018427387904 := Nat.lt_of_le_of_lt (Nat.mul_le_mul (Nat.le_of_lt z7) (Nat.le_of_lt z7)) (by decide)
          have z9 : (4 * rdm (froot a) + 2) * (4 * rdm (froot a) + 2) < 4611686018427387904 := Nat.lt_of_le_of_lt (Nat.mul_le_mul (show 4 * rdm (froot a) + 2 ≤ 67108864 by omega) (show 4 * rdm (froot a) + 2 ≤ 67108864 by omega)) (by decide)
          have kR := fun w => btw_any (rdm a) (hlo (froot a) * hlo (froot a)) ((4 * rdm (froot a) + 2) * (4 * rdm (froot a) + 2)) (-149 + (rdk a : Int)) (2 * (-151 + (rdk (froot a) : Int))) (rdm (froot a) % 2 == 0) w (by omega) (by omega) (by omega) (by omega) (by omega) (by omega) (Nat.mul_pos z6 z6) z8 (Nat.mul_pos (by omega) (by omega)) z9 q3'
          rw [Int.natCast_mul, Int.natCast_mul] at kR
          have wR : ((hlo (froot a) : Nat) : Int) * ((hlo (froot a) : Nat) : Int) < 18446744073709551616 := by rw [← Int.natCast_mul]; omega
          have wR0 : 0 ≤ ((hlo (froot a) : Nat) : Int) * ((hlo (froot a) : Nat) : Int) := by rw [← Int.natCast_mul]; omega
          have wR1 : ((4 * rdm (froot a) + 2 : Nat) : Int) * ((4 * rdm (froot a) + 2 : Nat) : Int) < 18446744073709551616 := by rw [← Int.natCast_mul]; omega
          have wR2 : 0 ≤ ((4 * rdm (froot a) + 2 : Nat) : Int) * ((4 * rdm (froot a) + 2 : Nat) : Int) := by rw [← Int.natCast_mul]; omega
          exact nr_zie a b _ _ _ _ _ 0 _ _ _ _ _ _ _ _ w f1 f2 r1 r2 p1 q1 t1 z1 ha hx ho gs b1 b2 b3 b4 fP hP gP gY fQ gX gA fR hR gR sR _ _ _ _ rb rb2 vR kR wR wR0 wR1 wR2
        · have gA : ((a : Int) == ((a % 2147483648 : Nat) : Int)) = false := by simp; omega
          exact nr_zis a b _ _ _ _ _ 0 0 _ _ _ _ _ _ _ w f1 f2 r1 r2 p1 q1 t1 z1 ha hx ho gs b1 b2 b3 b4 fP hP gP gY fQ gX gA
    · have gP : (((fmul a b % 2147483648 : Nat) : Int) != 0) = true := by simp; omega
      obtain ⟨pr, pe, pn⟩ := fmul_fin a b fa fb
      obtain ⟨v1', v2', v3', -⟩ := word_facts (sn a ^^ sn b) (min pr 2139095040) (by omega)
      rw [← pe] at v2' v3'
      have per : fmul a b % 2147483648 = pr := by omega
      rw [← per, ← va, ← vb, Nat.mul_mul_mul_comm, ← Nat.pow_add] at pn
      have pb := near_btw (power := -149 + (rdk a : Int) + (-149 + (rdk b : Int))) (by omega) pn rfl (by omega)
      obtain ⟨-, -, x5, x6, -⟩ := halves_val (fmul a b) (by omega)
      obtain ⟨-, x1', x2, -⟩ := rd_val (fmul a b)
      have vP := fun w => halves_any (fmul a b) w (fmul_lt a b) x5
      have x7 := hlo_lt (fmul a b) x2
      have x8 : rdm a * rdm b < 4611686018427387904 := Nat.lt_of_le_of_lt (Nat.mul_le_mul (Nat.le_of_lt ma) (Nat.le_of_lt mb)) (by decide)
      have kP := fun w => btw_any (rdm a * rdm b) (hlo (fmul a b)) (4 * rdm (fmul a b) + 2) (-149 + (rdk a : Int) + (-149 + (rdk b : Int))) (-151 + (rdk (fmul a b) : Int)) (rdm (fmul a b) % 2 == 0) w (by omega) (by omega) (by omega) (by omega) (Nat.mul_pos (by omega) (by omega)) x8 x6 (by omega) (by omega) (by omega) pb
      rw [Int.natCast_mul] at kP
      have wP : ((rdm a : Nat) : Int) * ((rdm b : Nat) : Int) < 18446744073709551616 := by rw [← Int.natCast_mul]; omega
      have wP0 : 0 ≤ ((rdm a : Nat) : Int) * ((rdm b : Nat) : Int) := by rw [← Int.natCast_mul]; omega
      have sP : (((fmul a b : Nat) : Int) != ((fmul a b % 2147483648 : Nat) : Int)) = (sn a ^^ sn b) := by rw [sn_bool _ (fmul_lt a b)]; exact v3'
      have hQ := b_and (fdiv a b) (fdiv_lt a b)
      have fQ := fun w => fin_any (fdiv a b) w (fdiv_lt a b)
      by_cases qf : fdiv a b % 2147483648 < 2139095040
      · rw [decide_eq_true qf] at fQ
        by_cases qz : fdiv a b % 2147483648 = 0
        · have gQ : (((fdiv a b % 2147483648 : Nat) : Int) != 0) = false := by rw [qz]; rfl
          by_cases hsa : a < 2147483648
          · have hal : a < 2139095040 := by omega
            obtain ⟨q1', q2', q3'⟩ := root_btw a (by omega) hal
            have gA : ((a : Int) == ((a % 2147483648 : Nat) : Int)) = true := by rw [show a % 2147483648 = a by omega]; exact beq_self_eq_true _
            have fR := fun w => fin_any (froot a) w (froot_lt a)
            rw [decide_eq_true (by omega)] at fR
            have hR := b_and (froot a) (froot_lt a)
            have gR : (((froot a : Nat) : Int) == 0) = false := by simp; omega
            have sR : (((froot a : Nat) : Int) != ((froot a % 2147483648 : Nat) : Int)) = false := by rw [show froot a % 2147483648 = froot a by omega]; simp
            obtain ⟨-, -, z5, z6, -⟩ := halves_val (froot a) (by omega)
            obtain ⟨-, z1', z2, -⟩ := rd_val (froot a)
            have vR := fun w => halves_any (froot a) w (froot_lt a) z5
            have rb : (-1000 : Int) ≤ -151 + (rdk (froot a) : Int) := by omega
            have rb2 : -151 + (rdk (froot a) : Int) ≤ 1000 := by omega
            have z7 := hlo_lt (froot a) z2
            have z8 : hlo (froot a) * hlo (froot a) < 4611686018427387904 := Nat.lt_of_le_of_lt (Nat.mul_le_mul (Nat.le_of_lt z7) (Nat.le_of_lt z7)) (by decide)
            have z9 : (4 * rdm (froot a) + 2) * (4 * rdm (froot a) + 2) < 4611686018427387904 := Nat.lt_of_le_of_lt (Nat.mul_le_mul (show 4 * rdm (froot a) + 2 ≤ 67108864 by omega) (show 4 * rdm (froot a) + 2 ≤ 67108864 by omega)) (by decide)
            have kR := fun w => btw_any (rdm a) (hlo (froot a) * hlo (froot a)) ((4 * rdm (froot a) + 2) * (4 * rdm (froot a) + 2)) (-149 + (rdk a : Int)) (2 * (-151 + (rdk (froot a) : Int))) (rdm (froot a) % 2 == 0) w (by omega) (by omega) (by omega) (by omega) (by omega) (by omega) (Nat.mul_pos z6 z6) z8 (Nat.mul_pos (by omega) (by omega)) z9 q3'
            rw [Int.natCast_mul, Int.natCast_mul] at kR
            have wR : ((hlo (froot a) : Nat) : Int) * ((hlo (froot a) : Nat) : Int) < 18446744073709551616 := by rw [← Int.natCast_mul]; omega
            have wR0 : 0 ≤ ((hlo (froot a) : Nat) : Int) * ((hlo (froot a) : Nat) : Int) := by rw [← Int.natCast_mul]; omega
            have wR1 : ((4 * rdm (froot a) + 2 : Nat) : Int) * ((4 * rdm (froot a) + 2 : Nat) : Int) < 18446744073709551616 := by rw [← Int.natCast_mul]; omega
            have wR2 : 0 ≤ ((4 * rdm (froot a) + 2 : Nat) : Int) * ((4 * rdm (froot a) + 2 : Nat) : Int) := by rw [← Int.natCast_mul]; omega
            exact nr_eze a b _ _ _ _ _ _ _ _ _ _ _ _ _ _ w f1 f2 r1 r2 p1 q1 t1 z1 ha hx ho gs b1 b2 b3 b4 fP hP gP _ _ _ _ vP kP wP wP0 sP gY fQ hQ gQ gX gA fR hR gR sR _ _ _ _ rb rb2 vR kR wR wR0 wR1 wR2
          · have gA : ((a : Int) == ((a % 2147483648 : Nat) : Int)) = false := by simp; omega
            exact nr_ezs a b _ _ _ _ _ _ 0 _ _ _ _ _ _ _ w f1 f2 r1 r2 p1 q1 t1 z1 ha hx ho gs b1 b2 b3 b4 fP hP gP _ _ _ _ vP kP wP wP0 sP gY fQ hQ gQ gX gA
        · have gQ : (((fdiv a b % 2147483648 : Nat) : Int) != 0) = true := by simp; omega
          obtain ⟨more, E, r, e1, e2, e3, e4⟩ := fdiv_fin a b fa fb (by omega) (by omega)
          obtain ⟨w1', w2', w3', -⟩ := word_facts (sn a ^^ sn b) (min r 2139095040) (by omega)
          rw [← e1] at w2' w3'
          have er : fdiv a b % 2147483648 = r := by omega
          rw [← er] at e2
          have qb := ratio_btw a b (fdiv a b) (by omega) more E (by omega) e2 e3 e4
          obtain ⟨-, -, y5, y6, -⟩ := halves_val (fdiv a b) (by omega)
          obtain ⟨-, y1', y2, -⟩ := rd_val (fdiv a b)
          have vQ := fun w => halves_any (fdiv a b) w (fdiv_lt a b) y5
          have y7 := hlo_lt (fdiv a b) y2
          have y8 : hlo (fdiv a b) * rdm b < 4611686018427387904 := Nat.lt_of_le_of_lt (Nat.mul_le_mul (Nat.le_of_lt y7) (Nat.le_of_lt mb)) (by decide)
          have y9 : (4 * rdm (fdiv a b) + 2) * rdm b < 4611686018427387904 := Nat.lt_of_le_of_lt (Nat.mul_le_mul (show 4 * rdm (fdiv a b) + 2 ≤ 67108864 by omega) (Nat.le_of_lt mb)) (by decide)
          have kQ := fun w => btw_any (rdm a) (hlo (fdiv a b) * rdm b) ((4 * rdm (fdiv a b) + 2) * rdm b) ((rdk a : Int) - rdk b) (-151 + (rdk (fdiv a b) : Int)) (rdm (fdiv a b) % 2 == 0) w (by omega) (by omega) (by omega) (by omega) (by omega) (by omega) (Nat.mul_pos y6 (by omega)) y8 (Nat.mul_pos (by omega) (by omega)) y9 qb
          rw [Int.natCast_mul, Int.natCast_mul, show (rdk a : Int) - (rdk b : Int) = -149 + (rdk a : Int) - (-149 + (rdk b : Int)) by omega] at kQ
          have wQ : ((hlo (fdiv a b) : Nat) : Int) * ((rdm b : Nat) : Int) < 18446744073709551616 := by rw [← Int.natCast_mul]; omega
          have wQ0 : 0 ≤ ((hlo (fdiv a b) : Nat) : Int) * ((rdm b : Nat) : Int) := by rw [← Int.natCast_mul]; omega
          have wQ1 : ((4 * rdm (fdiv a b) + 2 : Nat) : Int) * ((rdm b : Nat) : Int) < 18446744073709551616 := by rw [← Int.natCast_mul]; omega
          have wQ2 : 0 ≤ ((4 * rdm (fdiv a b) + 2 : Nat) : Int) * ((rdm b : Nat) : Int) := by rw [← Int.natCast_mul]; omega
          have sQ : (((fdiv a b : Nat) : Int) != ((fdiv a b % 2147483648 : Nat) : Int)) = (sn a ^^ sn b) := by rw [sn_bool _ (fdiv_lt a b)]; exact w3'
          by_cases hsa : a < 2147483648
          · have hal : a < 2139095040 := by omega
            obtain ⟨q1', q2', q3'⟩ := root_btw a (by omega) hal
            have gA : ((a : Int) == ((a % 2147483648 : Nat) : Int)) = true := by rw [show a % 2147483648 = a by omega]; exact beq_self_eq_true _
            have fR := fun w => fin_any (froot a) w (froot_lt a)
            rw [decide_eq_true (by omega)] at fR
            have hR := b_and (froot a) (froot_lt a)
            have gR : (((froot a : Nat) : Int) == 0) = false := by simp; omega
            have sR : (((froot a : Nat) : Int) != ((froot a % 2147483648 : Nat) : Int)) = false := by rw [show froot a % 2147483648 = froot a by omega]; simp
            obtain ⟨-, -, z5, z6, -⟩ := halves_val (froot a) (by omega)
            obtain ⟨-, z1', z2, -⟩ := rd_val (froot a)
            have vR := fun w => halves_any (froot a) w (froot_lt a) z5
            have rb : (-1000 : Int) ≤ -151 + (rdk (froot a) : Int) := by omega
            have rb2 : -151 + (rdk (froot a) : Int) ≤ 1000 := by omega
            have z7 := hlo_lt (froot a) z2
            have z8 : hlo (froot a) * hlo (froot a) < 4611686018427387904 := Nat.lt_of_le_of_lt (Nat.mul_le_mul (Nat.le_of_lt z7) (Nat.le_of_lt z7)) (by decide)
            have z9 : (4 * rdm (froot a) + 2) * (4 * rdm (froot a) + 2) < 4611686018427387904 := Nat.lt_of_le_of_lt (Nat.mul_le_mul (show 4 * rdm (froot a) + 2 ≤ 67108864 by omega) (show 4 * rdm (froot a) + 2 ≤ 67108864 by omega)) (by decide)
            have kR := fun w => btw_any (rdm a) (hlo (froot a) * hlo (froot a)) ((4 * rdm (froot a) + 2) * (4 * rdm (froot a) + 2)) (-149 + (rdk a : Int)) (2 * (-151 + (rdk (froot a) : Int))) (rdm (froot a) % 2 == 0) w (by omega) (by omega) (by omega) (by omega) (by omega) (by omega) (Nat.mul_pos z6 z6) z8 (Nat.mul_pos (by omega) (by omega)) z9 q3'
            rw [Int.natCast_mul, Int.natCast_mul] at kR
            have wR : ((hlo (froot a) : Nat) : Int) * ((hlo (froot a) : Nat) : Int) < 18446744073709551616 := by rw [← Int.natCast_mul]; omega
            have wR0 : 0 ≤ ((hlo (froot a) : Nat) : Int) * ((hlo (froot a) : Nat) : Int) := by rw [← Int.natCast_mul]; omega
            have wR1 : ((4 * rdm (froot a) + 2 : Nat) : Int) * ((4 * rdm (froot a) + 2 : Nat) : Int) < 18446744073709551616 := by rw [← Int.natCast_mul]; omega
            have wR2 : 0 ≤ ((4 * rdm (froot a) + 2 : Nat) : Int) * ((4 * rdm (froot a) + 2 : Nat) : Int) := by rw [← Int.natCast_mul]; omega
            exact nr_eee a b _ _ _ _ _ _ _ _ _ _ _ _ _ _ w f1 f2 r1 r2 p1 q1 t1 z1 ha hx ho gs b1 b2 b3 b4 fP hP gP _ _ _ _ vP kP wP wP0 sP gY fQ hQ gQ _ _ _ _ vQ kQ wQ wQ0 wQ1 wQ2 sQ gX gA fR hR gR sR _ _ _ _ rb rb2 vR kR wR wR0 wR1 wR2
          · have gA : ((a : Int) == ((a % 2147483648 : Nat) : Int)) = false := by simp; omega
            exact nr_ees a b _ _ _ _ _ _ 0 _ _ _ _ _ _ _ w f1 f2 r1 r2 p1 q1 t1 z1 ha hx ho gs b1 b2 b3 b4 fP hP gP _ _ _ _ vP kP wP wP0 sP gY fQ hQ gQ _ _ _ _ vQ kQ wQ wQ0 wQ1 wQ2 sQ gX gA
      · rw [decide_eq_false qf] at fQ
        by_cases hsa : a < 2147483648
        · have hal : a < 2139095040 := by omega
          obtain ⟨q1', q2', q3'⟩ := root_btw a (by omega) hal
          have gA : ((a : Int) == ((a % 2147483648 : Nat) : Int)) = true := by rw [show a % 2147483648 = a by omega]; exact beq_self_eq_true _
          have fR := fun w => fin_any (froot a) w (froot_lt a)
          rw [decide_eq_true (by omega)] at fR
          have hR := b_and (froot a) (froot_lt a)
          have gR : (((froot a : Nat) : Int) == 0) = false := by simp; omega
          have sR : (((froot a : Nat) : Int) != ((froot a % 2147483648 : Nat) : Int)) = false := by rw [show froot a % 2147483648 = froot a by omega]; simp
          obtain ⟨-, -, z5, z6, -⟩ := halves_val (froot a) (by omega)
          obtain ⟨-, z1', z2, -⟩ := rd_val (froot a)
          have vR := fun w => halves_any (froot a) w (froot_lt a) z5
          have rb : (-1000 : Int) ≤ -151 + (rdk (froot a) : Int) := by omega
          have rb2 : -151 + (rdk (froot a) : Int) ≤ 1000 := by omega
          have z7 := hlo_lt (froot a) z2
          have z8 : hlo (froot a) * hlo (froot a) < 4611686018427387904 := Nat.lt_of_le_of_lt (Nat.mul_le_mul (Nat.le_of_lt z7) (Nat.le_of_lt z7)) (by decide)
          have z9 : (4 * rdm (froot a) + 2) * (4 * rdm (froot a) + 2) < 4611686018427387904 := Nat.lt_of_le_of_lt (Nat.mul_le_mul (show 4 * rdm (froot a) + 2 ≤ 67108864 by omega) (show 4 * rdm (froot a) + 2 ≤ 67108864 by omega)) (by decide)
          have kR := fun w => btw_any (rdm a) (hlo (froot a) * hlo (froot a)) ((4 * rdm (froot a) + 2) * (4 * rdm (froot a) + 2)) (-149 + (rdk a : Int)) (2 * (-151 + (rdk (froot a) : Int))) (rdm (froot a) % 2 == 0) w (by omega) (by omega) (by omega) (by omega) (by omega) (by omega) (Nat.mul_pos z6 z6) z8 (Nat.mul_pos (by omega) (by omega)) z9 q3'
          rw [Int.natCast_mul, Int.natCast_mul] at kR
          have wR : ((hlo (froot a) : Nat) : Int) * ((hlo (froot a) : Nat) : Int) < 18446744073709551616 := by rw [← Int.natCast_mul]; omega
          have wR0 : 0 ≤ ((hlo (froot a) : Nat) : Int) * ((hlo (froot a) : Nat) : Int) := by rw [← Int.natCast_mul]; omega
          have wR1 : ((4 * rdm (froot a) + 2 : Nat) : Int) * ((4 * rdm (froot a) + 2 : Nat) : Int) < 18446744073709551616 := by rw [← Int.natCast_mul]; omega
          have wR2 : 0 ≤ ((4 * rdm (froot a) + 2 : Nat) : Int) * ((4 * rdm (froot a) + 2 : Nat) : Int) := by rw [← Int.natCast_mul]; omega
          exact nr_eie a b _ _ _ _ _ 0 _ _ _ _ _ _ _ _ w f1 f2 r1 r2 p1 q1 t1 z1 ha hx ho gs b1 b2 b3 b4 fP hP gP _ _ _ _ vP kP wP wP0 sP gY fQ gX gA fR hR gR sR _ _ _ _ rb rb2 vR kR wR wR0 wR1 wR2
        · have gA : ((a : Int) == ((a % 2147483648 : Nat) : Int)) = false := by simp; omega
          exact nr_eis a b _ _ _ _ _ 0 0 _ _ _ _ _ _ _ w f1 f2 r1 r2 p1 q1 t1 z1 ha hx ho gs b1 b2 b3 b4 fP hP gP _ _ _ _ vP kP wP wP0 sP gY fQ gX gA
  · rw [decide_eq_false pf] at fP
    have hQ := b_and (fdiv a b) (fdiv_lt a b)
    have fQ := fun w => fin_any (fdiv a b) w (fdiv_lt a b)
    by_cases qf : fdiv a b % 2147483648 < 2139095040
    · rw [decide_eq_true qf] at fQ
      by_cases qz : fdiv a b % 2147483648 = 0
      · have gQ : (((fdiv a b % 2147483648 : Nat) : Int) != 0) = false := by rw [qz]; rfl
        by_cases hsa : a < 2147483648
        · have hal : a < 2139095040 := by omega
          obtain ⟨q1', q2', q3'⟩ := root_btw a (by omega) hal
          have gA : ((a : Int) == ((a % 2147483648 : Nat) : Int)) = true := by rw [show a % 2147483648 = a by omega]; exact beq_self_eq_true _
          have fR := fun w => fin_any (froot a) w (froot_lt a)
          rw [decide_eq_true (by omega)] at fR
          have hR := b_and (froot a) (froot_lt a)
          have gR : (((froot a : Nat) : Int) == 0) = false := by simp; omega
          have sR : (((froot a : Nat) : Int) != ((froot a % 2147483648 : Nat) : Int)) = false := by rw [show froot a % 2147483648 = froot a by omega]; simp
          obtain ⟨-, -, z5, z6, -⟩ := halves_val (froot a) (by omega)
          obtain ⟨-, z1', z2, -⟩ := rd_val (froot a)
          have vR := fun w => halves_any (froot a) w (froot_lt a) z5
          have rb : (-1000 : Int) ≤ -151 + (rdk (froot a) : Int) := by omega
          have rb2 : -151 + (rdk (froot a) : Int) ≤ 1000 := by omega
          have z7 := hlo_lt (froot a) z2
          have z8 : hlo (froot a) * hlo (froot a) < 4611686018427387904 := Nat.lt_of_le_of_lt (Nat.mul_le_mul (Nat.le_of_lt z7) (Nat.le_of_lt z7)) (by decide)
          have z9 : (4 * rdm (froot a) + 2) * (4 * rdm (froot a) + 2) < 4611686018427387904 := Nat.lt_of_le_of_lt (Nat.mul_le_mul (show 4 * rdm (froot a) + 2 ≤ 67108864 by omega) (show 4 * rdm (froot a) + 2 ≤ 67108864 by omega)) (by decide)
          have kR := fun w => btw_any (rdm a) (hlo (froot a) * hlo (froot a)) ((4 * rdm (froot a) + 2) * (4 * rdm (froot a) + 2)) (-149 + (rdk a : Int)) (2 * (-151 + (rdk (froot a) : Int))) (rdm (froot a) % 2 == 0) w (by omega) (by omega) (by omega) (by omega) (by omega) (by omega) (Nat.mul_pos z6 z6) z8 (Nat.mul_pos (by omega) (by omega)) z9 q3'
          rw [Int.natCast_mul, Int.natCast_mul] at kR
          have wR : ((hlo (froot a) : Nat) : Int) * ((hlo (froot a) : Nat) : Int) < 18446744073709551616 := by rw [← Int.natCast_mul]; omega
          have wR0 : 0 ≤ ((hlo (froot a) : Nat) : Int) * ((hlo (froot a) : Nat) : Int) := by rw [← Int.natCast_mul]; omega
          have wR1 : ((4 * rdm (froot a) + 2 : Nat) : Int) * ((4 * rdm (froot a) + 2 : Nat) : Int) < 18446744073709551616 := by rw [← Int.natCast_mul]; omega
          have wR2 : 0 ≤ ((4 * rdm (froot a) + 2 : Nat) : Int) * ((4 * rdm (froot a) + 2 : Nat) : Int) := by rw [← Int.natCast_mul]; omega
          exact nr_ize a b _ _ _ _ 0 _ _ _ _ _ _ _ _ _ w f1 f2 r1 r2 p1 q1 t1 z1 ha hx ho gs b1 b2 b3 b4 fP gY fQ hQ gQ gX gA fR hR gR sR _ _ _ _ rb rb2 vR kR wR wR0 wR1 wR2
        · have gA : ((a : Int) == ((a % 2147483648 : Nat) : Int)) = false := by simp; omega
          exact nr_izs a b _ _ _ _ 0 _ 0 _ _ _ _ _ _ _ w f1 f2 r1 r2 p1 q1 t1 z1 ha hx ho gs b1 b2 b3 b4 fP gY fQ hQ gQ gX gA
      · have gQ : (((fdiv a b % 2147483648 : Nat) : Int) != 0) = true := by simp; omega
        obtain ⟨more, E, r, e1, e2, e3, e4⟩ := fdiv_fin a b fa fb (by omega) (by omega)
        obtain ⟨w1', w2', w3', -⟩ := word_facts (sn a ^^ sn b) (min r 2139095040) (by omega)
        rw [← e1] at w2' w3'
        have er : fdiv a b % 2147483648 = r := by omega
        rw [← er] at e2
        have qb := ratio_btw a b (fdiv a b) (by omega) more E (by omega) e2 e3 e4
        obtain ⟨-, -, y5, y6, -⟩ := halves_val (fdiv a b) (by omega)
        obtain ⟨-, y1', y2, -⟩ := rd_val (fdiv a b)
        have vQ := fun w => halves_any (fdiv a b) w (fdiv_lt a b) y5
        have y7 := hlo_lt (fdiv a b) y2
        have y8 : hlo (fdiv a b) * rdm b < 4611686018427387904 := Nat.lt_of_le_of_lt (Nat.mul_le_mul (Nat.le_of_lt y7) (Nat.le_of_lt mb)) (by decide)
        have y9 : (4 * rdm (fdiv a b) + 2) * rdm b < 4611686018427387904 := Nat.lt_of_le_of_lt (Nat.mul_le_mul (show 4 * rdm (fdiv a b) + 2 ≤ 67108864 by omega) (Nat.le_of_lt mb)) (by decide)
        have kQ := fun w => btw_any (rdm a) (hlo (fdiv a b) * rdm b) ((4 * rdm (fdiv a b) + 2) * rdm b) ((rdk a : Int) - rdk b) (-151 + (rdk (fdiv a b) : Int)) (rdm (fdiv a b) % 2 == 0) w (by omega) (by omega) (by omega) (by omega) (by omega) (by omega) (Nat.mul_pos y6 (by omega)) y8 (Nat.mul_pos (by omega) (by omega)) y9 qb
        rw [Int.natCast_mul, Int.natCast_mul, show (rdk a : Int) - (rdk b : Int) = -149 + (rdk a : Int) - (-149 + (rdk b : Int)) by omega] at kQ
        have wQ : ((hlo (fdiv a b) : Nat) : Int) * ((rdm b : Nat) : Int) < 18446744073709551616 := by rw [← Int.natCast_mul]; omega
        have wQ0 : 0 ≤ ((hlo (fdiv a b) : Nat) : Int) * ((rdm b : Nat) : Int) := by rw [← Int.natCast_mul]; omega
        have wQ1 : ((4 * rdm (fdiv a b) + 2 : Nat) : Int) * ((rdm b : Nat) : Int) < 18446744073709551616 := by rw [← Int.natCast_mul]; omega
        have wQ2 : 0 ≤ ((4 * rdm (fdiv a b) + 2 : Nat) : Int) * ((rdm b : Nat) : Int) := by rw [← Int.natCast_mul]; omega
        have sQ : (((fdiv a b : Nat) : Int) != ((fdiv a b % 2147483648 : Nat) : Int)) = (sn a ^^ sn b) := by rw [sn_bool _ (fdiv_lt a b)]; exact w3'
        by_cases hsa : a < 2147483648
        · have hal : a < 2139095040 := by omega
          obtain ⟨q1', q2', q3'⟩ := root_btw a (by omega) hal
          have gA : ((a : Int) == ((a % 2147483648 : Nat) : Int)) = true := by rw [show a % 2147483648 = a by omega]; exact beq_self_eq_true _
          have fR := fun w => fin_any (froot a) w (froot_lt a)
          rw [decide_eq_true (by omega)] at fR
          have hR := b_and (froot a) (froot_lt a)
          have gR : (((froot a : Nat) : Int) == 0) = false := by simp; omega
          have sR : (((froot a : Nat) : Int) != ((froot a % 2147483648 : Nat) : Int)) = false := by rw [show froot a % 2147483648 = froot a by omega]; simp
          obtain ⟨-, -, z5, z6, -⟩ := halves_val (froot a) (by omega)
          obtain ⟨-, z1', z2, -⟩ := rd_val (froot a)
          have vR := fun w => halves_any (froot a) w (froot_lt a) z5
          have rb : (-1000 : Int) ≤ -151 + (rdk (froot a) : Int) := by omega
          have rb2 : -151 + (rdk (froot a) : Int) ≤ 1000 := by omega
          have z7 := hlo_lt (froot a) z2
          have z8 : hlo (froot a) * hlo (froot a) < 4611686018427387904 := Nat.lt_of_le_of_lt (Nat.mul_le_mul (Nat.le_of_lt z7) (Nat.le_of_lt z7)) (by decide)
          have z9 : (4 * rdm (froot a) + 2) * (4 * rdm (froot a) + 2) < 4611686018427387904 := Nat.lt_of_le_of_lt (Nat.mul_le_mul (show 4 * rdm (froot a) + 2 ≤ 67108864 by omega) (show 4 * rdm (froot a) + 2 ≤ 67108864 by omega)) (by decide)
          have kR := fun w => btw_any (rdm a) (hlo (froot a) * hlo (froot a)) ((4 * rdm (froot a) + 2) * (4 * rdm (froot a) + 2)) (-149 + (rdk a : Int)) (2 * (-151 + (rdk (froot a) : Int))) (rdm (froot a) % 2 == 0) w (by omega) (by omega) (by omega) (by omega) (by omega) (by omega) (Nat.mul_pos z6 z6) z8 (Nat.mul_pos (by omega) (by omega)) z9 q3'
          rw [Int.natCast_mul, Int.natCast_mul] at kR
          have wR : ((hlo (froot a) : Nat) : Int) * ((hlo (froot a) : Nat) : Int) < 18446744073709551616 := by rw [← Int.natCast_mul]; omega
          have wR0 : 0 ≤ ((hlo (froot a) : Nat) : Int) * ((hlo (froot a) : Nat) : Int) := by rw [← Int.natCast_mul]; omega
          have wR1 : ((4 * rdm (froot a) + 2 : Nat) : Int) * ((4 * rdm (froot a) + 2 : Nat) : Int) < 18446744073709551616 := by rw [← Int.natCast_mul]; omega
          have wR2 : 0 ≤ ((4 * rdm (froot a) + 2 : Nat) : Int) * ((4 * rdm (froot a) + 2 : Nat) : Int) := by rw [← Int.natCast_mul]; omega
          exact nr_iee a b _ _ _ _ 0 _ _ _ _ _ _ _ _ _ w f1 f2 r1 r2 p1 q1 t1 z1 ha hx ho gs b1 b2 b3 b4 fP gY fQ hQ gQ _ _ _ _ vQ kQ wQ wQ0 wQ1 wQ2 sQ gX gA fR hR gR sR _ _ _ _ rb rb2 vR kR wR wR0 wR1 wR2
        · have gA : ((a : Int) == ((a % 2147483648 : Nat) : Int)) = false := by simp; omega
          exact nr_ies a b _ _ _ _ 0 _ 0 _ _ _ _ _ _ _ w f1 f2 r1 r2 p1 q1 t1 z1 ha hx ho gs b1 b2 b3 b4 fP gY fQ hQ gQ _ _ _ _ vQ kQ wQ wQ0 wQ1 wQ2 sQ gX gA
    · rw [decide_eq_false qf] at fQ
      by_cases hsa : a < 2147483648
      · have hal : a < 2139095040 := by omega
        obtain ⟨q1', q2', q3'⟩ := root_btw a (by omega) hal
        have gA : ((a : Int) == ((a % 2147483648 : Nat) : Int)) = true := by rw [show a % 2147483648 = a by omega]; exact beq_self_eq_true _
        have fR := fun w => fin_any (froot a) w (froot_lt a)
        rw [decide_eq_true (by omega)] at fR
        have hR := b_and (froot a) (froot_lt a)
        have gR : (((froot a : Nat) : Int) == 0) = false := by simp; omega
        have sR : (((froot a : Nat) : Int) != ((froot a % 2147483648 : Nat) : Int)) = false := by rw [show froot a % 2147483648 = froot a by omega]; simp
        obtain ⟨-, -, z5, z6, -⟩ := halves_val (froot a) (by omega)
        obtain ⟨-, z1', z2, -⟩ := rd_val (froot a)
        have vR := fun w => halves_any (froot a) w (froot_lt a) z5
        have rb : (-1000 : Int) ≤ -151 + (rdk (froot a) : Int) := by omega
        have rb2 : -151 + (rdk (froot a) : Int) ≤ 1000 := by omega
        have z7 := hlo_lt (froot a) z2
        have z8 : hlo (froot a) * hlo (froot a) < 4611686018427387904 := Nat.lt_of_le_of_lt (Nat.mul_le_mul (Nat.le_of_lt z7) (Nat.le_of_lt z7)) (by decide)
        have z9 : (4 * rdm (froot a) + 2) * (4 * rdm (froot a) + 2) < 4611686018427387904 := Nat.lt_of_le_of_lt (Nat.mul_le_mul (show 4 * rdm (froot a) + 2 ≤ 67108864 by omega) (show 4 * rdm (froot a) + 2 ≤ 67108864 by omega)) (by decide)
        have kR := fun w => btw_any (rdm a) (hlo (froot a) * hlo (froot a)) ((4 * rdm (froot a) + 2) * (4 * rdm (froot a) + 2)) (-149 + (rdk a : Int)) (2 * (-151 + (rdk (froot a) : Int))) (rdm (froot a) % 2 == 0) w (by omega) (by omega) (by omega) (by omega) (by omega) (by omega) (Nat.mul_pos z6 z6) z8 (Nat.mul_pos (by omega) (by omega)) z9 q3'
        rw [Int.natCast_mul, Int.natCast_mul] at kR
        have wR : ((hlo (froot a) : Nat) : Int) * ((hlo (froot a) : Nat) : Int) < 18446744073709551616 := by rw [← Int.natCast_mul]; omega
        have wR0 : 0 ≤ ((hlo (froot a) : Nat) : Int) * ((hlo (froot a) : Nat) : Int) := by rw [← Int.natCast_mul]; omega
        have wR1 : ((4 * rdm (froot a) + 2 : Nat) : Int) * ((4 * rdm (froot a) + 2 : Nat) : Int) < 18446744073709551616 := by rw [← Int.natCast_mul]; omega
        have wR2 : 0 ≤ ((4 * rdm (froot a) + 2 : Nat) : Int) * ((4 * rdm (froot a) + 2 : Nat) : Int) := by rw [← Int.natCast_mul]; omega
        exact nr_iie a b _ _ _ _ 0 0 _ _ _ _ _ _ _ _ w f1 f2 r1 r2 p1 q1 t1 z1 ha hx ho gs b1 b2 b3 b4 fP gY fQ gX gA fR hR gR sR _ _ _ _ rb rb2 vR kR wR wR0 wR1 wR2
      · have gA : ((a : Int) == ((a % 2147483648 : Nat) : Int)) = false := by simp; omega
        exact nr_iis a b _ _ _ _ 0 0 0 _ _ _ _ _ _ _ w f1 f2 r1 r2 p1 q1 t1 z1 ha hx ho gs b1 b2 b3 b4 fP gY fQ gX gA
end Go.Proofs.Ytkkflgiepfenpaa
