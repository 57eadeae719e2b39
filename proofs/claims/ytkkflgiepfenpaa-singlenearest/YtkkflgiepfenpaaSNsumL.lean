import Derived.Test.YtkkflgiepfenpaaSNsum
namespace Go.Proofs.Ytkkflgiepfenpaa
open Go.RowKit

theorem near_zero {d r : Nat} (h : Near 8388608 d 0 r) : r = 0 := by
  have := near_self 8388608 d 0 (by decide)
  rw [show vl 8388608 0 = 0 from rfl, Nat.zero_mul] at this
  exact h.unique (by decide) this
theorem word_sn (a : Nat) (h : a < 4294967296) : Ieee.single.word (sn a) (a % 2147483648) = a := by
  have e1 : Ieee.single.signWeight = 2147483648 := rfl
  unfold Ieee.Format.word sn
  rw [e1]
  by_cases h' : a < 2147483648
  · rw [show a / 2147483648 % 2 = 0 by omega]; simp; omega
  · rw [show a / 2147483648 % 2 = 1 by omega]; simp; omega
theorem sum_comm' (d e : Ieee.Datum) : d.sum e = e.sum d := by
  cases d <;> cases e <;> simp only [Ieee.Datum.sum]
  · rename_i s m i t n j
    rw [Int.min_comm i j, Int.add_comm (Ieee.signed s _ _), Bool.and_comm]
  · rename_i s t
    by_cases h : s = t
    · subst h; rfl
    · rw [if_neg h, if_neg (Ne.symm h)]
theorem fsum_comm' (a b : Nat) : fsum b a = fsum a b := by unfold fsum Ieee.Format.add; rw [sum_comm']
theorem far_sum (a b : Nat) (ha : a < 4294967296) (fa : a % 2147483648 < 2139095040) (fb : b % 2147483648 < 2139095040) (hk : rdk b + 38 < rdk a) : fsum a b = a := by
  obtain ⟨va, ra, ma, na⟩ := rd_val a
  obtain ⟨vb, rb, mb, nb⟩ := rd_val b
  obtain ⟨neg, r, e, hr, h1, -⟩ := fsum_fin a b fa fb
  have hM : 8388608 ≤ rdm a := by omega
  have h0 : 0 < a % 2147483648 := by omega
  obtain ⟨e1, e2, -, -, -⟩ := halves_val a h0
  have hlo4 : hlo a ≤ 4 * rdm a - 1 := by unfold hlo; split <;> omega
  have hp := Nat.two_pow_pos (rdk a)
  have hvb : val (b % 2147483648) * 4 < 2 ^ rdk a := by
    rw [← vb]
    have h2 : rdm b * 2 ^ rdk b * 4 < 2 ^ 24 * 2 ^ rdk b * 4 := Nat.mul_lt_mul_of_pos_right (Nat.mul_lt_mul_of_pos_right (by omega) (Nat.two_pow_pos _)) (by decide)
    rw [← Nat.pow_add, show (4 : Nat) = 2 ^ 2 from rfl, ← Nat.pow_add] at h2
    have h3 : 2 ^ (24 + rdk b + 2) ≤ 2 ^ rdk a := Nat.pow_le_pow_right (by decide) (by omega)
    omega
  have hva : 4 * rdm a * 2 ^ rdk a = 4 * val (a % 2147483648) := by rw [Nat.mul_assoc, va]
  have hva2 : 8388608 * 2 ^ rdk a ≤ val (a % 2147483648) := by rw [← va]; exact Nat.mul_le_mul_right _ hM
  have hup : (4 * rdm a + 2) * 2 ^ rdk a = 4 * val (a % 2147483648) + 2 * 2 ^ rdk a := by rw [Nat.add_mul, hva]
  have hdn : hlo a * 2 ^ rdk a + 2 ^ rdk a ≤ 4 * val (a % 2147483648) := by
    have : (hlo a + 1) * 2 ^ rdk a ≤ 4 * rdm a * 2 ^ rdk a := Nat.mul_le_mul_right _ (by omega)
    rw [Nat.add_mul, Nat.one_mul, hva] at this
    exact this
  have hsa : sval a = (if sn a then -((val (a % 2147483648) : Nat) : Int) else ((val (a % 2147483648) : Nat) : Int)) := rfl
  have hsb : sval b = (if sn b then -((val (b % 2147483648) : Nat) : Int) else ((val (b % 2147483648) : Nat) : Int)) := rfl
  have hS : sval a + sval b ≠ 0 ∧ decide (sval a + sval b < 0) = sn a ∧ 4 * (sval a + sval b).natAbs < 4 * val (a % 2147483648) + 2 ^ rdk a ∧ 4 * val (a % 2147483648) < 4 * (sval a + sval b).natAbs + 2 ^ rdk a := by
    rw [hsa, hsb]
    generalize 2 ^ rdk a = P at *
    generalize val (a % 2147483648) = X at *
    generalize val (b % 2147483648) = Y at *
    cases sn a <;> cases sn b <;> simp only [Bool.false_eq_true, if_false, if_true] <;> refine ⟨by omega, ?_, by omega, by omega⟩
    · exact decide_eq_false (by omega)
    · exact decide_eq_false (by omega)
    · exact decide_eq_true (by omega)
    · exact decide_eq_true (by omega)
  obtain ⟨S1, S2, S3, S4⟩ := hS
  have hn : Near 8388608 0 (sval a + sval b).natAbs (a % 2147483648) := by
    rw [hup] at e1
    refine ⟨?_, fun r' hr' => ?_⟩
    · rw [Nat.pow_zero, Nat.mul_one, ← val_vl, ← val_vl]
      exact ⟨by omega, fun h => by omega⟩
    · have := e2 r' hr'
      rw [Nat.pow_zero, Nat.mul_one, ← val_vl, ← val_vl]
      exact ⟨by omega, fun h => by omega⟩
  have hrr := hr.unique (by decide) hn
  rw [e, hrr, h1 S1, S2, Nat.min_eq_left (by omega)]
  exact word_sn a ha

theorem sg_mul (a x q : Nat) : sg a x * (2 ^ q : Nat) = sg a (x * 2 ^ q) := by
  unfold sg; split
  · rw [Int.natCast_mul, Int.neg_mul]
  · rw [Int.natCast_mul]
theorem sval_sg (a : Nat) : sval a = sg a (rdm a * 2 ^ rdk a) := by
  rw [(rd_val a).1]; rfl
/-- what the law asks of the sum -/
theorem sum_told (a b : Nat) (fa : a % 2147483648 < 2139095040) (fb : b % 2147483648 < 2139095040) (q na nb : Nat) (ka : rdk a = na + q) (kb : rdk b = nb + q) :
    (sg a (rdm a * 2 ^ na) + sg b (rdm b * 2 ^ nb) = 0 → fsum a b % 2147483648 = 0) ∧
    ∀ x : Nat, 0 < x → ∀ neg : Bool, sg a (rdm a * 2 ^ na) + sg b (rdm b * 2 ^ nb) = (if neg then -(x : Int) else (x : Int)) →
      sn (fsum a b) = neg ∧ (33554431 * 2 ^ 252 ≤ x * 2 ^ q → fsum a b % 2147483648 = 2139095040) ∧
      (¬ 33554431 * 2 ^ 252 ≤ x * 2 ^ q → fsum a b % 2147483648 < 2139095040 ∧ 0 < fsum a b % 2147483648 ∧ Btw x (-149 + (q : Int)) (hlo (fsum a b)) (4 * rdm (fsum a b) + 2) (-151 + (rdk (fsum a b) : Int)) (rdm (fsum a b) % 2 == 0)) := by
  obtain ⟨ng, r, e, hr, h1, -⟩ := fsum_fin a b fa fb
  have hS : sval a + sval b = (sg a (rdm a * 2 ^ na) + sg b (rdm b * 2 ^ nb)) * (2 ^ q : Nat) := by
    rw [sval_sg, sval_sg, ka, kb, Int.add_mul, sg_mul, sg_mul, Nat.mul_assoc, Nat.mul_assoc, Nat.pow_add, Nat.pow_add]
  rw [hS] at hr h1
  have hp := Nat.two_pow_pos q
  have hm : ∀ neg : Bool, (Ieee.single.word neg (min r 2139095040)) % 2147483648 = min r 2139095040 := fun neg => word_mod neg _ (by omega)
  refine ⟨fun hz => ?_, fun x hx neg hT => ?_⟩
  · rw [hz, Int.zero_mul, Int.natAbs_zero] at hr
    rw [e, hm, near_zero hr]; rfl
  · rw [hT] at hr h1
    have hab : ((if neg then -(x : Int) else (x : Int)) * (2 ^ q : Nat)).natAbs = x * 2 ^ q := by
      rw [Int.natAbs_mul, Int.natAbs_natCast]; congr 1; split <;> omega
    rw [hab] at hr
    have hpos : (0 : Int) < (x : Int) * (2 ^ q : Nat) := Int.mul_pos (by omega) (by omega)
    have hng : ng = neg := by
      cases neg
      · simp only [Bool.false_eq_true, if_false] at h1
        rw [h1 (by omega)]; exact decide_eq_false (by omega)
      · simp only [if_true, Int.neg_mul] at h1
        rw [h1 (by omega)]; exact decide_eq_true (by omega)
    subst hng
    have hg := near_great hr
    rw [Nat.pow_zero, Nat.mul_one] at hg
    have hsn : sn (fsum a b) = ng := by rw [e]; exact (word_facts ng _ (by omega)).2.2.1
    refine ⟨hsn, fun hge => ?_, fun hnge => ?_⟩
    · rw [e, hm]; have := hg.1 hge; omega
    · have hlt : r < 2139095040 := Nat.lt_of_not_le fun h => hnge (hg.2 h)
      have hmod : fsum a b % 2147483648 = r := by rw [e, hm]; omega
      have hr0 : 0 < r := by
        rcases Nat.eq_zero_or_pos r with h | h
        · subst h
          have := hr.1.1
          rw [show vl 8388608 0 = 0 from rfl, show vl 8388608 (0 + 1) = 1 from rfl, Nat.pow_zero] at this
          have := Nat.mul_pos hx hp
          omega
        · exact h
      rw [← hmod] at hr
      refine ⟨by omega, by omega, near_btw (d := 0) (E := q) (by omega) hr rfl (by omega)⟩

set_option maxRecDepth 100000 in
set_option maxHeartbeats 4000000 in
theorem single_nearest_sum (a b : Nat) (w : World) (ha : a < 4294967296) (hb : b < 4294967296) :
    Calls Try.prog 4 #[.int .u32 a, .int .u32 b] w fun e w' => e = .returned (.bool true) ∧ ∃ m, w' = w.drewN m := by
  have f1 := fun w => fin_any a w ha
  have f2 := fun w => fin_any b w hb
  have z1 := fun w => awake_any w
  by_cases fa : ¬ a % 2147483648 < 2139095040
  · rw [decide_eq_false fa] at f1
    clear f2
    go_enter Try.func4, Try.ntmps4
    go_wp2_with (first | (go_at_call 5; (first | with_reducible refine (f1 _).mono ?_); rintro e wq ⟨rfl, hq⟩; subst wq) | (go_at_call 6; (first | with_reducible refine (z1 _).mono ?_); rintro e wq ⟨rfl, m, hq⟩; subst wq))
    go_ret
    exact ⟨rfl, _, rfl⟩
  have fa := Decidable.not_not.1 fa
  rw [decide_eq_true fa] at f1
  by_cases fb : ¬ b % 2147483648 < 2139095040
  · rw [decide_eq_false fb] at f2
    go_enter Try.func4, Try.ntmps4
    go_wp2_with (first | (go_at_call 5; (first | with_reducible refine (f1 _).mono ?_ | with_reducible refine (f2 _).mono ?_); rintro e wq ⟨rfl, hq⟩; subst wq) | (go_at_call 6; (first | with_reducible refine (z1 _).mono ?_); rintro e wq ⟨rfl, m, hq⟩; subst wq))
    go_ret
    exact ⟨rfl, _, rfl⟩
  have fb := Decidable.not_not.1 fb
  rw [decide_eq_true fb] at f2
  have r1 := fun w => read_any a w ha
  have r2 := fun w => read_any b w hb
  have s1 := fun w => sum_any a b w
  have s2 := fun w => sum_any b a w
  rw [fsum_comm'] at s2
  obtain ⟨-, rva, rma, rna⟩ := rd_val a
  obtain ⟨-, rvb, rmb, rnb⟩ := rd_val b
  have hka : rdk a ≤ 253 := by omega
  have hkb : rdk b ≤ 253 := by omega
  clear rna rnb
  obtain ⟨ap, hap⟩ : ∃ ap : Int, ap = -149 + (rdk a : Int) := ⟨_, rfl⟩
  obtain ⟨bp, hbp⟩ : ∃ bp : Int, bp = -149 + (rdk b : Int) := ⟨_, rfl⟩
  rw [← hap] at r1
  rw [← hbp] at r2
  by_cases d1 : 38 < ap - bp
  · have hf := far_sum a b ha fa fb (by omega)
    rw [hf] at s1 s2
    have g0 : decide (38 < ap - bp) = true := decide_eq_true d1
    have b1 : -149 ≤ ap ∧ ap ≤ 104 ∧ -149 ≤ bp ∧ bp ≤ 104 := by omega
    clear hap hbp hf rva rma rvb rmb hka hkb d1
    go_enter Try.func4, Try.ntmps4
    go_wp2_with (first | (go_at_call 5; (first | with_reducible refine (f1 _).mono ?_ | with_reducible refine (f2 _).mono ?_); rintro e wq ⟨rfl, hq⟩; subst wq) | (go_at_call 7; (first | with_reducible refine (r1 _).mono ?_ | with_reducible refine (r2 _).mono ?_); rintro e wq ⟨rfl, hq⟩; subst wq) | (go_at_call 13; (first | with_reducible refine (s1 _).mono ?_ | with_reducible refine (s2 _).mono ?_); rintro e wq ⟨rfl, m, hq⟩; subst wq) | (go_at_call 6; (first | with_reducible refine (z1 _).mono ?_); rintro e wq ⟨rfl, m, hq⟩; subst wq))
    go_ret
    exact ⟨rfl, _, rfl⟩
  by_cases d2 : 38 < bp - ap
  · have hf := far_sum b a hb fb fa (by omega)
    rw [fsum_comm'] at hf
    rw [hf] at s1 s2
    have g0 : decide (38 < ap - bp) = false := decide_eq_false d1
    have g0' : decide (38 < bp - ap) = true := decide_eq_true d2
    have b1 : -149 ≤ ap ∧ ap ≤ 104 ∧ -149 ≤ bp ∧ bp ≤ 104 := by omega
    clear hap hbp hf rva rma rvb rmb hka hkb d1 d2
    go_enter Try.func4, Try.ntmps4
    go_wp2_with (first | (go_at_call 5; (first | with_reducible refine (f1 _).mono ?_ | with_reducible refine (f2 _).mono ?_); rintro e wq ⟨rfl, hq⟩; subst wq) | (go_at_call 7; (first | with_reducible refine (r1 _).mono ?_ | with_reducible refine (r2 _).mono ?_); rintro e wq ⟨rfl, hq⟩; subst wq) | (go_at_call 13; (first | with_reducible refine (s1 _).mono ?_ | with_reducible refine (s2 _).mono ?_); rintro e wq ⟨rfl, m, hq⟩; subst wq) | (go_at_call 6; (first | with_reducible refine (z1 _).mono ?_); rintro e wq ⟨rfl, m, hq⟩; subst wq))
    go_ret
    exact ⟨rfl, _, rfl⟩
  have g0 : decide (38 < ap - bp) = false := decide_eq_false d1
  have g0' : decide (38 < bp - ap) = false := decide_eq_false d2
  have b1 : -149 ≤ ap ∧ ap ≤ 104 ∧ -149 ≤ bp ∧ bp ≤ 104 := by omega
  have hlt := fsum_lt a b
  have hand := b_and (fsum a b) hlt
  have hsn := sn_bool (fsum a b) hlt
  by_cases hlt' : bp < ap
  · obtain ⟨n, hn⟩ : ∃ n : Nat, rdk a = n + rdk b := ⟨rdk a - rdk b, by omega⟩
    have hgn : ap - bp = (n : Int) := by omega
    have g3 : decide (bp < ap) = true := decide_eq_true hlt'
    have g1 := fun w => signed_any a n w ha (by omega)
    have g2 : ∀ w, Calls Try.prog 14 #[.int .u32 b, .int .i64 0] w fun e w' => e = .returned (.int .i64 (sg b (rdm b * 2 ^ 0))) ∧ w' = w := fun w => signed_any b 0 w hb (by omega)
    obtain ⟨t1, t2⟩ := sum_told a b fa fb (rdk b) n 0 hn (by omega)
    have hbd : (sg a (rdm a * 2 ^ n) + sg b (rdm b * 2 ^ 0)).natAbs < 4611686018427387904 := by
      have h1 : 2 ^ n ≤ 2 ^ 38 := Nat.pow_le_pow_right (by decide) (by omega)
      have h2 : rdm a * 2 ^ n ≤ 16777215 * 2 ^ 38 := Nat.mul_le_mul (by omega) h1
      unfold sg
      split <;> split <;> omega
    have gr := fun x (hx : x < 4611686018427387904) w => great_any x (rdk b) w hx hkb
    rw [← hbp] at gr t2
    have g0n : decide ((38 : Int) < (n : Int)) = false := decide_eq_false (by omega)
    have hb1 : -4611686018427387904 < sg a (rdm a * 2 ^ n) + sg b (rdm b * 2 ^ 0) ∧ sg a (rdm a * 2 ^ n) + sg b (rdm b * 2 ^ 0) < 4611686018427387904 := by omega
    generalize sg a (rdm a * 2 ^ n) = A at *
    generalize sg b (rdm b * 2 ^ 0) = B at *
    have q1 : -149 ≤ bp ∧ bp ≤ 104 := by omega
    generalize rdk b = Q at *
    clear hap hbp rva rma rvb rmb d1 d2 hlt' hn hka hkb
    by_cases hz : A + B = 0
    · have t1 := t1 hz
      rw [t1] at hand
      clear t2 gr hsn
      generalize fsum a b = S at *
      go_enter Try.func4, Try.ntmps4
      go_wp2_with (first | (go_at_call 5; (first | with_reducible refine (f1 _).mono ?_ | with_reducible refine (f2 _).mono ?_); rintro e wq ⟨rfl, hq⟩; subst wq) | (go_at_call 7; (first | with_reducible refine (r1 _).mono ?_ | with_reducible refine (r2 _).mono ?_); rintro e wq ⟨rfl, hq⟩; subst wq) | (go_at_call 13; (first | with_reducible refine (s1 _).mono ?_ | with_reducible refine (s2 _).mono ?_); rintro e wq ⟨rfl, m, hq⟩; subst wq) | (go_at_call 14; (first | with_reducible refine (g1 _).mono ?_ | with_reducible refine (g2 _).mono ?_); rintro e wq ⟨rfl, hq⟩; subst wq) | (go_at_call 6; (first | with_reducible refine (z1 _).mono ?_); rintro e wq ⟨rfl, m, hq⟩; subst wq))
      go_ret
      exact ⟨rfl, _, rfl⟩
    by_cases hneg : A + B < 0
    · obtain ⟨x, hx⟩ : ∃ x : Nat, A + B = -(x : Int) := ⟨(A + B).natAbs, by omega⟩
      have hx0 : 0 < x := by omega
      have hxl : x < 4611686018427387904 := by omega
      obtain ⟨u1, u2, u3⟩ := t2 x hx0 true (by rw [hx]; rfl)
      have g4 : ((-(x : Int)) == 0) = false := by simp; omega
      have g5 : decide (-(x : Int) < 0) = true := decide_eq_true (by omega)
      rw [u1] at hsn
      have gr1 := gr x hxl
      clear t1 t2 gr u1 hz hneg
      by_cases hge : 33554431 * 2 ^ 252 ≤ x * 2 ^ Q
      · rw [decide_eq_true hge] at gr1
        rw [u2 hge] at hand hsn
        have hsn2 : (((fsum a b : Nat) : Int) != 2139095040) = true := hsn
        clear hsn
        clear u2 u3 hge
        generalize fsum a b = S at *
        go_enter Try.func4, Try.ntmps4
        go_wp2_with (first | (go_at_call 5; (first | with_reducible refine (f1 _).mono ?_ | with_reducible refine (f2 _).mono ?_); rintro e wq ⟨rfl, hq⟩; subst wq) | (go_at_call 7; (first | with_reducible refine (r1 _).mono ?_ | with_reducible refine (r2 _).mono ?_); rintro e wq ⟨rfl, hq⟩; subst wq) | (go_at_call 13; (first | with_reducible refine (s1 _).mono ?_ | with_reducible refine (s2 _).mono ?_); rintro e wq ⟨rfl, m, hq⟩; subst wq) | (go_at_call 14; (first | with_reducible refine (g1 _).mono ?_ | with_reducible refine (g2 _).mono ?_); rintro e wq ⟨rfl, hq⟩; subst wq) | (go_at_call 15; (first | with_reducible refine (gr1 _).mono ?_); rintro e wq ⟨rfl, hq⟩; subst wq) | (go_at_call 6; (first | with_reducible refine (z1 _).mono ?_); rintro e wq ⟨rfl, m, hq⟩; subst wq))
        go_ret
        exact ⟨rfl, _, rfl⟩
      · rw [decide_eq_false hge] at gr1
        obtain ⟨k1, k2, k3⟩ := u3 hge
        obtain ⟨-, kv, k4, -⟩ := rd_val (fsum a b)
        obtain ⟨-, -, k5, k6, -⟩ := halves_val (fsum a b) k2
        have f3 := fun w => fin_any (fsum a b) w hlt
        rw [decide_eq_true k1] at f3
        have h3 := fun w => halves_any (fsum a b) w hlt k5
        have k7 : hlo (fsum a b) < 4611686018427387904 := by unfold hlo; split <;> omega
        have k8 := fun w => btw_any x (hlo (fsum a b)) (4 * rdm (fsum a b) + 2) bp (-151 + (rdk (fsum a b) : Int)) (rdm (fsum a b) % 2 == 0) w (by omega) (by omega) (by omega) (by omega) hx0 hxl k6 k7 (by omega) (by omega) k3
        have g6 : (((fsum a b % 2147483648 : Nat) : Int) == 0) = false := by simp; omega
        clear u2 u3 hge k1 k2 k3 kv k4 k5 k6 k7
        generalize (4 * rdm (fsum a b) + 2) = HI at *
        generalize hlo (fsum a b) = LO at *
        generalize (-151 + (rdk (fsum a b) : Int)) = P at *
        generalize (rdm (fsum a b) % 2 == 0) = EN at *
        generalize fsum a b % 2147483648 = SM at *
        generalize fsum a b = S at *
        go_enter Try.func4, Try.ntmps4
        go_wp2_with (first | (go_at_call 5; (first | with_reducible refine (f1 _).mono ?_ | with_reducible refine (f2 _).mono ?_ | with_reducible refine (f3 _).mono ?_); rintro e wq ⟨rfl, hq⟩; subst wq) | (go_at_call 7; (first | with_reducible refine (r1 _).mono ?_ | with_reducible refine (r2 _).mono ?_); rintro e wq ⟨rfl, hq⟩; subst wq) | (go_at_call 13; (first | with_reducible refine (s1 _).mono ?_ | with_reducible refine (s2 _).mono ?_); rintro e wq ⟨rfl, m, hq⟩; subst wq) | (go_at_call 14; (first | with_reducible refine (g1 _).mono ?_ | with_reducible refine (g2 _).mono ?_); rintro e wq ⟨rfl, hq⟩; subst wq) | (go_at_call 15; (first | with_reducible refine (gr1 _).mono ?_); rintro e wq ⟨rfl, hq⟩; subst wq) | (go_at_call 9; (first | with_reducible refine (h3 _).mono ?_); rintro e wq ⟨rfl, hq⟩; subst wq) | (go_at_call 10; (first | with_reducible refine (k8 _).mono ?_); rintro e wq ⟨rfl, hq⟩; subst wq) | (go_at_call 6; (first | with_reducible refine (z1 _).mono ?_); rintro e wq ⟨rfl, m, hq⟩; subst wq))
        go_ret
        exact ⟨rfl, _, rfl⟩
    · obtain ⟨x, hx⟩ : ∃ x : Nat, A + B = (x : Int) := ⟨(A + B).natAbs, by omega⟩
      have hx0 : 0 < x := by omega
      have hxl : x < 4611686018427387904 := by omega
      obtain ⟨u1, u2, u3⟩ := t2 x hx0 false (by rw [hx]; rfl)
      have g4 : ((x : Int) == 0) = false := by simp; omega
      have g5 : decide ((x : Int) < 0) = false := decide_eq_false (by omega)
      rw [u1] at hsn
      have gr1 := gr x hxl
      clear t1 t2 gr u1 hz hneg
      by_cases hge : 33554431 * 2 ^ 252 ≤ x * 2 ^ Q
      · rw [decide_eq_true hge] at gr1
        rw [u2 hge] at hand hsn
        clear u2 u3 hge
        generalize fsum a b = S at *
        go_enter Try.func4, Try.ntmps4
        go_wp2_with (first | (go_at_call 5; (first | with_reducible refine (f1 _).mono ?_ | with_reducible refine (f2 _).mono ?_); rintro e wq ⟨rfl, hq⟩; subst wq) | (go_at_call 7; (first | with_reducible refine (r1 _).mono ?_ | with_reducible refine (r2 _).mono ?_); rintro e wq ⟨rfl, hq⟩; subst wq) | (go_at_call 13; (first | with_reducible refine (s1 _).mono ?_ | with_reducible refine (s2 _).mono ?_); rintro e wq ⟨rfl, m, hq⟩; subst wq) | (go_at_call 14; (first | with_reducible refine (g1 _).mono ?_ | with_reducible refine (g2 _).mono ?_); rintro e wq ⟨rfl, hq⟩; subst wq) | (go_at_call 15; (first | with_reducible refine (gr1 _).mono ?_); rintro e wq ⟨rfl, hq⟩; subst wq) | (go_at_call 6; (first | with_reducible refine (z1 _).mono ?_); rintro e wq ⟨rfl, m, hq⟩; subst wq))
        go_ret
        exact ⟨rfl, _, rfl⟩
      · rw [decide_eq_false hge] at gr1
        obtain ⟨k1, k2, k3⟩ := u3 hge
        obtain ⟨-, kv, k4, -⟩ := rd_val (fsum a b)
        obtain ⟨-, -, k5, k6, -⟩ := halves_val (fsum a b) k2
        have f3 := fun w => fin_any (fsum a b) w hlt
        rw [decide_eq_true k1] at f3
        have h3 := fun w => halves_any (fsum a b) w hlt k5
        have k7 : hlo (fsum a b) < 4611686018427387904 := by unfold hlo; split <;> omega
        have k8 := fun w => btw_any x (hlo (fsum a b)) (4 * rdm (fsum a b) + 2) bp (-151 + (rdk (fsum a b) : Int)) (rdm (fsum a b) % 2 == 0) w (by omega) (by omega) (by omega) (by omega) hx0 hxl k6 k7 (by omega) (by omega) k3
        have g6 : (((fsum a b % 2147483648 : Nat) : Int) == 0) = false := by simp; omega
        clear u2 u3 hge k1 k2 k3 kv k4 k5 k6 k7
        generalize (4 * rdm (fsum a b) + 2) = HI at *
        generalize hlo (fsum a b) = LO at *
        generalize (-151 + (rdk (fsum a b) : Int)) = P at *
        generalize (rdm (fsum a b) % 2 == 0) = EN at *
        generalize fsum a b % 2147483648 = SM at *
        generalize fsum a b = S at *
        go_enter Try.func4, Try.ntmps4
        go_wp2_with (first | (go_at_call 5; (first | with_reducible refine (f1 _).mono ?_ | with_reducible refine (f2 _).mono ?_ | with_reducible refine (f3 _).mono ?_); rintro e wq ⟨rfl, hq⟩; subst wq) | (go_at_call 7; (first | with_reducible refine (r1 _).mono ?_ | with_reducible refine (r2 _).mono ?_); rintro e wq ⟨rfl, hq⟩; subst wq) | (go_at_call 13; (first | with_reducible refine (s1 _).mono ?_ | with_reducible refine (s2 _).mono ?_); rintro e wq ⟨rfl, m, hq⟩; subst wq) | (go_at_call 14; (first | with_reducible refine (g1 _).mono ?_ | with_reducible refine (g2 _).mono ?_); rintro e wq ⟨rfl, hq⟩; subst wq) | (go_at_call 15; (first | with_reducible refine (gr1 _).mono ?_); rintro e wq ⟨rfl, hq⟩; subst wq) | (go_at_call 9; (first | with_reducible refine (h3 _).mono ?_); rintro e wq ⟨rfl, hq⟩; subst wq) | (go_at_call 10; (first | with_reducible refine (k8 _).mono ?_); rintro e wq ⟨rfl, hq⟩; subst wq) | (go_at_call 6; (first | with_reducible refine (z1 _).mono ?_); rintro e wq ⟨rfl, m, hq⟩; subst wq))
        go_ret
        exact ⟨rfl, _, rfl⟩
  · obtain ⟨n, hn⟩ : ∃ n : Nat, rdk b = n + rdk a := ⟨rdk b - rdk a, by omega⟩
    have hgn : bp - ap = (n : Int) := by omega
    have g3 : decide (bp < ap) = false := decide_eq_false hlt'
    have g1 : ∀ w, Calls Try.prog 14 #[.int .u32 a, .int .i64 0] w fun e w' => e = .returned (.int .i64 (sg a (rdm a * 2 ^ 0))) ∧ w' = w := fun w => signed_any a 0 w ha (by omega)
    have g2 := fun w => signed_any b n w hb (by omega)
    obtain ⟨t1, t2⟩ := sum_told a b fa fb (rdk a) 0 n (by omega) hn
    have hbd : (sg a (rdm a * 2 ^ 0) + sg b (rdm b * 2 ^ n)).natAbs < 4611686018427387904 := by
      have h1 : 2 ^ n ≤ 2 ^ 38 := Nat.pow_le_pow_right (by decide) (by omega)
      have h2 : rdm b * 2 ^ n ≤ 16777215 * 2 ^ 38 := Nat.mul_le_mul (by omega) h1
      unfold sg
      split <;> split <;> omega
    have gr := fun x (hx : x < 4611686018427387904) w => great_any x (rdk a) w hx hka
    rw [← hap] at gr t2
    have g0n : decide ((38 : Int) < (n : Int)) = false := decide_eq_false (by omega)
    have hb1 : -4611686018427387904 < sg a (rdm a * 2 ^ 0) + sg b (rdm b * 2 ^ n) ∧ sg a (rdm a * 2 ^ 0) + sg b (rdm b * 2 ^ n) < 4611686018427387904 := by omega
    generalize sg a (rdm a * 2 ^ 0) = A at *
    generalize sg b (rdm b * 2 ^ n) = B at *
    have q1 : -149 ≤ ap ∧ ap ≤ 104 := by omega
    generalize rdk a = Q at *
    clear hap hbp rva rma rvb rmb d1 d2 hlt' hn hka hkb
    by_cases hz : A + B = 0
    · have t1 := t1 hz
      rw [t1] at hand
      clear t2 gr hsn
      generalize fsum a b = S at *
      go_enter Try.func4, Try.ntmps4
      go_wp2_with (first | (go_at_call 5; (first | with_reducible refine (f1 _).mono ?_ | with_reducible refine (f2 _).mono ?_); rintro e wq ⟨rfl, hq⟩; subst wq) | (go_at_call 7; (first | with_reducible refine (r1 _).mono ?_ | with_reducible refine (r2 _).mono ?_); rintro e wq ⟨rfl, hq⟩; subst wq) | (go_at_call 13; (first | with_reducible refine (s1 _).mono ?_ | with_reducible refine (s2 _).mono ?_); rintro e wq ⟨rfl, m, hq⟩; subst wq) | (go_at_call 14; (first | with_reducible refine (g1 _).mono ?_ | with_reducible refine (g2 _).mono ?_); rintro e wq ⟨rfl, hq⟩; subst wq) | (go_at_call 6; (first | with_reducible refine (z1 _).mono ?_); rintro e wq ⟨rfl, m, hq⟩; subst wq))
      go_ret
      exact ⟨rfl, _, rfl⟩
    by_cases hneg : A + B < 0
    · obtain ⟨x, hx⟩ : ∃ x : Nat, A + B = -(x : Int) := ⟨(A + B).natAbs, by omega⟩
      have hx0 : 0 < x := by omega
      have hxl : x < 4611686018427387904 := by omega
      obtain ⟨u1, u2, u3⟩ := t2 x hx0 true (by rw [hx]; rfl)
      have g4 : ((-(x : Int)) == 0) = false := by simp; omega
      have g5 : decide (-(x : Int) < 0) = true := decide_eq_true (by omega)
      rw [u1] at hsn
      have gr1 := gr x hxl
      clear t1 t2 gr u1 hz hneg
      by_cases hge : 33554431 * 2 ^ 252 ≤ x * 2 ^ Q
      · rw [decide_eq_true hge] at gr1
        rw [u2 hge] at hand hsn
        have hsn2 : (((fsum a b : Nat) : Int) != 2139095040) = true := hsn
        clear hsn
        clear u2 u3 hge
        generalize fsum a b = S at *
        go_enter Try.func4, Try.ntmps4
        go_wp2_with (first | (go_at_call 5; (first | with_reducible refine (f1 _).mono ?_ | with_reducible refine (f2 _).mono ?_); rintro e wq ⟨rfl, hq⟩; subst wq) | (go_at_call 7; (first | with_reducible refine (r1 _).mono ?_ | with_reducible refine (r2 _).mono ?_); rintro e wq ⟨rfl, hq⟩; subst wq) | (go_at_call 13; (first | with_reducible refine (s1 _).mono ?_ | with_reducible refine (s2 _).mono ?_); rintro e wq ⟨rfl, m, hq⟩; subst wq) | (go_at_call 14; (first | with_reducible refine (g1 _).mono ?_ | with_reducible refine (g2 _).mono ?_); rintro e wq ⟨rfl, hq⟩; subst wq) | (go_at_call 15; (first | with_reducible refine (gr1 _).mono ?_); rintro e wq ⟨rfl, hq⟩; subst wq) | (go_at_call 6; (first | with_reducible refine (z1 _).mono ?_); rintro e wq ⟨rfl, m, hq⟩; subst wq))
        go_ret
        exact ⟨rfl, _, rfl⟩
      · rw [decide_eq_false hge] at gr1
        obtain ⟨k1, k2, k3⟩ := u3 hge
        obtain ⟨-, kv, k4, -⟩ := rd_val (fsum a b)
        obtain ⟨-, -, k5, k6, -⟩ := halves_val (fsum a b) k2
        have f3 := fun w => fin_any (fsum a b) w hlt
        rw [decide_eq_true k1] at f3
        have h3 := fun w => halves_any (fsum a b) w hlt k5
        have k7 : hlo (fsum a b) < 4611686018427387904 := by unfold hlo; split <;> omega
        have k8 := fun w => btw_any x (hlo (fsum a b)) (4 * rdm (fsum a b) + 2) ap (-151 + (rdk (fsum a b) : Int)) (rdm (fsum a b) % 2 == 0) w (by omega) (by omega) (by omega) (by omega) hx0 hxl k6 k7 (by omega) (by omega) k3
        have g6 : (((fsum a b % 2147483648 : Nat) : Int) == 0) = false := by simp; omega
        clear u2 u3 hge k1 k2 k3 kv k4 k5 k6 k7
        generalize (4 * rdm (fsum a b) + 2) = HI at *
        generalize hlo (fsum a b) = LO at *
        generalize (-151 + (rdk (fsum a b) : Int)) = P at *
        generalize (rdm (fsum a b) % 2 == 0) = EN at *
        generalize fsum a b % 2147483648 = SM at *
        generalize fsum a b = S at *
        go_enter Try.func4, Try.ntmps4
        go_wp2_with (first | (go_at_call 5; (first | with_reducible refine (f1 _).mono ?_ | with_reducible refine (f2 _).mono ?_ | with_reducible refine (f3 _).mono ?_); rintro e wq ⟨rfl, hq⟩; subst wq) | (go_at_call 7; (first | with_reducible refine (r1 _).mono ?_ | with_reducible refine (r2 _).mono ?_); rintro e wq ⟨rfl, hq⟩; subst wq) | (go_at_call 13; (first | with_reducible refine (s1 _).mono ?_ | with_reducible refine (s2 _).mono ?_); rintro e wq ⟨rfl, m, hq⟩; subst wq) | (go_at_call 14; (first | with_reducible refine (g1 _).mono ?_ | with_reducible refine (g2 _).mono ?_); rintro e wq ⟨rfl, hq⟩; subst wq) | (go_at_call 15; (first | with_reducible refine (gr1 _).mono ?_); rintro e wq ⟨rfl, hq⟩; subst wq) | (go_at_call 9; (first | with_reducible refine (h3 _).mono ?_); rintro e wq ⟨rfl, hq⟩; subst wq) | (go_at_call 10; (first | with_reducible refine (k8 _).mono ?_); rintro e wq ⟨rfl, hq⟩; subst wq) | (go_at_call 6; (first | with_reducible refine (z1 _).mono ?_); rintro e wq ⟨rfl, m, hq⟩; subst wq))
        go_ret
        exact ⟨rfl, _, rfl⟩
    · obtain ⟨x, hx⟩ : ∃ x : Nat, A + B = (x : Int) := ⟨(A + B).natAbs, by omega⟩
      have hx0 : 0 < x := by omega
      have hxl : x < 4611686018427387904 := by omega
      obtain ⟨u1, u2, u3⟩ := t2 x hx0 false (by rw [hx]; rfl)
      have g4 : ((x : Int) == 0) = false := by simp; omega
      have g5 : decide ((x : Int) < 0) = false := decide_eq_false (by omega)
      rw [u1] at hsn
      have gr1 := gr x hxl
      clear t1 t2 gr u1 hz hneg
      by_cases hge : 33554431 * 2 ^ 252 ≤ x * 2 ^ Q
      · rw [decide_eq_true hge] at gr1
        rw [u2 hge] at hand hsn
        clear u2 u3 hge
        generalize fsum a b = S at *
        go_enter Try.func4, Try.ntmps4
        go_wp2_with (first | (go_at_call 5; (first | with_reducible refine (f1 _).mono ?_ | with_reducible refine (f2 _).mono ?_); rintro e wq ⟨rfl, hq⟩; subst wq) | (go_at_call 7; (first | with_reducible refine (r1 _).mono ?_ | with_reducible refine (r2 _).mono ?_); rintro e wq ⟨rfl, hq⟩; subst wq) | (go_at_call 13; (first | with_reducible refine (s1 _).mono ?_ | with_reducible refine (s2 _).mono ?_); rintro e wq ⟨rfl, m, hq⟩; subst wq) | (go_at_call 14; (first | with_reducible refine (g1 _).mono ?_ | with_reducible refine (g2 _).mono ?_); rintro e wq ⟨rfl, hq⟩; subst wq) | (go_at_call 15; (first | with_reducible refine (gr1 _).mono ?_); rintro e wq ⟨rfl, hq⟩; subst wq) | (go_at_call 6; (first | with_reducible refine (z1 _).mono ?_); rintro e wq ⟨rfl, m, hq⟩; subst wq))
        go_ret
        exact ⟨rfl, _, rfl⟩
      · rw [decide_eq_false hge] at gr1
        obtain ⟨k1, k2, k3⟩ := u3 hge
        obtain ⟨-, kv, k4, -⟩ := rd_val (fsum a b)
        obtain ⟨-, -, k5, k6, -⟩ := halves_val (fsum a b) k2
        have f3 := fun w => fin_any (fsum a b) w hlt
        rw [decide_eq_true k1] at f3
        have h3 := fun w => halves_any (fsum a b) w hlt k5
        have k7 : hlo (fsum a b) < 4611686018427387904 := by unfold hlo; split <;> omega
        have k8 := fun w => btw_any x (hlo (fsum a b)) (4 * rdm (fsum a b) + 2) ap (-151 + (rdk (fsum a b) : Int)) (rdm (fsum a b) % 2 == 0) w (by omega) (by omega) (by omega) (by omega) hx0 hxl k6 k7 (by omega) (by omega) k3
        have g6 : (((fsum a b % 2147483648 : Nat) : Int) == 0) = false := by simp; omega
        clear u2 u3 hge k1 k2 k3 kv k4 k5 k6 k7
        generalize (4 * rdm (fsum a b) + 2) = HI at *
        generalize hlo (fsum a b) = LO at *
        generalize (-151 + (rdk (fsum a b) : Int)) = P at *
        generalize (rdm (fsum a b) % 2 == 0) = EN at *
        generalize fsum a b % 2147483648 = SM at *
        generalize fsum a b = S at *
        go_enter Try.func4, Try.ntmps4
        go_wp2_with (first | (go_at_call 5; (first | with_reducible refine (f1 _).mono ?_ | with_reducible refine (f2 _).mono ?_ | with_reducible refine (f3 _).mono ?_); rintro e wq ⟨rfl, hq⟩; subst wq) | (go_at_call 7; (first | with_reducible refine (r1 _).mono ?_ | with_reducible refine (r2 _).mono ?_); rintro e wq ⟨rfl, hq⟩; subst wq) | (go_at_call 13; (first | with_reducible refine (s1 _).mono ?_ | with_reducible refine (s2 _).mono ?_); rintro e wq ⟨rfl, m, hq⟩; subst wq) | (go_at_call 14; (first | with_reducible refine (g1 _).mono ?_ | with_reducible refine (g2 _).mono ?_); rintro e wq ⟨rfl, hq⟩; subst wq) | (go_at_call 15; (first | with_reducible refine (gr1 _).mono ?_); rintro e wq ⟨rfl, hq⟩; subst wq) | (go_at_call 9; (first | with_reducible refine (h3 _).mono ?_); rintro e wq ⟨rfl, hq⟩; subst wq) | (go_at_call 10; (first | with_reducible refine (k8 _).mono ?_); rintro e wq ⟨rfl, hq⟩; subst wq) | (go_at_call 6; (first | with_reducible refine (z1 _).mono ?_); rintro e wq ⟨rfl, m, hq⟩; subst wq))
        go_ret
        exact ⟨rfl, _, rfl⟩
end Go.Proofs.Ytkkflgiepfenpaa
