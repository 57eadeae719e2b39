import Derived.Test.YtjggbdlmghembaaGreatCSRmE
namespace Go.Proofs.YtjggbdlmghembaaGreat
open Go.RowKit
set_option maxRecDepth 100000

set_option maxRecDepth 100000 in
set_option maxHeartbeats 4000000 in
theorem rt_ff (ma mb mm : Bool) (hmm : (!(ma == mb)) = mm) (na nb V q r : Nat) (mo : Bool) (pa pb p : Int) (w : World) (hna : na < 16777216) (hnb : nb < 16777216) (g : ((nb : Int) == 0) = false) (h1 : -149 ≤ pa) (h2 : pa ≤ 104) (h3 : -149 ≤ pb) (h4 : pb ≤ 104) (hp : pa - pb - 128 = p) (hV : na * 2 ^ 128 = V) (hq : V / nb = q) (hmo : decide (0 < V % nb) = mo) (hr : rg Ieee.single (2 * q + mo.toNat) (p - 1) = r) :
    Calls Tryz.prog 96 #[.agg #[.int .i64 24, .int .i64 (-149), .int .i64 104], .agg #[.int .u8 3, .bool ma, .int .u64 na, .int .i64 pa], .agg #[.int .u8 3, .bool mb, .int .u64 nb, .int .i64 pb]] w fun e w' => (∃ n q, e = .returned (hdV mm n q) ∧ Fits n q r) ∧ Below w.heap.size w w' := by
  have HU : ∀ v w, NatV w v na → Calls Tryz.prog 85 #[v, .int .i64 128] w fun e w' => (∃ v', e = .returned v' ∧ NatV w' v' V) ∧ Below w.heap.size w w' := fun v w h => by
    have := up_nv v na 128 w h (by omega) (by decide)
    rw [hV] at this
    exact this
  have HOV := fun v u w (h : NatV w v V) (h' : NatV w u nb) => over_q v u na nb V q mo w h h' hna hV hnb (by have := beq_eq_false_iff_ne.1 g; omega) hq hmo
  have hql : q < 2 ^ (32 * 6) := by rw [← hq]; exact Nat.lt_of_le_of_lt (Nat.div_le_self _ _) (by rw [← hV]; exact q_lt na hna)
  have HRD := fun v w (h : NatV w v q) => rnd_q mm v q p mo r w h hql (by omega) (by omega) hr
  have HP1 : Hid (IntKind.i64.wrap (pa - pb) = pa - pb) := by rw [Hid, IntKind.wrap_i64]; omega
  have HPw : Hid (IntKind.i64.wrap (pa - pb - 128) = p) := by rw [Hid, IntKind.wrap_i64]; omega
  have HPw2 : Hid (IntKind.i64.wrap p = p) := by rw [Hid, IntKind.wrap_i64]; omega
  clear hV hq hmo hr hql
  have HB : Below ((((w.alloc ob).alloc (oV 3 ma na pa)).alloc (oV 3 mb nb pb)).alloc oz).heap.size ((((w.alloc ob).alloc (oV 3 ma na pa)).alloc (oV 3 mb nb pb)).alloc oz) ((((w.alloc ob).alloc (oV 3 ma na pa)).alloc (oV 3 mb nb pb)).alloc oz) := Below.refl _ _
  go_enter Tryz.func96, Tryz.ntmps96
  go_wp2_with (go_at_call 77; with_reducible refine (isn3 mb nb pb _ g).mono ?_; rintro e w1 ⟨rfl, hb1⟩; replace HB := bt2 hb1 (show Below ((((w.alloc ob).alloc (oV 3 ma na pa)).alloc (oV 3 mb nb pb)).alloc oz).heap.size ((((w.alloc ob).alloc (oV 3 ma na pa)).alloc (oV 3 mb nb pb)).alloc oz) _ from by (repeat (first | exact HB | exact Below.refl _ _ | with_reducible refine bel ?_ | with_reducible refine Below.drew ?_ | with_reducible refine bt3 ?_))); obtain ⟨x0, x1, x2, x3, x4, x5, x6, x7, x8, x9, x10⟩ := jF HB; obtain ⟨r0, r1, r2, r3, q0, q1, q2, q3⟩ := jA HB)
  have HA := nv_nil w1
  have HQ := nv_nil w1
  clear x0 x1 x2 x3 x4 x5 x6 x7 x8 x9 x10 r0 r1 r2 r3 q0 q1 q2 q3
  go_region_held3 (fun w' => w'.cell? ⟨w.heap.size, 0, none⟩ = some (.int .i64 24) ∧ w'.cell? ⟨w.heap.size, 1, none⟩ = some (.int .i64 (-149)) ∧ w'.cell? ⟨w.heap.size, 2, none⟩ = some (.int .i64 104) ∧ w'.cell? ⟨w.heap.size + 1, 0, none⟩ = some (.int .u8 3) ∧ w'.cell? ⟨w.heap.size + 1, 1, none⟩ = some (.bool ma) ∧ w'.cell? ⟨w.heap.size + 1, 2, none⟩ = some (.int .u64 (na : Nat)) ∧ w'.cell? ⟨w.heap.size + 1, 3, none⟩ = some (.int .i64 pa) ∧ w'.cell? ⟨w.heap.size + 1 + 1, 0, none⟩ = some (.int .u8 3) ∧ w'.cell? ⟨w.heap.size + 1 + 1, 1, none⟩ = some (.bool mb) ∧ w'.cell? ⟨w.heap.size + 1 + 1, 2, none⟩ = some (.int .u64 (nb : Nat)) ∧ w'.cell? ⟨w.heap.size + 1 + 1, 3, none⟩ = some (.int .i64 pb)) ((first | ((try dsimp only); with_reducible refine jS ?_; (repeat (first | exact HB | exact Below.refl _ _ | with_reducible refine bel ?_ | with_reducible refine Below.drew ?_ | with_reducible refine bt3 ?_)); done) | (refine jF ?_; (repeat (first | exact HB | exact Below.refl _ _ | with_reducible refine bel ?_ | with_reducible refine Below.drew ?_ | with_reducible refine bt3 ?_)); done))) (first
    | (go_at_call 70; with_reducible refine (nat_any na _ (by omega)).mono ?_; rintro e w1 ⟨⟨v1, rfl, hv1⟩, hb1⟩; replace HB : Below ((((w.alloc ob).alloc (oV 3 ma na pa)).alloc (oV 3 mb nb pb)).alloc oz).heap.size ((((w.alloc ob).alloc (oV 3 ma na pa)).alloc (oV 3 mb nb pb)).alloc oz) w1 := bt2 hb1 (by (repeat (first | exact HB | exact Below.refl _ _ | with_reducible refine bel ?_ | with_reducible refine Below.drew ?_ | with_reducible refine bt3 ?_))); replace HQ := HQ.step (by (repeat (first | exact Below.refl _ _ | with_reducible refine bel ?_ | with_reducible refine Below.drew ?_ | with_reducible refine bt3 ?_))) hb1; replace HA := hv1; clear hb1 hv1)
    | (go_at_call 70; with_reducible refine (nat_any nb _ (by omega)).mono ?_; rintro e w3 ⟨⟨v3, rfl, hv3⟩, hb3⟩; replace HB : Below ((((w.alloc ob).alloc (oV 3 ma na pa)).alloc (oV 3 mb nb pb)).alloc oz).heap.size ((((w.alloc ob).alloc (oV 3 ma na pa)).alloc (oV 3 mb nb pb)).alloc oz) w3 := bt2 hb3 (by (repeat (first | exact HB | exact Below.refl _ _ | with_reducible refine bel ?_ | with_reducible refine Below.drew ?_ | with_reducible refine bt3 ?_))); replace HA := HA.step (by (repeat (first | exact Below.refl _ _ | with_reducible refine bel ?_ | with_reducible refine Below.drew ?_ | with_reducible refine bt3 ?_))) hb3; replace HQ := hv3; clear hb3 hv3)
    | (go_at_call 85; with_reducible refine (HU v1 _ (HA.on (by (repeat (first | exact Below.refl _ _ | with_reducible refine bel ?_ | with_reducible refine Below.drew ?_ | with_reducible refine bt3 ?_))))).mono ?_; rintro e w4 ⟨⟨v4, rfl, hv4⟩, hb4⟩; replace HB : Below ((((w.alloc ob).alloc (oV 3 ma na pa)).alloc (oV 3 mb nb pb)).alloc oz).heap.size ((((w.alloc ob).alloc (oV 3 ma na pa)).alloc (oV 3 mb nb pb)).alloc oz) w4 := bt2 hb4 (by (repeat (first | exact HB | exact Below.refl _ _ | with_reducible refine bel ?_ | with_reducible refine Below.drew ?_ | with_reducible refine bt3 ?_))); replace HQ := HQ.step (by (repeat (first | exact Below.refl _ _ | with_reducible refine bel ?_ | with_reducible refine Below.drew ?_ | with_reducible refine bt3 ?_))) hb4; replace HA := hv4; clear hb4 hv4)
    | (go_at_call 104; with_reducible refine (HOV v4 v3 _ (HA.on (by (repeat (first | exact Below.refl _ _ | with_reducible refine bel ?_ | with_reducible refine Below.drew ?_ | with_reducible refine bt3 ?_)))) (HQ.on (by (repeat (first | exact Below.refl _ _ | with_reducible refine bel ?_ | with_reducible refine Below.drew ?_ | with_reducible refine bt3 ?_))))).mono ?_; rintro e w5 ⟨⟨v5, rfl, hv5⟩, hb5⟩; replace HB : Below ((((w.alloc ob).alloc (oV 3 ma na pa)).alloc (oV 3 mb nb pb)).alloc oz).heap.size ((((w.alloc ob).alloc (oV 3 ma na pa)).alloc (oV 3 mb nb pb)).alloc oz) w5 := bt2 hb5 (by (repeat (first | exact HB | exact Below.refl _ _ | with_reducible refine bel ?_ | with_reducible refine Below.drew ?_ | with_reducible refine bt3 ?_))); replace HQ := HQ.step (by (repeat (first | exact Below.refl _ _ | with_reducible refine bel ?_ | with_reducible refine Below.drew ?_ | with_reducible refine bt3 ?_))) hb5; replace HA := hv5; clear hb5 hv5))
  clear HQ
  obtain ⟨x0, x1, x2, x3, x4, x5, x6, x7, x8, x9, x10⟩ := jF HB; obtain ⟨r0, r1, r2, r3, q0, q1, q2, q3⟩ := jA HB
  go_wp2_with (first
    | (go_at_call 68; (first | rw [HPw.out] | rw [HPw2.out] | skip); with_reducible refine (HRD v5 _ (HA.on (by (repeat (first | exact Below.refl _ _ | with_reducible refine bel ?_ | with_reducible refine Below.drew ?_ | with_reducible refine bt3 ?_))))).mono ?_; rintro e w9 ⟨⟨n9, p9, rfl, hf9⟩, hb9⟩; rw [hdV_agg]; replace HB : Below ((((w.alloc ob).alloc (oV 3 ma na pa)).alloc (oV 3 mb nb pb)).alloc oz).heap.size ((((w.alloc ob).alloc (oV 3 ma na pa)).alloc (oV 3 mb nb pb)).alloc oz) w9 := bt2 hb9 (by (repeat (first | exact HB | exact Below.refl _ _ | with_reducible refine bel ?_ | with_reducible refine Below.drew ?_ | with_reducible refine bt3 ?_))); clear x0 x1 x2 x3 x4 x5 x6 x7 x8 x9 x10 r0 r1 r2 r3 q0 q1 q2 q3; obtain ⟨r0, r1, r2, r3, q0, q1, q2, q3⟩ := jA HB))
  all_goals refine bodyPost_ret (v := .agg #[.int .u8 (vS p9), .bool mm, .int .u64 (vM n9 p9), .int .i64 (vP p9)]) (by simp [results, Tryz.f96, go_sem, r0, r1, r2, r3]) rfl ?_
  all_goals exact ⟨⟨n9, p9, by rw [hdV_agg], hf9⟩, jB HB⟩
end Go.Proofs.YtjggbdlmghembaaGreat
namespace Go.Proofs.YtjggbdlmghembaaGreat
open Go.RowKit
set_option maxRecDepth 100000

theorem xor_neR (m n : Bool) : (m ^^ n) = !(m == n) := by cases m <;> cases n <;> rfl
theorem div0 (a b : Nat) : Ieee.single.div a b = ((Ieee.single.read a).quotient 25 (Ieee.single.read b)).map Ieee.single.write := rfl
theorem fdiv_rd (a b : Nat) (fa : a % 2147483648 < 2139095040) (fb : b % 2147483648 < 2139095040) (hb : rdm b ≠ 0) :
    fdiv a b = Ieee.single.word (sn a ^^ sn b) (min (rg Ieee.single (2 * (rdm a * 2 ^ 128 / rdm b) + (rdm a * 2 ^ 128 % rdm b != 0).toNat) (-149 + (rdk a : Int) - (-149 + (rdk b : Int)) - 128 - 1)) 2139095040) := by
  obtain ⟨ka, na⟩ := rd_k fa
  obtain ⟨kb, nb⟩ := rd_k fb
  have h0 := div0 a b
  rw [read_rd a fa, read_rd b fb] at h0
  simp only [Ieee.Datum.quotient, if_neg hb, Option.map_some] at h0
  generalize hm : 25 + (rdm b).log2 - (rdm a).log2 = more at h0
  rw [Nat.shiftLeft_eq] at h0
  have hf : fdiv a b = Ieee.single.word (sn a ^^ sn b) (min (rg Ieee.single (2 * (rdm a * 2 ^ more / rdm b) + (rdm a * 2 ^ more % rdm b != 0).toNat) (-149 + (rdk a : Int) - (-149 + (rdk b : Int)) - more - 1)) 2139095040) := by
    unfold fdiv; rw [h0]; exact nearest_word _ _ _
  rw [hf]
  congr 2
  by_cases hz : rdm a = 0
  · rw [hz]
    simp only [Nat.zero_mul, Nat.zero_div, Nat.zero_mod]
    unfold rg
    rw [if_pos (by decide), if_pos (by decide)]
  have hbp : 0 < rdm b := by omega
  have hlb := log_lt (n := rdm b) (k := 24) (by decide) (show rdm b < 2 ^ 24 by omega)
  have hla := log_lt (n := rdm a) (k := 24) (by decide) (show rdm a < 2 ^ 24 by omega)
  have hlt : rdm b < 2 ^ ((rdm b).log2 + 1) := Nat.lt_log2_self
  have hge : 2 ^ (rdm a).log2 ≤ rdm a := Nat.log2_self_le hz
  have hD : 16777216 ≤ rdm a * 2 ^ more / rdm b := by
    rw [Nat.le_div_iff_mul_le hbp]
    have h3 : 2 ^ ((rdm a).log2 + more) ≤ rdm a * 2 ^ more := by rw [Nat.pow_add]; exact Nat.mul_le_mul_right _ hge
    have h4 : 2 ^ (24 + ((rdm b).log2 + 1)) ≤ 2 ^ ((rdm a).log2 + more) := Nat.pow_le_pow_right (by decide) (by omega)
    have h5 : 16777216 * rdm b ≤ 16777216 * 2 ^ ((rdm b).log2 + 1) := Nat.mul_le_mul_left _ (Nat.le_of_lt hlt)
    rw [Nat.pow_add 2 24] at h4
    omega
  obtain ⟨d, hd⟩ : ∃ d, more + d = 128 := ⟨128 - more, by omega⟩
  have := rg_quot (rdm a) (rdm b) more d (-149 + (rdk a : Int) - (-149 + (rdk b : Int)) - 128 - 1) hbp hD
  rw [hd] at this
  rw [← this]
  congr 1
  omega
theorem fdiv_ii {a b : Nat} (hi : a % 2147483648 = 2139095040) (hj : b % 2147483648 = 2139095040) : fdiv a b = 2143289344 := by
  have h0 := div0 a b
  rw [inf_read hi, inf_read hj] at h0
  unfold fdiv
  rw [h0]
  rfl
theorem fdiv_if {a b : Nat} (hi : a % 2147483648 = 2139095040) (hf : b % 2147483648 < 2139095040) : fdiv a b = Ieee.single.word (sn a ^^ sn b) 2139095040 := by
  have h0 := div0 a b
  rw [inf_read hi, read_rd b hf] at h0
  unfold fdiv
  rw [h0]
  rfl
theorem fdiv_fi {a b : Nat} (hi : b % 2147483648 = 2139095040) (hf : a % 2147483648 < 2139095040) : fdiv a b = Ieee.single.word (sn a ^^ sn b) 0 := by
  have h0 := div0 a b
  rw [inf_read hi, read_rd a hf] at h0
  unfold fdiv
  rw [h0]
  rfl
theorem fdiv_fz {a b : Nat} (fa : a % 2147483648 < 2139095040) (fb : b % 2147483648 < 2139095040) (hb : rdm b = 0) : fdiv a b = if rdm a = 0 then 2143289344 else Ieee.single.word (sn a ^^ sn b) 2139095040 := by
  have h0 := div0 a b
  rw [read_rd a fa, read_rd b fb] at h0
  unfold fdiv
  rw [h0]
  simp only [Ieee.Datum.quotient, if_pos hb]
  split <;> rfl
theorem layV_endR (m : Bool) (x : Nat) (h : x = wrd m 2139095040) : LayV (vE m) x := fun w => by
  have := lay_endless m w
  rw [h]; exact this
theorem dec_ne (n : Nat) : (decide (0 < n)).toNat = (n != 0).toNat := by
  by_cases h : n = 0
  · subst h; rfl
  · rw [decide_eq_true (by omega), show (n != 0) = true by simp [h]]
theorem ratiov_any (a b : Nat) (w : World) (ha : a < 4294967296) (hb : b < 4294967296) :
    Calls Tryz.prog 96 #[.agg #[.int .i64 24, .int .i64 (-149), .int .i64 104], tv a, tv b] w fun e w' => (∃ v, e = .returned v ∧ LayV v (fdiv a b)) ∧ Below w.heap.size w w' := by
  have hx : (sn a ^^ sn b) = !(sg a == sg b) := by rw [xor_neR, sg_sn a ha, sg_sn b hb]
  rcases ok_cases a with ca | ca | ca
  · rw [tv_none ca, fdiv_nan (Or.inl ca)]
    rcases ok_cases b with cb | cb | cb
    · rw [tv_none cb]; exact (rt_n1 _ _ _ _ w).mono fun e w' ⟨he, h⟩ => ⟨⟨_, he, layV_none⟩, h⟩
    · rw [tv_inf cb]; exact (rt_n1 _ _ _ _ w).mono fun e w' ⟨he, h⟩ => ⟨⟨_, he, layV_none⟩, h⟩
    · rw [tv_fin cb]; exact (rt_n1 _ _ _ _ w).mono fun e w' ⟨he, h⟩ => ⟨⟨_, he, layV_none⟩, h⟩
  · rw [tv_inf ca]
    rcases ok_cases b with cb | cb | cb
    · rw [tv_none cb, fdiv_nan (Or.inr cb)]; exact (rt_n2 2 _ _ _ rfl w).mono fun e w' ⟨he, h⟩ => ⟨⟨_, he, layV_none⟩, h⟩
    · rw [tv_inf cb, fdiv_ii ca cb]
      exact (rt_ee _ _ w).mono fun e w' ⟨he, h⟩ => ⟨⟨_, he, layV_none⟩, h⟩
    · rw [tv_fin cb]
      have hf := fdiv_if ca cb
      rw [hx, word_wrd _ _ (by decide)] at hf
      exact (rt_ef _ _ _ rfl _ _ w).mono fun e w' ⟨he, h⟩ => ⟨⟨_, he, layV_endR _ _ hf⟩, h⟩
  · rcases ok_cases b with cb | cb | cb
    · rw [tv_fin ca, tv_none cb, fdiv_nan (Or.inr cb)]; exact (rt_n2 3 _ _ _ rfl w).mono fun e w' ⟨he, h⟩ => ⟨⟨_, he, layV_none⟩, h⟩
    · rw [tv_fin ca, tv_inf cb]
      have hf := fdiv_fi cb ca
      rw [hx, word_wrd _ _ (by decide)] at hf
      refine (rt_fe _ _ _ rfl _ _ w).mono fun e w' ⟨he, h⟩ => ⟨⟨_, he, ?_⟩, h⟩
      have hfit : Fits 0 (-149) 0 := ⟨0, by omega, by omega, Or.inl rfl, rfl⟩
      have h9 := layV_fit (m := !(sg a == sg b)) (x := fdiv a b) hfit (by rw [hf, Nat.zero_min])
      rw [show hdV (!(sg a == sg b)) 0 (-149) = .agg #[.int .u8 3, .bool (!(sg a == sg b)), .int .u64 ((0 : Nat) : Int), .int .i64 (-149)] from if_neg (by decide)] at h9
      exact h9
    · rw [tv_fin ca, tv_fin cb]
      obtain ⟨ka, na⟩ := rd_k ca
      obtain ⟨kb, nb⟩ := rd_k cb
      by_cases hz : rdm b = 0
      · have hf := fdiv_fz ca cb hz
        rw [hz]
        by_cases hy : rdm a = 0
        · rw [if_pos hy] at hf
          rw [hf, hy]
          exact (rt_zz _ _ _ _ w).mono fun e w' ⟨he, h⟩ => ⟨⟨_, he, layV_none⟩, h⟩
        · rw [if_neg hy, hx, word_wrd _ _ (by decide)] at hf
          exact (rt_fz _ _ _ rfl _ _ _ (by rw [beq_eq_false_iff_ne]; omega) w).mono fun e w' ⟨he, h⟩ => ⟨⟨_, he, layV_endR _ _ hf⟩, h⟩
      · have hf := fdiv_rd a b ca cb hz
        rw [hx, word_wrd _ _ (Nat.lt_of_le_of_lt (Nat.min_le_right _ _) (by decide)), ← dec_ne] at hf
        exact (rt_ff _ _ _ rfl _ _ _ _ _ _ _ _ _ w na nb (by rw [beq_eq_false_iff_ne]; omega) (by omega) (by omega) (by omega) (by omega) rfl rfl rfl rfl rfl).mono fun e w' ⟨⟨n, q, he, hq⟩, hbl⟩ => ⟨⟨_, he, layV_fit hq hf⟩, hbl⟩
set_option maxRecDepth 100000 in
set_option maxHeartbeats 1000000 in
theorem ratios_any (a b : Nat) (w : World) (ha : a < 4294967296) (hb : b < 4294967296) :
    Calls Tryz.prog 76 #[.int .u32 a, .int .u32 b] w fun e w' => e = .returned (.int .u32 (fdiv a b)) ∧ Below w.heap.size w w' := by
  have HB : Below w.heap.size w w := Below.refl _ _
  go_enter Tryz.func76, Tryz.ntmps76
  go_wp2_with (first
    | (go_at_call 69; refine (form_any _).mono ?_; rintro e wq ⟨rfl, hq⟩; subst wq)
    | (go_at_call 56; with_reducible refine (take_any a _ ha).mono ?_; rintro e w1 ⟨rfl, h1⟩; replace HB : Below w.heap.size w w1 := bt2 h1 (by (repeat (first | exact HB | exact Below.refl _ _ | with_reducible refine bel ?_ | with_reducible refine Below.drew ?_ | with_reducible refine bt3 ?_))))
    | (go_at_call 56; with_reducible refine (take_any b _ hb).mono ?_; rintro e w1 ⟨rfl, h1⟩; replace HB : Below w.heap.size w w1 := bt2 h1 (by (repeat (first | exact HB | exact Below.refl _ _ | with_reducible refine bel ?_ | with_reducible refine Below.drew ?_ | with_reducible refine bt3 ?_))))
    | (go_at_call 96; with_reducible refine (ratiov_any a b _ ha hb).mono ?_; rintro e w2 ⟨⟨v, rfl, hv⟩, h2⟩; replace HB : Below w.heap.size w w2 := bt2 h2 (by (repeat (first | exact HB | exact Below.refl _ _ | with_reducible refine bel ?_ | with_reducible refine Below.drew ?_ | with_reducible refine bt3 ?_))))
    | (go_at_call 67; with_reducible refine (layAt hv _).mono ?_; rintro e w3 ⟨rfl, h3⟩; replace HB : Below w.heap.size w w3 := bt2 h3 (by (repeat (first | exact HB | exact Below.refl _ _ | with_reducible refine bel ?_ | with_reducible refine Below.drew ?_ | with_reducible refine bt3 ?_)))))
  go_ret
  exact ⟨rfl, HB⟩
end Go.Proofs.YtjggbdlmghembaaGreat
