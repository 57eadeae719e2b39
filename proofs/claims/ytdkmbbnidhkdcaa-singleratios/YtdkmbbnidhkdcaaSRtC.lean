import Derived.Test.YtdkmbbnidhkdcaaSRtB
namespace Go.Proofs.Ytdkmbbnidhkdcaa
open Go.RowKit

theorem xor_ne (m n : Bool) : (m ^^ n) = !(m == n) := by cases m <;> cases n <;> rfl
theorem div0 (a b : Nat) : Ieee.single.div a b = ((Ieee.single.read a).quotient 25 (Ieee.single.read b)).map Ieee.single.write := rfl
theorem fdiv_rd (a b : Nat) (fa : a % 2147483648 < 2139095040) (fb : b % 2147483648 < 2139095040) (hb : rdm b ≠ 0) :
    fdiv a b = Ieee.single.word (sn a ^^ sn b) (min (rg Ieee.single (2 * (rdm a * 2 ^ 128 / rdm b) + (rdm a * 2 ^ 128 % rdm b != 0).toNat) (-149 + (rdk a : Int) - (-149 + (rdk b : Int)) - 128 - 1)) 2139095040) := by
  obtain ⟨ka, na⟩ := rd_k fa
  obtain ⟨kb, nb⟩ := rd_k fb
  have h0 := div0 a b
  rw [read_rd a fa, read_rd b fb] at h0
  simp only [Ieee.Datum.quotient, if_neg hb, Option.map_some] at h0
  generalize hm : 25 + (rdm b).log2 - (rdm a).log2 = more at h0
  rw [Nat.shiftLeft_eq] at h0
  have hf : fdiv a b = Ieee.single.word (sn a ^^ sn b) (min (rg Ieee.single (2 * (rdm a * 2 ^ more / rdm b) + (rdm a * 2 ^ more % rdm b != 0).toNat) (-149 + (rdk a : Int) - (-149 + (rdk b : Int)) - more - 1)) 2139095040) := by
    unfold fdiv; rw [h0]; exact nearest_word _ _ _
  rw [hf]
  congr 2
  by_cases hz : rdm a = 0
  · rw [hz]
    simp only [Nat.zero_mul, Nat.zero_div, Nat.zero_mod]
    unfold rg
    rw [if_pos (by decide), if_pos (by decide)]
  have hbp : 0 < rdm b := by omega
  have hlb := log_lt (n := rdm b) (k := 24) (by decide) (show rdm b < 2 ^ 24 by omega)
  have hla := log_lt (n := rdm a) (k := 24) (by decide) (show rdm a < 2 ^ 24 by omega)
  have hlt : rdm b < 2 ^ ((rdm b).log2 + 1) := Nat.lt_log2_self
  have hge : 2 ^ (rdm a).log2 ≤ rdm a := Nat.log2_self_le hz
  have hD : 16777216 ≤ rdm a * 2 ^ more / rdm b := by
    rw [Nat.le_div_iff_mul_le hbp]
    have h3 : 2 ^ ((rdm a).log2 + more) ≤ rdm a * 2 ^ more := by rw [Nat.pow_add]; exact Nat.mul_le_mul_right _ hge
    have h4 : 2 ^ (24 + ((rdm b).log2 + 1)) ≤ 2 ^ ((rdm a).log2 + more) := Nat.pow_le_pow_right (by decide) (by omega)
    have h5 : 16777216 * rdm b ≤ 16777216 * 2 ^ ((rdm b).log2 + 1) := Nat.mul_le_mul_left _ (Nat.le_of_lt hlt)
    rw [Nat.pow_add 2 24] at h4
    omega
  obtain ⟨d, hd⟩ : ∃ d, more + d = 128 := ⟨128 - more, by omega⟩
  have := rg_quot (rdm a) (rdm b) more d (-149 + (rdk a : Int) - (-149 + (rdk b : Int)) - 128 - 1) hbp hD
  rw [hd] at this
  rw [← this]
  congr 1
  omega
theorem fdiv_ii {a b : Nat} (hi : a % 2147483648 = 2139095040) (hj : b % 2147483648 = 2139095040) : fdiv a b = 2143289344 := by
  have h0 := div0 a b
  rw [inf_read hi, inf_read hj] at h0
  unfold fdiv
  rw [h0]
  rfl
theorem fdiv_if {a b : Nat} (hi : a % 2147483648 = 2139095040) (hf : b % 2147483648 < 2139095040) : fdiv a b = Ieee.single.word (sn a ^^ sn b) 2139095040 := by
  have h0 := div0 a b
  rw [inf_read hi, read_rd b hf] at h0
  unfold fdiv
  rw [h0]
  rfl
theorem fdiv_fi {a b : Nat} (hi : b % 2147483648 = 2139095040) (hf : a % 2147483648 < 2139095040) : fdiv a b = Ieee.single.word (sn a ^^ sn b) 0 := by
  have h0 := div0 a b
  rw [inf_read hi, read_rd a hf] at h0
  unfold fdiv
  rw [h0]
  rfl
theorem fdiv_fz {a b : Nat} (fa : a % 2147483648 < 2139095040) (fb : b % 2147483648 < 2139095040) (hb : rdm b = 0) : fdiv a b = if rdm a = 0 then 2143289344 else Ieee.single.word (sn a ^^ sn b) 2139095040 := by
  have h0 := div0 a b
  rw [read_rd a fa, read_rd b fb] at h0
  unfold fdiv
  rw [h0]
  simp only [Ieee.Datum.quotient, if_pos hb]
  split <;> rfl
theorem layV_end (m : Bool) (x : Nat) (h : x = wrd m 2139095040) : LayV (vE m) x := fun w => by
  have := lay_endless m w
  rw [h]; exact this
theorem dec_ne (n : Nat) : (decide (0 < n)).toNat = (n != 0).toNat := by
  by_cases h : n = 0
  · subst h; rfl
  · rw [decide_eq_true (by omega), show (n != 0) = true by simp [h]]
theorem ratiov_any (a b : Nat) (w : World) (ha : a < 4294967296) (hb : b < 4294967296) :
    Calls Try.prog 26 #[.agg #[.int .i64 24, .int .i64 (-149), .int .i64 104], tv a, tv b] w fun e w' => (∃ v, e = .returned v ∧ LayV v (fdiv a b)) ∧ Below w.heap.size w w' := by
  have hx : (sn a ^^ sn b) = !(sg a == sg b) := by rw [xor_ne, sg_sn a ha, sg_sn b hb]
  rcases ok_cases a with ca | ca | ca
  · rw [tv_none ca, fdiv_nan (Or.inl ca)]
    rcases ok_cases b with cb | cb | cb
    · rw [tv_none cb]; exact (rt_n1 _ _ _ _ w).mono fun e w' ⟨he, h⟩ => ⟨⟨_, he, layV_none⟩, h⟩
    · rw [tv_inf cb]; exact (rt_n1 _ _ _ _ w).mono fun e w' ⟨he, h⟩ => ⟨⟨_, he, layV_none⟩, h⟩
    · rw [tv_fin cb]; exact (rt_n1 _ _ _ _ w).mono fun e w' ⟨he, h⟩ => ⟨⟨_, he, layV_none⟩, h⟩
  · rw [tv_inf ca]
    rcases ok_cases b with cb | cb | cb
    · rw [tv_none cb, fdiv_nan (Or.inr cb)]; exact (rt_n2 2 _ _ _ rfl w).mono fun e w' ⟨he, h⟩ => ⟨⟨_, he, layV_none⟩, h⟩
    · rw [tv_inf cb, fdiv_ii ca cb]
      exact (rt_ee _ _ w).mono fun e w' ⟨he, h⟩ => ⟨⟨_, he, layV_none⟩, h⟩
    · rw [tv_fin cb]
      have hf := fdiv_if ca cb
      rw [hx, word_wrd _ _ (by decide)] at hf
      exact (rt_ef _ _ _ rfl _ _ w).mono fun e w' ⟨he, h⟩ => ⟨⟨_, he, layV_end _ _ hf⟩, h⟩
  · rcases ok_cases b with cb | cb | cb
    · rw [tv_fin ca, tv_none cb, fdiv_nan (Or.inr cb)]; exact (rt_n2 3 _ _ _ rfl w).mono fun e w' ⟨he, h⟩ => ⟨⟨_, he, layV_none⟩, h⟩
    · rw [tv_fin ca, tv_inf cb]
      have hf := fdiv_fi cb ca
      rw [hx, word_wrd _ _ (by decide)] at hf
      refine (rt_fe _ _ _ rfl _ _ w).mono fun e w' ⟨he, h⟩ => ⟨⟨_, he, ?_⟩, h⟩
      have hfit : Fits 0 (-149) 0 := ⟨0, by omega, by omega, Or.inl rfl, rfl⟩
      have h9 := layV_fit (m := !(sg a == sg b)) (x := fdiv a b) hfit (by rw [hf, Nat.zero_min])
      rw [show hdV (!(sg a == sg b)) 0 (-149) = .agg #[.int .u8 3, .bool (!(sg a == sg b)), .int .u64 ((0 : Nat) : Int), .int .i64 (-149)] from if_neg (by decide)] at h9
      exact h9
    · rw [tv_fin ca, tv_fin cb]
      obtain ⟨ka, na⟩ := rd_k ca
      obtain ⟨kb, nb⟩ := rd_k cb
      by_cases hz : rdm b = 0
      · have hf := fdiv_fz ca cb hz
        rw [hz]
        by_cases hy : rdm a = 0
        · rw [if_pos hy] at hf
          rw [hf, hy]
          exact (rt_zz _ _ _ _ w).mono fun e w' ⟨he, h⟩ => ⟨⟨_, he, layV_none⟩, h⟩
        · rw [if_neg hy, hx, word_wrd _ _ (by decide)] at hf
          exact (rt_fz _ _ _ rfl _ _ _ (by rw [beq_eq_false_iff_ne]; omega) w).mono fun e w' ⟨he, h⟩ => ⟨⟨_, he, layV_end _ _ hf⟩, h⟩
      · have hf := fdiv_rd a b ca cb hz
        rw [hx, word_wrd _ _ (Nat.lt_of_le_of_lt (Nat.min_le_right _ _) (by decide)), ← dec_ne] at hf
        exact (rt_ff _ _ _ rfl _ _ _ _ _ _ _ _ _ w na nb (by rw [beq_eq_false_iff_ne]; omega) (by omega) (by omega) (by omega) (by omega) rfl rfl rfl rfl rfl).mono fun e w' ⟨⟨n, q, he, hq⟩, hbl⟩ => ⟨⟨_, he, layV_fit hq hf⟩, hbl⟩
set_option maxRecDepth 100000 in
set_option maxHeartbeats 1000000 in
theorem ratios_any (a b : Nat) (w : World) (ha : a < 4294967296) (hb : b < 4294967296) :
    Calls Try.prog 14 #[.int .u32 a, .int .u32 b] w fun e w' => e = .returned (.int .u32 (fdiv a b)) ∧ Below w.heap.size w w' := by
  have HB : Below w.heap.size w w := Below.refl _ _
  go_enter Try.func14, Try.ntmps14
  go_wp2_with (first
    | (go_at_call 21; refine (form_any _).mono ?_; rintro e wq ⟨rfl, hq⟩; subst wq)
    | (go_at_call 22; with_reducible refine (take_any a _ ha).mono ?_; rintro e w1 ⟨rfl, h1⟩; replace HB : Below w.heap.size w w1 := bt2 h1 (by (repeat (first | exact HB | exact Below.refl _ _ | with_reducible refine bel ?_ | with_reducible refine Below.drew ?_ | with_reducible refine bt3 ?_))))
    | (go_at_call 22; with_reducible refine (take_any b _ hb).mono ?_; rintro e w1 ⟨rfl, h1⟩; replace HB : Below w.heap.size w w1 := bt2 h1 (by (repeat (first | exact HB | exact Below.refl _ _ | with_reducible refine bel ?_ | with_reducible refine Below.drew ?_ | with_reducible refine bt3 ?_))))
    | (go_at_call 26; with_reducible refine (ratiov_any a b _ ha hb).mono ?_; rintro e w2 ⟨⟨v, rfl, hv⟩, h2⟩; replace HB : Below w.heap.size w w2 := bt2 h2 (by (repeat (first | exact HB | exact Below.refl _ _ | with_reducible refine bel ?_ | with_reducible refine Below.drew ?_ | with_reducible refine bt3 ?_))))
    | (go_at_call 19; with_reducible refine (layAt hv _).mono ?_; rintro e w3 ⟨rfl, h3⟩; replace HB : Below w.heap.size w w3 := bt2 h3 (by (repeat (first | exact HB | exact Below.refl _ _ | with_reducible refine bel ?_ | with_reducible refine Below.drew ?_ | with_reducible refine bt3 ?_)))))
  go_ret
  exact ⟨rfl, HB⟩
set_option maxRecDepth 100000 in
set_option maxHeartbeats 1000000 in
theorem singleratios (a b : Nat) (w : World) (ha : a < 4294967296) (hb : b < 4294967296) :
    Calls Try.prog 5 #[.int .u32 a, .int .u32 b] w fun e w' => e = .returned (.bool true) ∧ Below w.heap.size w w' := by
  have HB : Below w.heap.size w w := Below.refl _ _
  go_enter Try.func5, Try.ntmps5
  go_wp2_with (first
    | (go_at_call 13; with_reducible refine (ratio_any a b _).mono ?_; rintro e wq ⟨rfl, m, hq⟩; subst wq)
    | (go_at_call 14; with_reducible refine (ratios_any a b _ ha hb).mono ?_; rintro e w1 ⟨rfl, h1⟩; replace HB : Below w.heap.size w w1 := bt2 h1 (by (repeat (first | exact HB | exact Below.refl _ _ | with_reducible refine bel ?_ | with_reducible refine Below.drew ?_ | with_reducible refine bt3 ?_)))))
  go_ret
  exact ⟨rfl, HB⟩
end Go.Proofs.Ytdkmbbnidhkdcaa
