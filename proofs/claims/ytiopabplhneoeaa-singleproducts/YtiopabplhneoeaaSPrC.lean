import Derived.Test.YtiopabplhneoeaaSPrB
namespace Go.Proofs.Ytiopabplhneoeaa
open Go.RowKit

theorem fmul_rd (a b : Nat) (fa : a % 2147483648 < 2139095040) (fb : b % 2147483648 < 2139095040) :
    fmul a b = Ieee.single.word (sn a ^^ sn b) (min (rg Ieee.single (rdm a * rdm b) (-149 + (rdk a : Int) + (-149 + (rdk b : Int)))) 2139095040) := by
  have h0 : Ieee.single.mul a b = ((Ieee.single.read a).product (Ieee.single.read b)).map Ieee.single.write := rfl
  rw [read_rd a fa, read_rd b fb] at h0
  simp only [Ieee.Datum.product, Option.map_some] at h0
  unfold fmul
  rw [h0, nearest_word]
  rfl
theorem xor_ne (m n : Bool) : (m ^^ n) = !(m == n) := by cases m <;> cases n <;> rfl
theorem fmul_ii {a b : Nat} (hi : a % 2147483648 = 2139095040) (hj : b % 2147483648 = 2139095040) : fmul a b = Ieee.single.word (sn a ^^ sn b) 2139095040 := by
  have h0 : Ieee.single.mul a b = ((Ieee.single.read a).product (Ieee.single.read b)).map Ieee.single.write := rfl
  rw [inf_read hi, inf_read hj] at h0
  unfold fmul
  rw [h0]
  rfl
theorem fmul_if {a b : Nat} (hi : a % 2147483648 = 2139095040) (hf : b % 2147483648 < 2139095040) : fmul a b = if rdm b = 0 then 2143289344 else Ieee.single.word (sn a ^^ sn b) 2139095040 := by
  have h0 : Ieee.single.mul a b = ((Ieee.single.read a).product (Ieee.single.read b)).map Ieee.single.write := rfl
  rw [inf_read hi, read_rd b hf] at h0
  unfold fmul
  rw [h0]
  simp only [Ieee.Datum.product]
  split <;> rfl
theorem fmul_fi {a b : Nat} (hi : b % 2147483648 = 2139095040) (hf : a % 2147483648 < 2139095040) : fmul a b = if rdm a = 0 then 2143289344 else Ieee.single.word (sn a ^^ sn b) 2139095040 := by
  have h0 : Ieee.single.mul a b = ((Ieee.single.read a).product (Ieee.single.read b)).map Ieee.single.write := rfl
  rw [inf_read hi, read_rd a hf] at h0
  unfold fmul
  rw [h0]
  simp only [Ieee.Datum.product]
  split
  · rfl
  · rw [Bool.xor_comm]; rfl
theorem layV_end (m : Bool) (x : Nat) (h : x = wrd m 2139095040) : LayV (vE m) x := fun w => by
  have := lay_endless m w
  rw [h]; exact this
theorem prodv_any (a b : Nat) (w : World) (ha : a < 4294967296) (hb : b < 4294967296) :
    Calls Try.prog 36 #[.agg #[.int .i64 24, .int .i64 (-149), .int .i64 104], tv a, tv b] w fun e w' => (∃ v, e = .returned v ∧ LayV v (fmul a b)) ∧ Below w.heap.size w w' := by
  have hx : (sn a ^^ sn b) = !(sg a == sg b) := by rw [xor_ne, sg_sn a ha, sg_sn b hb]
  rcases ok_cases a with ca | ca | ca
  · rw [tv_none ca, fmul_nan (Or.inl ca)]
    rcases ok_cases b with cb | cb | cb
    · rw [tv_none cb]; exact (pr_n1 _ _ _ _ w).mono fun e w' ⟨he, h⟩ => ⟨⟨_, he, layV_none⟩, h⟩
    · rw [tv_inf cb]; exact (pr_n1 _ _ _ _ w).mono fun e w' ⟨he, h⟩ => ⟨⟨_, he, layV_none⟩, h⟩
    · rw [tv_fin cb]; exact (pr_n1 _ _ _ _ w).mono fun e w' ⟨he, h⟩ => ⟨⟨_, he, layV_none⟩, h⟩
  · rw [tv_inf ca]
    rcases ok_cases b with cb | cb | cb
    · rw [tv_none cb, fmul_nan (Or.inr cb)]; exact (pr_n2 2 _ _ _ rfl w).mono fun e w' ⟨he, h⟩ => ⟨⟨_, he, layV_none⟩, h⟩
    · rw [tv_inf cb]
      have hf := fmul_ii ca cb
      rw [hx, word_wrd _ _ (by decide)] at hf
      exact (pr_ee _ _ _ rfl w).mono fun e w' ⟨he, h⟩ => ⟨⟨_, he, layV_end _ _ hf⟩, h⟩
    · rw [tv_fin cb]
      have hf := fmul_if ca cb
      by_cases hz : rdm b = 0
      · rw [if_pos hz] at hf
        rw [hf, hz]
        exact (pr_ez _ _ _ w).mono fun e w' ⟨he, h⟩ => ⟨⟨_, he, layV_none⟩, h⟩
      · rw [if_neg hz, hx, word_wrd _ _ (by decide)] at hf
        exact (pr_ef _ _ _ rfl _ _ (by rw [beq_eq_false_iff_ne]; omega) w).mono fun e w' ⟨he, h⟩ => ⟨⟨_, he, layV_end _ _ hf⟩, h⟩
  · rcases ok_cases b with cb | cb | cb
    · rw [tv_fin ca, tv_none cb, fmul_nan (Or.inr cb)]; exact (pr_n2 3 _ _ _ rfl w).mono fun e w' ⟨he, h⟩ => ⟨⟨_, he, layV_none⟩, h⟩
    · rw [tv_fin ca, tv_inf cb]
      have hf := fmul_fi cb ca
      by_cases hz : rdm a = 0
      · rw [if_pos hz] at hf
        rw [hf, hz]
        exact (pr_ze _ _ _ w).mono fun e w' ⟨he, h⟩ => ⟨⟨_, he, layV_none⟩, h⟩
      · rw [if_neg hz, hx, word_wrd _ _ (by decide)] at hf
        exact (pr_fe _ _ _ rfl _ _ (by rw [beq_eq_false_iff_ne]; omega) w).mono fun e w' ⟨he, h⟩ => ⟨⟨_, he, layV_end _ _ hf⟩, h⟩
    · rw [tv_fin ca, tv_fin cb]
      obtain ⟨ka, na⟩ := rd_k ca
      obtain ⟨kb, nb⟩ := rd_k cb
      have hf := fmul_rd a b ca cb
      rw [hx, word_wrd _ _ (by omega)] at hf
      exact (pr_ff _ _ _ rfl _ _ _ _ _ w na nb (by omega) (by omega) (by omega) (by omega) rfl).mono fun e w' ⟨⟨n, q, he, hq⟩, hbl⟩ => ⟨⟨_, he, layV_fit hq hf⟩, hbl⟩
set_option maxRecDepth 100000 in
set_option maxHeartbeats 1000000 in
theorem products_any (a b : Nat) (w : World) (ha : a < 4294967296) (hb : b < 4294967296) :
    Calls Try.prog 17 #[.int .u32 a, .int .u32 b] w fun e w' => e = .returned (.int .u32 (fmul a b)) ∧ Below w.heap.size w w' := by
  have HB : Below w.heap.size w w := Below.refl _ _
  go_enter Try.func17, Try.ntmps17
  go_wp2_with (first
    | (go_at_call 27; refine (form_any _).mono ?_; rintro e wq ⟨rfl, hq⟩; subst wq)
    | (go_at_call 31; with_reducible refine (take_any a _ ha).mono ?_; rintro e w1 ⟨rfl, h1⟩; replace HB : Below w.heap.size w w1 := bt2 h1 (by (repeat (first | exact HB | exact Below.refl _ _ | with_reducible refine bel ?_ | with_reducible refine Below.drew ?_ | with_reducible refine bt3 ?_))))
    | (go_at_call 31; with_reducible refine (take_any b _ hb).mono ?_; rintro e w1 ⟨rfl, h1⟩; replace HB : Below w.heap.size w w1 := bt2 h1 (by (repeat (first | exact HB | exact Below.refl _ _ | with_reducible refine bel ?_ | with_reducible refine Below.drew ?_ | with_reducible refine bt3 ?_))))
    | (go_at_call 36; with_reducible refine (prodv_any a b _ ha hb).mono ?_; rintro e w2 ⟨⟨v, rfl, hv⟩, h2⟩; replace HB : Below w.heap.size w w2 := bt2 h2 (by (repeat (first | exact HB | exact Below.refl _ _ | with_reducible refine bel ?_ | with_reducible refine Below.drew ?_ | with_reducible refine bt3 ?_))))
    | (go_at_call 25; with_reducible refine (layAt hv _).mono ?_; rintro e w3 ⟨rfl, h3⟩; replace HB : Below w.heap.size w w3 := bt2 h3 (by (repeat (first | exact HB | exact Below.refl _ _ | with_reducible refine bel ?_ | with_reducible refine Below.drew ?_ | with_reducible refine bt3 ?_)))))
  go_ret
  exact ⟨rfl, HB⟩
set_option maxRecDepth 100000 in
set_option maxHeartbeats 1000000 in
theorem singleproducts (a b : Nat) (w : World) (ha : a < 4294967296) (hb : b < 4294967296) :
    Calls Try.prog 6 #[.int .u32 a, .int .u32 b] w fun e w' => e = .returned (.bool true) ∧ Below w.heap.size w w' := by
  have HB : Below w.heap.size w w := Below.refl _ _
  go_enter Try.func6, Try.ntmps6
  go_wp2_with (first
    | (go_at_call 16; with_reducible refine (prod_any a b _).mono ?_; rintro e wq ⟨rfl, m, hq⟩; subst wq)
    | (go_at_call 17; with_reducible refine (products_any a b _ ha hb).mono ?_; rintro e w1 ⟨rfl, h1⟩; replace HB : Below w.heap.size w w1 := bt2 h1 (by (repeat (first | exact HB | exact Below.refl _ _ | with_reducible refine bel ?_ | with_reducible refine Below.drew ?_ | with_reducible refine bt3 ?_)))))
  go_ret
  exact ⟨rfl, HB⟩
end Go.Proofs.Ytiopabplhneoeaa
