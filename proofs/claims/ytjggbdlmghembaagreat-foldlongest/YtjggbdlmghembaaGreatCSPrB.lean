import Derived.Test.YtjggbdlmghembaaGreatCABRm
import Derived.Test.YtjggbdlmghembaaGreatCSRnE
namespace Go.Proofs.YtjggbdlmghembaaGreat
open Go.RowKit
set_option maxRecDepth 100000

set_option maxRecDepth 100000 in
set_option maxHeartbeats 4000000 in
theorem pr_ff (ma mb mm : Bool) (hmm : (!(ma == mb)) = mm) (na nb : Nat) (pa pb p : Int) (w : World) (hna : na < 16777216) (hnb : nb < 16777216) (h1 : -149 ≤ pa) (h2 : pa ≤ 104) (h3 : -149 ≤ pb) (h4 : pb ≤ 104) (hp : pa + pb = p) :
    Calls Tryz.prog 95 #[.agg #[.int .i64 24, .int .i64 (-149), .int .i64 104], .agg #[.int .u8 3, .bool ma, .int .u64 na, .int .i64 pa], .agg #[.int .u8 3, .bool mb, .int .u64 nb, .int .i64 pb]] w fun e w' => (∃ n q, e = .returned (hdV mm n q) ∧ Fits n q (rg Ieee.single (na * nb) p)) ∧ Below w.heap.size w w' := by
  have HPw : Hid (IntKind.i64.wrap (pa + pb) = p) := by rw [Hid, IntKind.wrap_i64]; omega
  have HPw2 : Hid (IntKind.i64.wrap p = p) := by rw [Hid, IntKind.wrap_i64]; omega
  have HM : Hid (na * nb < 2 ^ (32 * (2 + 2))) := mul_pow_lt (k := 2) (j := 2) (Nat.lt_of_lt_of_le hna (by decide)) (Nat.lt_of_lt_of_le hnb (by decide))
  have hpl : -5000 ≤ p := by omega
  have hpg : p ≤ 5000 := by omega
  have HB : Below ((((w.alloc ob).alloc (oV 3 ma na pa)).alloc (oV 3 mb nb pb)).alloc oz).heap.size ((((w.alloc ob).alloc (oV 3 ma na pa)).alloc (oV 3 mb nb pb)).alloc oz) ((((w.alloc ob).alloc (oV 3 ma na pa)).alloc (oV 3 mb nb pb)).alloc oz) := Below.refl _ _
  have HA := nv_nil ((((w.alloc ob).alloc (oV 3 ma na pa)).alloc (oV 3 mb nb pb)).alloc oz)
  have HQ := nv_nil ((((w.alloc ob).alloc (oV 3 ma na pa)).alloc (oV 3 mb nb pb)).alloc oz)
  go_enter Tryz.func95, Tryz.ntmps95
  go_wp2
  go_region_held3 (fun w' => w'.cell? ⟨w.heap.size, 0, none⟩ = some (.int .i64 24) ∧ w'.cell? ⟨w.heap.size, 1, none⟩ = some (.int .i64 (-149)) ∧ w'.cell? ⟨w.heap.size, 2, none⟩ = some (.int .i64 104) ∧ w'.cell? ⟨w.heap.size + 1, 0, none⟩ = some (.int .u8 3) ∧ w'.cell? ⟨w.heap.size + 1, 1, none⟩ = some (.bool ma) ∧ w'.cell? ⟨w.heap.size + 1, 2, none⟩ = some (.int .u64 (na : Nat)) ∧ w'.cell? ⟨w.heap.size + 1, 3, none⟩ = some (.int .i64 pa) ∧ w'.cell? ⟨w.heap.size + 1 + 1, 0, none⟩ = some (.int .u8 3) ∧ w'.cell? ⟨w.heap.size + 1 + 1, 1, none⟩ = some (.bool mb) ∧ w'.cell? ⟨w.heap.size + 1 + 1, 2, none⟩ = some (.int .u64 (nb : Nat)) ∧ w'.cell? ⟨w.heap.size + 1 + 1, 3, none⟩ = some (.int .i64 pb)) ((first | ((try dsimp only); with_reducible refine jS ?_; (repeat (first | exact HB | exact Below.refl _ _ | with_reducible refine bel ?_ | with_reducible refine Below.drew ?_ | with_reducible refine bt3 ?_)); done) | (refine jF ?_; (repeat (first | exact HB | exact Below.refl _ _ | with_reducible refine bel ?_ | with_reducible refine Below.drew ?_ | with_reducible refine bt3 ?_)); done))) (first
    | (go_at_call 70; with_reducible refine (nat_any na _ (by omega)).mono ?_; rintro e w1 ⟨⟨v1, rfl, hv1⟩, hb1⟩; replace HB : Below ((((w.alloc ob).alloc (oV 3 ma na pa)).alloc (oV 3 mb nb pb)).alloc oz).heap.size ((((w.alloc ob).alloc (oV 3 ma na pa)).alloc (oV 3 mb nb pb)).alloc oz) w1 := bt2 hb1 (by (repeat (first | exact HB | exact Below.refl _ _ | with_reducible refine bel ?_ | with_reducible refine Below.drew ?_ | with_reducible refine bt3 ?_))); replace HQ := HQ.step (by (repeat (first | exact Below.refl _ _ | with_reducible refine bel ?_ | with_reducible refine Below.drew ?_ | with_reducible refine bt3 ?_))) hb1; replace HA := hv1; clear hb1 hv1)
    | (go_at_call 70; with_reducible refine (nat_any nb _ (by omega)).mono ?_; rintro e w3 ⟨⟨v3, rfl, hv3⟩, hb3⟩; replace HB : Below ((((w.alloc ob).alloc (oV 3 ma na pa)).alloc (oV 3 mb nb pb)).alloc oz).heap.size ((((w.alloc ob).alloc (oV 3 ma na pa)).alloc (oV 3 mb nb pb)).alloc oz) w3 := bt2 hb3 (by (repeat (first | exact HB | exact Below.refl _ _ | with_reducible refine bel ?_ | with_reducible refine Below.drew ?_ | with_reducible refine bt3 ?_))); replace HA := HA.step (by (repeat (first | exact Below.refl _ _ | with_reducible refine bel ?_ | with_reducible refine Below.drew ?_ | with_reducible refine bt3 ?_))) hb3; replace HQ := hv3; clear hb3 hv3)
    | (go_at_call 103; with_reducible refine (times_nv v1 v3 na nb _ (HA.on (by (repeat (first | exact Below.refl _ _ | with_reducible refine bel ?_ | with_reducible refine Below.drew ?_ | with_reducible refine bt3 ?_)))) (HQ.on (by (repeat (first | exact Below.refl _ _ | with_reducible refine bel ?_ | with_reducible refine Below.drew ?_ | with_reducible refine bt3 ?_)))) (by omega) (by omega)).mono ?_; rintro e w5 ⟨⟨v5, rfl, hv5⟩, hb5⟩; replace HB : Below ((((w.alloc ob).alloc (oV 3 ma na pa)).alloc (oV 3 mb nb pb)).alloc oz).heap.size ((((w.alloc ob).alloc (oV 3 ma na pa)).alloc (oV 3 mb nb pb)).alloc oz) w5 := bt2 hb5 (by (repeat (first | exact HB | exact Below.refl _ _ | with_reducible refine bel ?_ | with_reducible refine Below.drew ?_ | with_reducible refine bt3 ?_))); replace HQ := HQ.step (by (repeat (first | exact Below.refl _ _ | with_reducible refine bel ?_ | with_reducible refine Below.drew ?_ | with_reducible refine bt3 ?_))) hb5; replace HA := hv5; clear hb5 hv5)
    | (go_at_call 68; (first | rw [HPw.out] | rw [HPw2.out]); with_reducible refine (rnd_nv mm v5 (na * nb) (2 + 2) p _ (HA.on (by (repeat (first | exact Below.refl _ _ | with_reducible refine bel ?_ | with_reducible refine Below.drew ?_ | with_reducible refine bt3 ?_)))) HM.out (by omega) hpl hpg).mono ?_; rintro e w9 ⟨⟨n9, p9, rfl, hf9⟩, hb9⟩; rw [hdV_agg]; replace HB : Below ((((w.alloc ob).alloc (oV 3 ma na pa)).alloc (oV 3 mb nb pb)).alloc oz).heap.size ((((w.alloc ob).alloc (oV 3 ma na pa)).alloc (oV 3 mb nb pb)).alloc oz) w9 := bt2 hb9 (by (repeat (first | exact HB | exact Below.refl _ _ | with_reducible refine bel ?_ | with_reducible refine Below.drew ?_ | with_reducible refine bt3 ?_))); replace HQ := HQ.step (by (repeat (first | exact Below.refl _ _ | with_reducible refine bel ?_ | with_reducible refine Below.drew ?_ | with_reducible refine bt3 ?_))) hb9; obtain ⟨r0, r1, r2, r3, q0, q1, q2, q3⟩ := jA HB))
  all_goals go_wp2
  all_goals refine bodyPost_ret (v := .agg #[.int .u8 (vS p9), .bool mm, .int .u64 (vM n9 p9), .int .i64 (vP p9)]) (by simp [results, Tryz.f95, go_sem, r0, r1, r2, r3]) rfl ?_
  all_goals exact ⟨⟨n9, p9, by rw [hdV_agg], hf9⟩, jB HB⟩
end Go.Proofs.YtjggbdlmghembaaGreat
namespace Go.Proofs.YtjggbdlmghembaaGreat
open Go.RowKit
set_option maxRecDepth 100000

theorem fmul_rd (a b : Nat) (fa : a % 2147483648 < 2139095040) (fb : b % 2147483648 < 2139095040) :
    fmul a b = Ieee.single.word (sn a ^^ sn b) (min (rg Ieee.single (rdm a * rdm b) (-149 + (rdk a : Int) + (-149 + (rdk b : Int)))) 2139095040) := by
  have h0 : Ieee.single.mul a b = ((Ieee.single.read a).product (Ieee.single.read b)).map Ieee.single.write := rfl
  rw [read_rd a fa, read_rd b fb] at h0
  simp only [Ieee.Datum.product, Option.map_some] at h0
  unfold fmul
  rw [h0, nearest_word]
  rfl
theorem xor_ne (m n : Bool) : (m ^^ n) = !(m == n) := by cases m <;> cases n <;> rfl
theorem fmul_ii {a b : Nat} (hi : a % 2147483648 = 2139095040) (hj : b % 2147483648 = 2139095040) : fmul a b = Ieee.single.word (sn a ^^ sn b) 2139095040 := by
  have h0 : Ieee.single.mul a b = ((Ieee.single.read a).product (Ieee.single.read b)).map Ieee.single.write := rfl
  rw [inf_read hi, inf_read hj] at h0
  unfold fmul
  rw [h0]
  rfl
theorem fmul_if {a b : Nat} (hi : a % 2147483648 = 2139095040) (hf : b % 2147483648 < 2139095040) : fmul a b = if rdm b = 0 then 2143289344 else Ieee.single.word (sn a ^^ sn b) 2139095040 := by
  have h0 : Ieee.single.mul a b = ((Ieee.single.read a).product (Ieee.single.read b)).map Ieee.single.write := rfl
  rw [inf_read hi, read_rd b hf] at h0
  unfold fmul
  rw [h0]
  simp only [Ieee.Datum.product]
  split <;> rfl
theorem fmul_fi {a b : Nat} (hi : b % 2147483648 = 2139095040) (hf : a % 2147483648 < 2139095040) : fmul a b = if rdm a = 0 then 2143289344 else Ieee.single.word (sn a ^^ sn b) 2139095040 := by
  have h0 : Ieee.single.mul a b = ((Ieee.single.read a).product (Ieee.single.read b)).map Ieee.single.write := rfl
  rw [inf_read hi, read_rd a hf] at h0
  unfold fmul
  rw [h0]
  simp only [Ieee.Datum.product]
  split
  · rfl
  · rw [Bool.xor_comm]; rfl
theorem layV_end (m : Bool) (x : Nat) (h : x = wrd m 2139095040) : LayV (vE m) x := fun w => by
  have := lay_endless m w
  rw [h]; exact this
theorem prodv_any (a b : Nat) (w : World) (ha : a < 4294967296) (hb : b < 4294967296) :
    Calls Tryz.prog 95 #[.agg #[.int .i64 24, .int .i64 (-149), .int .i64 104], tv a, tv b] w fun e w' => (∃ v, e = .returned v ∧ LayV v (fmul a b)) ∧ Below w.heap.size w w' := by
  have hx : (sn a ^^ sn b) = !(sg a == sg b) := by rw [xor_ne, sg_sn a ha, sg_sn b hb]
  rcases ok_cases a with ca | ca | ca
  · rw [tv_none ca, fmul_nan (Or.inl ca)]
    rcases ok_cases b with cb | cb | cb
    · rw [tv_none cb]; exact (pr_n1 _ _ _ _ w).mono fun e w' ⟨he, h⟩ => ⟨⟨_, he, layV_none⟩, h⟩
    · rw [tv_inf cb]; exact (pr_n1 _ _ _ _ w).mono fun e w' ⟨he, h⟩ => ⟨⟨_, he, layV_none⟩, h⟩
    · rw [tv_fin cb]; exact (pr_n1 _ _ _ _ w).mono fun e w' ⟨he, h⟩ => ⟨⟨_, he, layV_none⟩, h⟩
  · rw [tv_inf ca]
    rcases ok_cases b with cb | cb | cb
    · rw [tv_none cb, fmul_nan (Or.inr cb)]; exact (pr_n2 2 _ _ _ rfl w).mono fun e w' ⟨he, h⟩ => ⟨⟨_, he, layV_none⟩, h⟩
    · rw [tv_inf cb]
      have hf := fmul_ii ca cb
      rw [hx, word_wrd _ _ (by decide)] at hf
      exact (pr_ee _ _ _ rfl w).mono fun e w' ⟨he, h⟩ => ⟨⟨_, he, layV_end _ _ hf⟩, h⟩
    · rw [tv_fin cb]
      have hf := fmul_if ca cb
      by_cases hz : rdm b = 0
      · rw [if_pos hz] at hf
        rw [hf, hz]
        exact (pr_ez _ _ _ w).mono fun e w' ⟨he, h⟩ => ⟨⟨_, he, layV_none⟩, h⟩
      · rw [if_neg hz, hx, word_wrd _ _ (by decide)] at hf
        exact (pr_ef _ _ _ rfl _ _ (by rw [beq_eq_false_iff_ne]; omega) w).mono fun e w' ⟨he, h⟩ => ⟨⟨_, he, layV_end _ _ hf⟩, h⟩
  · rcases ok_cases b with cb | cb | cb
    · rw [tv_fin ca, tv_none cb, fmul_nan (Or.inr cb)]; exact (pr_n2 3 _ _ _ rfl w).mono fun e w' ⟨he, h⟩ => ⟨⟨_, he, layV_none⟩, h⟩
    · rw [tv_fin ca, tv_inf cb]
      have hf := fmul_fi cb ca
      by_cases hz : rdm a = 0
      · rw [if_pos hz] at hf
        rw [hf, hz]
        exact (pr_ze _ _ _ w).mono fun e w' ⟨he, h⟩ => ⟨⟨_, he, layV_none⟩, h⟩
      · rw [if_neg hz, hx, word_wrd _ _ (by decide)] at hf
        exact (pr_fe _ _ _ rfl _ _ (by rw [beq_eq_false_iff_ne]; omega) w).mono fun e w' ⟨he, h⟩ => ⟨⟨_, he, layV_end _ _ hf⟩, h⟩
    · rw [tv_fin ca, tv_fin cb]
      obtain ⟨ka, na⟩ := rd_k ca
      obtain ⟨kb, nb⟩ := rd_k cb
      have hf := fmul_rd a b ca cb
      rw [hx, word_wrd _ _ (by omega)] at hf
      exact (pr_ff _ _ _ rfl _ _ _ _ _ w na nb (by omega) (by omega) (by omega) (by omega) rfl).mono fun e w' ⟨⟨n, q, he, hq⟩, hbl⟩ => ⟨⟨_, he, layV_fit hq hf⟩, hbl⟩
set_option maxRecDepth 100000 in
set_option maxHeartbeats 1000000 in
theorem products_any (a b : Nat) (w : World) (ha : a < 4294967296) (hb : b < 4294967296) :
    Calls Tryz.prog 75 #[.int .u32 a, .int .u32 b] w fun e w' => e = .returned (.int .u32 (fmul a b)) ∧ Below w.heap.size w w' := by
  have HB : Below w.heap.size w w := Below.refl _ _
  go_enter Tryz.func75, Tryz.ntmps75
  go_wp2_with (first
    | (go_at_call 69; refine (form_any _).mono ?_; rintro e wq ⟨rfl, hq⟩; subst wq)
    | (go_at_call 56; with_reducible refine (take_any a _ ha).mono ?_; rintro e w1 ⟨rfl, h1⟩; replace HB : Below w.heap.size w w1 := bt2 h1 (by (repeat (first | exact HB | exact Below.refl _ _ | with_reducible refine bel ?_ | with_reducible refine Below.drew ?_ | with_reducible refine bt3 ?_))))
    | (go_at_call 56; with_reducible refine (take_any b _ hb).mono ?_; rintro e w1 ⟨rfl, h1⟩; replace HB : Below w.heap.size w w1 := bt2 h1 (by (repeat (first | exact HB | exact Below.refl _ _ | with_reducible refine bel ?_ | with_reducible refine Below.drew ?_ | with_reducible refine bt3 ?_))))
    | (go_at_call 95; with_reducible refine (prodv_any a b _ ha hb).mono ?_; rintro e w2 ⟨⟨v, rfl, hv⟩, h2⟩; replace HB : Below w.heap.size w w2 := bt2 h2 (by (repeat (first | exact HB | exact Below.refl _ _ | with_reducible refine bel ?_ | with_reducible refine Below.drew ?_ | with_reducible refine bt3 ?_))))
    | (go_at_call 67; with_reducible refine (layAt hv _).mono ?_; rintro e w3 ⟨rfl, h3⟩; replace HB : Below w.heap.size w w3 := bt2 h3 (by (repeat (first | exact HB | exact Below.refl _ _ | with_reducible refine bel ?_ | with_reducible refine Below.drew ?_ | with_reducible refine bt3 ?_)))))
  go_ret
  exact ⟨rfl, HB⟩
end Go.Proofs.YtjggbdlmghembaaGreat
namespace Go.Proofs.YtjggbdlmghembaaGreat
open Go.RowKit
set_option maxRecDepth 100000

theorem dbl_lt {x k : Nat} (h : x < 2 ^ (32 * k)) : x * 2 < 2 ^ (32 * (k + 1)) := by
  have h1 : 2 ^ (32 * k) * 2 ≤ 2 ^ (32 * (k + 1)) := by
    rw [← Nat.pow_succ]; exact Nat.pow_le_pow_right (by decide) (by omega)
  omega
theorem inc_lt {x k : Nat} (h : x < 2 ^ (32 * k)) : x + 1 < 2 ^ (32 * (k + 1)) := by
  have h1 : 2 ^ (32 * k) * 2 ≤ 2 ^ (32 * (k + 1)) := by
    rw [← Nat.pow_succ]; exact Nat.pow_le_pow_right (by decide) (by omega)
  have h2 := Nat.two_pow_pos (32 * k)
  omega
theorem nn_lt {x NN k : Nat} (h : x * 2 + 1 = NN) (hx : x < 2 ^ (32 * k)) : NN < 2 ^ (32 * (k + 1)) := by
  have h1 : 2 ^ (32 * k) * 2 ≤ 2 ^ (32 * (k + 1)) := by
    rw [← Nat.pow_succ]; exact Nat.pow_le_pow_right (by decide) (by omega)
  omega
theorem one_lt (k : Nat) (h : 0 < k) : 1 < 2 ^ (32 * k) := Nat.one_lt_two_pow (by omega)
theorem lenz {zs : List Nat} (_ : Norm zs) (h : nv zs ≠ 0) : ((zs.length : Int) == 0) = false := by
  rw [beq_eq_false_iff_ne]
  intro e
  have : zs.length = 0 := by omega
  rw [List.length_eq_zero_iff.1 this] at h
  exact h rfl
theorem up_1 (v : Value) (x k : Nat) (w : World) (h : NatV w v x) (hx : x < 2 ^ (32 * k)) (hk : k ≤ 1000) :
    Calls Tryz.prog 85 #[v, .int .i64 1] w fun e w' => (∃ v', e = .returned v' ∧ NatV w' v' (x * 2)) ∧ Below w.heap.size w w' := by
  obtain ⟨ao, cap, zs, rfl, hc, hn', hval, hN, hW, hr⟩ := h
  have := up_any ao cap zs 1 w (by have := len_pow hN hval k hx; omega) (by omega) hr hW
  rw [hval] at this
  exact this
end Go.Proofs.YtjggbdlmghembaaGreat
namespace Go.Proofs.YtjggbdlmghembaaGreat
open Go.RowKit
set_option maxRecDepth 100000

theorem size_nv (v : Value) (x k : Nat) (w : World) (h : NatV w v x) (hx : x < 2 ^ (32 * k)) (hk : k ≤ 1000) :
    Calls Tryz.prog 87 #[v] w fun e w' => e = .returned (.int .i64 (nbits x)) ∧ w' = w := by
  obtain ⟨ao, cap, zs, rfl, hc, hn', hval, hN, hW, hr⟩ := h
  have := size_any ao cap zs w (by have := len_pow hN hval k hx; omega) hr hW hN
  rw [hval] at this
  exact this
theorem bit_nv (v : Value) (x k n : Nat) (w : World) (h : NatV w v x) (hx : x < 2 ^ (32 * k)) (hk : k ≤ 1000) (hn : n ≤ 1000000) :
    Calls Tryz.prog 92 #[v, .int .i64 n] w fun e w' => e = .returned (.bool (x / 2 ^ n % 2 == 1)) ∧ w' = w := by
  obtain ⟨ao, cap, zs, rfl, hc, hn', hval, hN, hW, hr⟩ := h
  have := bit_any ao cap zs n w (by have := len_pow hN hval k hx; omega) hn hr hW
  rw [hval] at this
  exact this
theorem less_nv (v u : Value) (x y k : Nat) (w : World) (h : NatV w v x) (h' : NatV w u y) (hx : x < 2 ^ (32 * k)) (hk : k ≤ 1000) (hle : y ≤ x) :
    Calls Tryz.prog 89 #[v, u] w fun e w' => (∃ v', e = .returned v' ∧ NatV w' v' (x - y)) ∧ Below w.heap.size w w' := by
  obtain ⟨ao, cap, zs, rfl, hc, hn', hval, hN, hW, hr⟩ := h
  obtain ⟨ao2, cap2, zs2, rfl, hc2, hn2, hval2, hN2, hW2, hr2⟩ := h'
  have hl2 : zs2.length ≤ zs.length := by
    have h1 : nv zs2 < 4294967296 ^ zs.length := by rw [hval2]; exact Nat.lt_of_le_of_lt hle (by rw [← hval]; exact nv_lt hW)
    exact norm_len hN2 zs.length h1
  have := less_any ao ao2 cap cap2 zs zs2 w (by have := len_pow hN hval k hx; omega) hl2 (by rw [hval, hval2]; exact hle) hr hr2 hW hW2
  rw [hval, hval2] at this
  exact this
theorem NatV.len0 {w : World} {v : Value} {x : Nat} (h : NatV w v x) : ∃ ao l cap, v = .slice ao l cap ∧ (decide (0 < l) = decide (0 < x)) := by
  obtain ⟨ao, cap, zs, rfl, hc, hn', hval, hN, hW, hr⟩ := h
  refine ⟨ao, zs.length, cap, rfl, ?_⟩
  rw [decide_eq_decide]
  constructor
  · intro h
    rcases hN with h0 | h0
    · omega
    · apply Nat.pos_of_ne_zero
      intro hx
      rw [← hval] at hx
      have := norm_len (zs := zs) (Or.inr h0) 0 (by rw [hx]; decide)
      omega
  · intro h
    apply Nat.pos_of_ne_zero
    intro h0
    rw [List.length_eq_zero_iff.1 h0] at hval
    simp [nv] at hval
    omega
/-- a round of a division by bits -/
theorem ov_step (V b i : Nat) (hb : 0 < b) :
    let t := V / 2 ^ (i + 1) % b * 2 + V / 2 ^ i % 2
    (b ≤ t → V / 2 ^ i / b = V / 2 ^ (i + 1) / b * 2 + 1 ∧ V / 2 ^ i % b = t - b) ∧ (t < b → V / 2 ^ i / b = V / 2 ^ (i + 1) / b * 2 ∧ V / 2 ^ i % b = t) := by
  intro t
  have e1 : V / 2 ^ (i + 1) = V / 2 ^ i / 2 := by rw [Nat.pow_succ, Nat.div_div_eq_div_mul]
  have ht : t = V / 2 ^ (i + 1) % b * 2 + V / 2 ^ i % 2 := rfl
  clear_value t
  rw [e1] at ht ⊢
  generalize V / 2 ^ i = U at *
  have h1 := Nat.div_add_mod (U / 2) b
  have h2 := Nat.mod_lt (U / 2) hb
  have h3 := Nat.div_add_mod U 2
  generalize hq : U / 2 / b = q at *
  generalize hr : U / 2 % b = r at *
  have hU : U = b * (q * 2) + t := by
    rw [ht, ← Nat.mul_assoc, ← h3]
    omega
  have htl : t < 2 * b := by omega
  clear h1 h2 h3 ht hq hr e1
  refine ⟨fun h => ?_, fun h => ?_⟩
  · have hU2 : U = b * (q * 2 + 1) + (t - b) := by rw [Nat.mul_add, Nat.mul_one]; omega
    constructor
    · rw [hU2, Nat.mul_add_div hb, Nat.div_eq_of_lt (by omega), Nat.add_zero]
    · rw [hU2, Nat.mul_add_mod, Nat.mod_eq_of_lt (by omega)]
  · constructor
    · rw [hU, Nat.mul_add_div hb, Nat.div_eq_of_lt h, Nat.add_zero]
    · rw [hU, Nat.mul_add_mod, Nat.mod_eq_of_lt h]
end Go.Proofs.YtjggbdlmghembaaGreat
