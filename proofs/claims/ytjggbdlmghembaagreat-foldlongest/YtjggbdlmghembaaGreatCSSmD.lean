import Derived.Test.YtjggbdlmghembaaGreatCSSmB6
import Derived.Test.YtjggbdlmghembaaGreatCSRootM
import Derived.Test.YtjggbdlmghembaaGreatCSRest
namespace Go.Proofs.YtjggbdlmghembaaGreat
open Go.RowKit
set_option maxRecDepth 100000

theorem read_rd (a : Nat) (h : a % 2147483648 < 2139095040) : Ieee.single.read a = .number (sn a) (rdm a) (-149 + (rdk a : Int)) := by
  rw [read_single]; unfold rdm rdk sn
  split
  · simp
  · rw [show a % 2147483648 % 8388608 = a % 8388608 by omega]
theorem sg_sn (a : Nat) (h : a < 4294967296) : sn a = sg a := by
  unfold sn sg
  rw [Bool.eq_iff_iff]
  simp only [beq_iff_eq, decide_eq_true_eq]
  omega
def sgn (s : Bool) (x : Nat) : Int := if s then -(x : Int) else (x : Int)
theorem word_wrd (m : Bool) (r : Nat) (_ : r < 2147483648) : Ieee.single.word m r = wrd m r := by
  have e1 : Ieee.single.signWeight = 2147483648 := rfl
  unfold Ieee.Format.word wrd
  rw [e1]
  cases m
  · simp
  · simp
theorem sgn_lt (ma mb : Bool) (h : ma ≠ mb) (u v : Nat) (hc : u < v) : (sgn ma u + sgn mb v).natAbs = v - u ∧ (if sgn ma u + sgn mb v = 0 then ma && mb else decide (sgn ma u + sgn mb v < 0)) = mb := by
  unfold sgn
  cases ma <;> cases mb
  · exact absurd rfl h
  · simp only [Bool.false_eq_true, if_false, if_true]
    rw [if_neg (by omega)]
    exact ⟨by omega, decide_eq_true (by omega)⟩
  · simp only [Bool.false_eq_true, if_false, if_true]
    rw [if_neg (by omega)]
    exact ⟨by omega, decide_eq_false (by omega)⟩
  · exact absurd rfl h
theorem sgn_gt (ma mb : Bool) (h : ma ≠ mb) (u v : Nat) (hc : v < u) : (sgn ma u + sgn mb v).natAbs = u - v ∧ (if sgn ma u + sgn mb v = 0 then ma && mb else decide (sgn ma u + sgn mb v < 0)) = ma := by
  unfold sgn
  cases ma <;> cases mb
  · exact absurd rfl h
  · simp only [Bool.false_eq_true, if_false, if_true]
    rw [if_neg (by omega)]
    exact ⟨by omega, decide_eq_false (by omega)⟩
  · simp only [Bool.false_eq_true, if_false, if_true]
    rw [if_neg (by omega)]
    exact ⟨by omega, decide_eq_true (by omega)⟩
  · exact absurd rfl h
theorem sgn_eq (ma mb : Bool) (h : ma ≠ mb) (u : Nat) : sgn ma u + sgn mb u = 0 ∧ (ma && mb) = false := by
  unfold sgn
  cases ma <;> cases mb
  · exact absurd rfl h
  · simp only [Bool.false_eq_true, if_false, if_true]; exact ⟨by omega, rfl⟩
  · simp only [Bool.false_eq_true, if_false, if_true]; exact ⟨by omega, rfl⟩
  · exact absurd rfl h
theorem fsum_rd (a b : Nat) (fa : a % 2147483648 < 2139095040) (fb : b % 2147483648 < 2139095040) (X Y : Nat) (p : Int) (hp : min (-149 + (rdk a : Int)) (-149 + (rdk b : Int)) = p) (hX : -149 + (rdk a : Int) - p = X) (hY : -149 + (rdk b : Int) - p = Y) (T : Int) (hT : sgn (sn a) (rdm a * 2 ^ X) + sgn (sn b) (rdm b * 2 ^ Y) = T) :
    fsum a b = Ieee.single.word (if T = 0 then sn a && sn b else decide (T < 0)) (min (rg Ieee.single T.natAbs p) 2139095040) := by
  have h0 : Ieee.single.add a b = ((Ieee.single.read a).sum (Ieee.single.read b)).map Ieee.single.write := rfl
  rw [read_rd a fa, read_rd b fb] at h0
  simp only [Ieee.Datum.sum, Option.map_some] at h0
  rw [hp, hX, hY, Int.toNat_natCast, Int.toNat_natCast, signed_val, signed_val] at h0
  have e : ((if sn a = true then -((rdm a * 2 ^ X : Nat) : Int) else ((rdm a * 2 ^ X : Nat) : Int)) + if sn b = true then -((rdm b * 2 ^ Y : Nat) : Int) else ((rdm b * 2 ^ Y : Nat) : Int)) = T := hT
  rw [e] at h0
  unfold fsum
  rw [h0, nearest_word]
  rfl
/-- what a word stands for, as the document has it -/
def tv (a : Nat) : Value := if ok a = false then vN else if a % 2147483648 = 2139095040 then vE (sg a) else vF (sg a) (rdm a) (-149 + (rdk a : Int))
theorem tv_none {a : Nat} (h : ok a = false) : tv a = vN := by rw [tv, if_pos h]
theorem tv_inf {a : Nat} (h : a % 2147483648 = 2139095040) : tv a = vE (sg a) := by rw [tv, if_neg (by simp [ok, h]), if_pos h]
theorem tv_fin {a : Nat} (h : a % 2147483648 < 2139095040) : tv a = vF (sg a) (rdm a) (-149 + (rdk a : Int)) := by rw [tv, if_neg (by simp [ok]; omega), if_neg (by omega)]
theorem ok_cases (a : Nat) : ok a = false ∨ a % 2147483648 = 2139095040 ∨ a % 2147483648 < 2139095040 := by
  unfold ok
  by_cases h : a % 2147483648 ≤ 2139095040
  · right; omega
  · left; exact decide_eq_false h
theorem take_any (a : Nat) (w : World) (h : a < 4294967296) :
    Calls Tryz.prog 56 #[.int .u32 a] w fun e w' => e = .returned (tv a) ∧ Below w.heap.size w w' := by
  rcases ok_cases a with h1 | h1 | h1
  · rw [tv_none h1]; exact take_none a w h h1
  · rw [tv_inf h1]; exact take_endless a w h h1
  · rw [tv_fin h1]; exact take_fin a w h h1
theorem rd_k {a : Nat} (h : a % 2147483648 < 2139095040) : rdk a ≤ 253 ∧ rdm a < 16777216 := by
  obtain ⟨h1, h2, h3⟩ := rd_rung a
  exact ⟨by omega, h2⟩
/-- what is laid is this word -/
def LayV (v : Value) (x : Nat) : Prop := ∀ w, Calls Tryz.prog 67 #[v] w fun e w' => e = .returned (.int .u32 (x : Int)) ∧ Below w.heap.size w w'
theorem layV_fit {m : Bool} {n : Nat} {p : Int} {r x : Nat} (h : Fits n p r) (hx : x = wrd m (min r 2139095040)) : LayV (hdV m n p) x := fun w => by rw [hx]; exact lay_any m n p r w h

theorem sumv_fin (a b : Nat) (w : World) (ha : a < 4294967296) (hb : b < 4294967296) (fa : a % 2147483648 < 2139095040) (fb : b % 2147483648 < 2139095040) :
    Calls Tryz.prog 93 #[.agg #[.int .i64 24, .int .i64 (-149), .int .i64 104], vF (sg a) (rdm a) (-149 + (rdk a : Int)), vF (sg b) (rdm b) (-149 + (rdk b : Int))] w fun e w' => (∃ v, e = .returned v ∧ LayV v (fsum a b)) ∧ Below w.heap.size w w' := by
  obtain ⟨ka, na⟩ := rd_k fa
  obtain ⟨kb, nb⟩ := rd_k fb
  have hsa := sg_sn a ha
  have hsb := sg_sn b hb
  obtain ⟨p, hp⟩ : ∃ p, min (-149 + (rdk a : Int)) (-149 + (rdk b : Int)) = p := ⟨_, rfl⟩
  obtain ⟨X, hX⟩ : ∃ X : Nat, -149 + (rdk a : Int) - p = X := ⟨(-149 + (rdk a : Int) - p).toNat, by omega⟩
  obtain ⟨Y, hY⟩ : ∃ Y : Nat, -149 + (rdk b : Int) - p = Y := ⟨(-149 + (rdk b : Int) - p).toNat, by omega⟩
  have hf := fun T hT => fsum_rd a b fa fb X Y p hp hX hY T hT
  rw [hsa, hsb] at hf
  generalize sg a = ma at *
  generalize sg b = mb at *
  generalize rdm a = x at *
  generalize rdm b = y at *
  have hmin : ∀ r : Nat, min r 2139095040 < 2147483648 := fun r => by omega
  by_cases hs : ma = mb
  · subst hs
    have hab : (sgn ma (x * 2 ^ X) + sgn ma (y * 2 ^ Y)).natAbs = x * 2 ^ X + y * 2 ^ Y := by unfold sgn; split <;> omega
    have hneg : (if sgn ma (x * 2 ^ X) + sgn ma (y * 2 ^ Y) = 0 then ma && ma else decide (sgn ma (x * 2 ^ X) + sgn ma (y * 2 ^ Y) < 0)) = ma := by
      unfold sgn
      cases ma
      · simp only [Bool.false_eq_true, if_false, Bool.and_self]
        split
        · rfl
        · exact decide_eq_false (by omega)
      · simp only [if_true, Bool.and_self]
        split
        · rfl
        · exact decide_eq_true (by omega)
    have hF := hf _ rfl
    rw [hab, hneg, word_wrd _ _ (hmin _)] at hF
    by_cases ho : (-149 + (rdk b : Int)) < -149 + (rdk a : Int)
    · obtain rfl : p = -149 + (rdk b : Int) := by omega
      exact (sumLp ma x y X Y _ _ w na nb (by omega) (by omega) (by omega) (by omega) ho hX (by omega)).mono fun e w' ⟨⟨n, q, he, hq⟩, hbl⟩ => ⟨⟨_, he, layV_fit hq hF⟩, hbl⟩
    · obtain rfl : p = -149 + (rdk a : Int) := by omega
      exact (sumGp ma x y X Y _ _ w na nb (by omega) (by omega) (by omega) (by omega) ho (by omega) hY).mono fun e w' ⟨⟨n, q, he, hq⟩, hbl⟩ => ⟨⟨_, he, layV_fit hq hF⟩, hbl⟩
  · have hmm : (ma == mb) = false := by rw [beq_eq_false_iff_ne]; exact hs
    rcases Nat.lt_trichotomy (x * 2 ^ X) (y * 2 ^ Y) with hc | hc | hc
    · obtain ⟨hab, hneg⟩ := sgn_lt ma mb hs _ _ hc
      have hF := hf _ rfl
      rw [hab, hneg, word_wrd _ _ (hmin _)] at hF
      by_cases ho : (-149 + (rdk b : Int)) < -149 + (rdk a : Int)
      · obtain rfl : p = -149 + (rdk b : Int) := by omega
        exact (sumLl ma mb hmm x y X Y _ _ w na nb (by omega) (by omega) (by omega) (by omega) ho hX (by omega) hc).mono fun e w' ⟨⟨n, q, he, hq⟩, hbl⟩ => ⟨⟨_, he, layV_fit hq hF⟩, hbl⟩
      · obtain rfl : p = -149 + (rdk a : Int) := by omega
        exact (sumGl ma mb hmm x y X Y _ _ w na nb (by omega) (by omega) (by omega) (by omega) ho (by omega) hY hc).mono fun e w' ⟨⟨n, q, he, hq⟩, hbl⟩ => ⟨⟨_, he, layV_fit hq hF⟩, hbl⟩
    · obtain ⟨hab, hmf⟩ := sgn_eq ma mb hs (y * 2 ^ Y)
      rw [show sgn ma (y * 2 ^ Y) = sgn ma (x * 2 ^ X) by rw [hc]] at hab
      have hF := hf _ hab
      rw [if_pos rfl, word_wrd _ _ (hmin _)] at hF
      rw [hmf] at hF
      have hF' : fsum a b = wrd false (min 0 2139095040) := hF
      by_cases ho : (-149 + (rdk b : Int)) < -149 + (rdk a : Int)
      · obtain rfl : p = -149 + (rdk b : Int) := by omega
        exact (sumLz ma mb hmm x y X Y _ _ w na nb (by omega) (by omega) (by omega) (by omega) ho hX (by omega) hc).mono fun e w' ⟨⟨n, q, he, hq⟩, hbl⟩ => ⟨⟨_, he, layV_fit hq hF'⟩, hbl⟩
      · obtain rfl : p = -149 + (rdk a : Int) := by omega
        exact (sumGz ma mb hmm x y X Y _ _ w na nb (by omega) (by omega) (by omega) (by omega) ho (by omega) hY hc).mono fun e w' ⟨⟨n, q, he, hq⟩, hbl⟩ => ⟨⟨_, he, layV_fit hq hF'⟩, hbl⟩
    · obtain ⟨hab, hneg⟩ := sgn_gt ma mb hs _ _ hc
      have hF := hf _ rfl
      rw [hab, hneg, word_wrd _ _ (hmin _)] at hF
      by_cases ho : (-149 + (rdk b : Int)) < -149 + (rdk a : Int)
      · obtain rfl : p = -149 + (rdk b : Int) := by omega
        exact (sumLg ma mb hmm x y X Y _ _ w na nb (by omega) (by omega) (by omega) (by omega) ho hX (by omega) hc).mono fun e w' ⟨⟨n, q, he, hq⟩, hbl⟩ => ⟨⟨_, he, layV_fit hq hF⟩, hbl⟩
      · obtain rfl : p = -149 + (rdk a : Int) := by omega
        exact (sumGg ma mb hmm x y X Y _ _ w na nb (by omega) (by omega) (by omega) (by omega) ho (by omega) hY hc).mono fun e w' ⟨⟨n, q, he, hq⟩, hbl⟩ => ⟨⟨_, he, layV_fit hq hF⟩, hbl⟩
end Go.Proofs.YtjggbdlmghembaaGreat
namespace Go.Proofs.YtjggbdlmghembaaGreat
open Go.RowKit
set_option maxRecDepth 100000

set_option maxRecDepth 100000 in
set_option maxHeartbeats 1000000 in
theorem flip2 (m : Bool) (w : World)  :
    Calls Tryz.prog 94 #[.agg #[.int .u8 2, .bool m, .int .u64 0, .int .i64 0]] w fun e w' => e = .returned (.agg #[.int .u8 2, .bool (!m), .int .u64 0, .int .i64 0]) ∧ Below w.heap.size w w' := by
  go_enter Tryz.func94, Tryz.ntmps94
  go_wp2
  refine bodyPost_ret (v := .agg #[.int .u8 2, .bool (!m), .int .u64 0, .int .i64 0]) (by simp [results, Tryz.f94, go_sem]) rfl ?_
  exact ⟨rfl, by repeat (first | exact Below.refl _ _ | refine bel ?_ | refine Below.drew ?_)⟩
set_option maxRecDepth 100000 in
set_option maxHeartbeats 1000000 in
theorem flip3 (m : Bool) (n p : Int) (w : World)  :
    Calls Tryz.prog 94 #[.agg #[.int .u8 3, .bool m, .int .u64 n, .int .i64 p]] w fun e w' => e = .returned (.agg #[.int .u8 3, .bool (!m), .int .u64 n, .int .i64 p]) ∧ Below w.heap.size w w' := by
  go_enter Tryz.func94, Tryz.ntmps94
  go_wp2
  refine bodyPost_ret (v := .agg #[.int .u8 3, .bool (!m), .int .u64 n, .int .i64 p]) (by simp [results, Tryz.f94, go_sem]) rfl ?_
  exact ⟨rfl, by repeat (first | exact Below.refl _ _ | refine bel ?_ | refine Below.drew ?_)⟩
set_option maxRecDepth 100000 in
set_option maxHeartbeats 1000000 in
theorem flip1  (w : World)  :
    Calls Tryz.prog 94 #[.agg #[.int .u8 1, .bool false, .int .u64 0, .int .i64 0]] w fun e w' => e = .returned (.agg #[.int .u8 1, .bool false, .int .u64 0, .int .i64 0]) ∧ Below w.heap.size w w' := by
  go_enter Tryz.func94, Tryz.ntmps94
  go_wp2
  refine bodyPost_ret (v := .agg #[.int .u8 1, .bool false, .int .u64 0, .int .i64 0]) (by simp [results, Tryz.f94, go_sem]) rfl ?_
  exact ⟨rfl, by repeat (first | exact Below.refl _ _ | refine bel ?_ | refine Below.drew ?_)⟩
theorem tn_mod (b : Nat) (h : b < 4294967296) : tn b % 2147483648 = b % 2147483648 ∧ sg (tn b) = !sg b := by
  unfold tn sg
  split
  · exact ⟨by omega, by rw [decide_eq_true (by omega), decide_eq_false (by omega)]; rfl⟩
  · exact ⟨by omega, by rw [decide_eq_false (by omega), decide_eq_true (by omega)]; rfl⟩
theorem rdm_mod {a b : Nat} (h : a % 2147483648 = b % 2147483648) : rdm a = rdm b ∧ rdk a = rdk b := by
  unfold rdm rdk
  rw [h, show a % 8388608 = b % 8388608 by omega]
  exact ⟨rfl, rfl⟩
theorem flip_any (b : Nat) (w : World) (h : b < 4294967296) :
    Calls Tryz.prog 94 #[tv b] w fun e w' => e = .returned (tv (tn b)) ∧ Below w.heap.size w w' := by
  obtain ⟨h1, h2⟩ := tn_mod b h
  rcases ok_cases b with c | c | c
  · rw [tv_none c, tv_none (by rw [ok, h1]; exact c)]; exact flip1 w
  · rw [tv_inf c, tv_inf (by rw [h1]; exact c), h2]; exact flip2 _ w
  · obtain ⟨e1, e2⟩ := rdm_mod h1
    rw [tv_fin c, tv_fin (by rw [h1]; exact c), h2, e1, e2]; exact flip3 _ _ _ w
theorem fsum_inf_n {x c : Nat} (hi : x % 2147483648 = 2139095040) (hj : c % 2147483648 = 2139095040) (hs : sn x ≠ sn c) : fsum x c = 2143289344 := by
  have h0 : Ieee.single.add x c = ((Ieee.single.read x).sum (Ieee.single.read c)).map Ieee.single.write := rfl
  rw [inf_read hi, inf_read hj] at h0
  unfold fsum
  rw [h0]
  simp only [Ieee.Datum.sum, if_neg hs]
  rfl
theorem fsum_inf_s {x c : Nat} (hx : x < 4294967296) (hi : x % 2147483648 = 2139095040) (hj : c % 2147483648 = 2139095040) (hs : sn x = sn c) : fsum x c = x := by
  have h0 : Ieee.single.add x c = ((Ieee.single.read x).sum (Ieee.single.read c)).map Ieee.single.write := rfl
  rw [inf_read hi, inf_read hj] at h0
  unfold fsum
  rw [h0]
  simp only [Ieee.Datum.sum, if_pos hs]
  exact inf_write hx hi
theorem fsum_inf_f {x c : Nat} (hx : x < 4294967296) (hi : x % 2147483648 = 2139095040) (hf : c % 2147483648 < 2139095040) : fsum x c = x := by
  have h0 : Ieee.single.add x c = ((Ieee.single.read x).sum (Ieee.single.read c)).map Ieee.single.write := rfl
  obtain ⟨m, k, e, -⟩ := read_fin c hf
  rw [inf_read hi, e] at h0
  unfold fsum
  rw [h0]
  exact inf_write hx hi
theorem fsum_fin_i {x c : Nat} (hc : c < 4294967296) (hi : c % 2147483648 = 2139095040) (hf : x % 2147483648 < 2139095040) : fsum x c = c := by
  have e : fsum x c = fsum c x := by unfold fsum Ieee.Format.add; rw [sum_comm']
  rw [e]; exact fsum_inf_f hc hi hf
theorem wrd_inf {a : Nat} (h : a < 4294967296) (hi : a % 2147483648 = 2139095040) : wrd (sg a) 2139095040 = a := by
  have := wrd_sg a h
  rwa [hi] at this
theorem layAt {v : Value} {x : Nat} (h : LayV v x) (w : World) : Calls Tryz.prog 67 #[v] w fun e w' => e = .returned (.int .u32 (x : Int)) ∧ Below w.heap.size w w' := h w
theorem layV_none : LayV vN 2143289344 := fun w => lay_none w
theorem layV_inf {a : Nat} (h : a < 4294967296) (hi : a % 2147483648 = 2139095040) : LayV (vE (sg a)) a := fun w => by
  have := lay_endless (sg a) w
  rwa [wrd_inf h hi] at this
theorem sumv_any (a b : Nat) (w : World) (ha : a < 4294967296) (hb : b < 4294967296) :
    Calls Tryz.prog 93 #[.agg #[.int .i64 24, .int .i64 (-149), .int .i64 104], tv a, tv b] w fun e w' => (∃ v, e = .returned v ∧ LayV v (fsum a b)) ∧ Below w.heap.size w w' := by
  rcases ok_cases a with ca | ca | ca
  · rw [tv_none ca, fsum_nan (Or.inl ca)]
    rcases ok_cases b with cb | cb | cb
    · rw [tv_none cb]; exact (sm_n1 _ _ _ _ w).mono fun e w' ⟨he, h⟩ => ⟨⟨_, he, layV_none⟩, h⟩
    · rw [tv_inf cb]; exact (sm_n1 _ _ _ _ w).mono fun e w' ⟨he, h⟩ => ⟨⟨_, he, layV_none⟩, h⟩
    · rw [tv_fin cb]; exact (sm_n1 _ _ _ _ w).mono fun e w' ⟨he, h⟩ => ⟨⟨_, he, layV_none⟩, h⟩
  · rw [tv_inf ca]
    rcases ok_cases b with cb | cb | cb
    · rw [tv_none cb, fsum_nan (Or.inr cb)]; exact (sm_n2 2 _ _ _ w rfl).mono fun e w' ⟨he, h⟩ => ⟨⟨_, he, layV_none⟩, h⟩
    · rw [tv_inf cb]
      by_cases hs : sg a = sg b
      · rw [fsum_inf_s ha ca cb (by rw [sg_sn a ha, sg_sn b hb]; exact hs), ← hs]
        exact (sm_ee (sg a) w).mono fun e w' ⟨he, h⟩ => ⟨⟨_, he, layV_inf ha ca⟩, h⟩
      · rw [fsum_inf_n ca cb (by rw [sg_sn a ha, sg_sn b hb]; exact hs)]
        exact (sm_en (sg a) (sg b) (by rw [beq_eq_false_iff_ne]; exact hs) w).mono fun e w' ⟨he, h⟩ => ⟨⟨_, he, layV_none⟩, h⟩
    · rw [tv_fin cb, fsum_inf_f ha ca cb]; exact (sm_ef (sg a) _ _ _ w).mono fun e w' ⟨he, h⟩ => ⟨⟨_, he, layV_inf ha ca⟩, h⟩
  · rcases ok_cases b with cb | cb | cb
    · rw [tv_fin ca, tv_none cb, fsum_nan (Or.inr cb)]; exact (sm_n2 3 _ _ _ w rfl).mono fun e w' ⟨he, h⟩ => ⟨⟨_, he, layV_none⟩, h⟩
    · rw [tv_fin ca, tv_inf cb, fsum_fin_i hb cb ca]; exact (sm_fe _ (sg b) _ _ w).mono fun e w' ⟨he, h⟩ => ⟨⟨_, he, layV_inf hb cb⟩, h⟩
    · rw [tv_fin ca, tv_fin cb]; exact sumv_fin a b w ha hb ca cb
set_option maxRecDepth 100000 in
set_option maxHeartbeats 1000000 in
theorem sums_any (a b : Nat) (w : World) (ha : a < 4294967296) (hb : b < 4294967296) :
    Calls Tryz.prog 73 #[.int .u32 a, .int .u32 b] w fun e w' => e = .returned (.int .u32 (fsum a b)) ∧ Below w.heap.size w w' := by
  have HB : Below w.heap.size w w := Below.refl _ _
  go_enter Tryz.func73, Tryz.ntmps73
  go_wp2_with (first
    | (go_at_call 69; refine (form_any _).mono ?_; rintro e wq ⟨rfl, hq⟩; subst wq)
    | (go_at_call 56; with_reducible refine (take_any a _ ha).mono ?_; rintro e w1 ⟨rfl, h1⟩; replace HB : Below w.heap.size w w1 := bt2 h1 (by (repeat (first | exact HB | exact Below.refl _ _ | with_reducible refine bel ?_ | with_reducible refine Below.drew ?_ | with_reducible refine bt3 ?_))))
    | (go_at_call 56; with_reducible refine (take_any b _ hb).mono ?_; rintro e w1 ⟨rfl, h1⟩; replace HB : Below w.heap.size w w1 := bt2 h1 (by (repeat (first | exact HB | exact Below.refl _ _ | with_reducible refine bel ?_ | with_reducible refine Below.drew ?_ | with_reducible refine bt3 ?_))))
    | (go_at_call 93; with_reducible refine (sumv_any a b _ ha hb).mono ?_; rintro e w2 ⟨⟨v, rfl, hv⟩, h2⟩; replace HB : Below w.heap.size w w2 := bt2 h2 (by (repeat (first | exact HB | exact Below.refl _ _ | with_reducible refine bel ?_ | with_reducible refine Below.drew ?_ | with_reducible refine bt3 ?_))))
    | (go_at_call 67; with_reducible refine (layAt hv _).mono ?_; rintro e w3 ⟨rfl, h3⟩; replace HB : Below w.heap.size w w3 := bt2 h3 (by (repeat (first | exact HB | exact Below.refl _ _ | with_reducible refine bel ?_ | with_reducible refine Below.drew ?_ | with_reducible refine bt3 ?_)))))
  go_ret
  exact ⟨rfl, by (repeat (first | exact HB | exact Below.refl _ _ | with_reducible refine bel ?_ | with_reducible refine Below.drew ?_ | with_reducible refine bt3 ?_))⟩
set_option maxRecDepth 100000 in
set_option maxHeartbeats 1000000 in
theorem rests_any (a b : Nat) (w : World) (ha : a < 4294967296) (hb : b < 4294967296) :
    Calls Tryz.prog 74 #[.int .u32 a, .int .u32 b] w fun e w' => e = .returned (.int .u32 (fsum a (tn b))) ∧ Below w.heap.size w w' := by
  have HB : Below w.heap.size w w := Below.refl _ _
  go_enter Tryz.func74, Tryz.ntmps74
  go_wp2_with (first
    | (go_at_call 69; refine (form_any _).mono ?_; rintro e wq ⟨rfl, hq⟩; subst wq)
    | (go_at_call 56; with_reducible refine (take_any a _ ha).mono ?_; rintro e w1 ⟨rfl, h1⟩; replace HB : Below w.heap.size w w1 := bt2 h1 (by (repeat (first | exact HB | exact Below.refl _ _ | with_reducible refine bel ?_ | with_reducible refine Below.drew ?_ | with_reducible refine bt3 ?_))))
    | (go_at_call 56; with_reducible refine (take_any b _ hb).mono ?_; rintro e w1 ⟨rfl, h1⟩; replace HB : Below w.heap.size w w1 := bt2 h1 (by (repeat (first | exact HB | exact Below.refl _ _ | with_reducible refine bel ?_ | with_reducible refine Below.drew ?_ | with_reducible refine bt3 ?_))))
    | (go_at_call 94; with_reducible refine (flip_any b _ hb).mono ?_; rintro e w1 ⟨rfl, h1⟩; replace HB : Below w.heap.size w w1 := bt2 h1 (by (repeat (first | exact HB | exact Below.refl _ _ | with_reducible refine bel ?_ | with_reducible refine Below.drew ?_ | with_reducible refine bt3 ?_))))
    | (go_at_call 93; with_reducible refine (sumv_any a (tn b) _ ha (tn_lt hb)).mono ?_; rintro e w2 ⟨⟨v, rfl, hv⟩, h2⟩; replace HB : Below w.heap.size w w2 := bt2 h2 (by (repeat (first | exact HB | exact Below.refl _ _ | with_reducible refine bel ?_ | with_reducible refine Below.drew ?_ | with_reducible refine bt3 ?_))))
    | (go_at_call 67; with_reducible refine (layAt hv _).mono ?_; rintro e w3 ⟨rfl, h3⟩; replace HB : Below w.heap.size w w3 := bt2 h3 (by (repeat (first | exact HB | exact Below.refl _ _ | with_reducible refine bel ?_ | with_reducible refine Below.drew ?_ | with_reducible refine bt3 ?_)))))
  go_ret
  exact ⟨rfl, by (repeat (first | exact HB | exact Below.refl _ _ | with_reducible refine bel ?_ | with_reducible refine Below.drew ?_ | with_reducible refine bt3 ?_))⟩
end Go.Proofs.YtjggbdlmghembaaGreat
