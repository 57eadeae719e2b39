import Derived.Test.YtdkmbbnidhkdcaaSSmD
import Derived.Test.YtdkmbbnidhkdcaaSRest
namespace Go.Proofs.Ytdkmbbnidhkdcaa
open Go.RowKit

set_option maxRecDepth 100000 in
set_option maxHeartbeats 1000000 in
theorem flip2 (m : Bool) (w : World)  :
    Calls Try.prog 24 #[.agg #[.int .u8 2, .bool m, .int .u64 0, .int .i64 0]] w fun e w' => e = .returned (.agg #[.int .u8 2, .bool (!m), .int .u64 0, .int .i64 0]) ∧ Below w.heap.size w w' := by
  go_enter Try.func24, Try.ntmps24
  go_wp2
  refine bodyPost_ret (v := .agg #[.int .u8 2, .bool (!m), .int .u64 0, .int .i64 0]) (by simp [results, Try.f24, go_sem]) rfl ?_
  exact ⟨rfl, by repeat (first | exact Below.refl _ _ | refine bel ?_ | refine Below.drew ?_)⟩
set_option maxRecDepth 100000 in
set_option maxHeartbeats 1000000 in
theorem flip3 (m : Bool) (n p : Int) (w : World)  :
    Calls Try.prog 24 #[.agg #[.int .u8 3, .bool m, .int .u64 n, .int .i64 p]] w fun e w' => e = .returned (.agg #[.int .u8 3, .bool (!m), .int .u64 n, .int .i64 p]) ∧ Below w.heap.size w w' := by
  go_enter Try.func24, Try.ntmps24
  go_wp2
  refine bodyPost_ret (v := .agg #[.int .u8 3, .bool (!m), .int .u64 n, .int .i64 p]) (by simp [results, Try.f24, go_sem]) rfl ?_
  exact ⟨rfl, by repeat (first | exact Below.refl _ _ | refine bel ?_ | refine Below.drew ?_)⟩
set_option maxRecDepth 100000 in
set_option maxHeartbeats 1000000 in
theorem flip1  (w : World)  :
    Calls Try.prog 24 #[.agg #[.int .u8 1, .bool false, .int .u64 0, .int .i64 0]] w fun e w' => e = .returned (.agg #[.int .u8 1, .bool false, .int .u64 0, .int .i64 0]) ∧ Below w.heap.size w w' := by
  go_enter Try.func24, Try.ntmps24
  go_wp2
  refine bodyPost_ret (v := .agg #[.int .u8 1, .bool false, .int .u64 0, .int .i64 0]) (by simp [results, Try.f24, go_sem]) rfl ?_
  exact ⟨rfl, by repeat (first | exact Below.refl _ _ | refine bel ?_ | refine Below.drew ?_)⟩
theorem tn_mod (b : Nat) (h : b < 4294967296) : tn b % 2147483648 = b % 2147483648 ∧ sg (tn b) = !sg b := by
  unfold tn sg
  split
  · exact ⟨by omega, by rw [decide_eq_true (by omega), decide_eq_false (by omega)]; rfl⟩
  · exact ⟨by omega, by rw [decide_eq_false (by omega), decide_eq_true (by omega)]; rfl⟩
theorem rdm_mod {a b : Nat} (h : a % 2147483648 = b % 2147483648) : rdm a = rdm b ∧ rdk a = rdk b := by
  unfold rdm rdk
  rw [h, show a % 8388608 = b % 8388608 by omega]
  exact ⟨rfl, rfl⟩
theorem flip_any (b : Nat) (w : World) (h : b < 4294967296) :
    Calls Try.prog 24 #[tv b] w fun e w' => e = .returned (tv (tn b)) ∧ Below w.heap.size w w' := by
  obtain ⟨h1, h2⟩ := tn_mod b h
  rcases ok_cases b with c | c | c
  · rw [tv_none c, tv_none (by rw [ok, h1]; exact c)]; exact flip1 w
  · rw [tv_inf c, tv_inf (by rw [h1]; exact c), h2]; exact flip2 _ w
  · obtain ⟨e1, e2⟩ := rdm_mod h1
    rw [tv_fin c, tv_fin (by rw [h1]; exact c), h2, e1, e2]; exact flip3 _ _ _ w
theorem fsum_inf_n {x c : Nat} (hi : x % 2147483648 = 2139095040) (hj : c % 2147483648 = 2139095040) (hs : sn x ≠ sn c) : fsum x c = 2143289344 := by
  have h0 : Ieee.single.add x c = ((Ieee.single.read x).sum (Ieee.single.read c)).map Ieee.single.write := rfl
  rw [inf_read hi, inf_read hj] at h0
  unfold fsum
  rw [h0]
  simp only [Ieee.Datum.sum, if_neg hs]
  rfl
theorem fsum_inf_s {x c : Nat} (hx : x < 4294967296) (hi : x % 2147483648 = 2139095040) (hj : c % 2147483648 = 2139095040) (hs : sn x = sn c) : fsum x c = x := by
  have h0 : Ieee.single.add x c = ((Ieee.single.read x).sum (Ieee.single.read c)).map Ieee.single.write := rfl
  rw [inf_read hi, inf_read hj] at h0
  unfold fsum
  rw [h0]
  simp only [Ieee.Datum.sum, if_pos hs]
  exact inf_write hx hi
theorem fsum_inf_f {x c : Nat} (hx : x < 4294967296) (hi : x % 2147483648 = 2139095040) (hf : c % 2147483648 < 2139095040) : fsum x c = x := by
  have h0 : Ieee.single.add x c = ((Ieee.single.read x).sum (Ieee.single.read c)).map Ieee.single.write := rfl
  obtain ⟨m, k, e, -⟩ := read_fin c hf
  rw [inf_read hi, e] at h0
  unfold fsum
  rw [h0]
  exact inf_write hx hi
theorem fsum_fin_i {x c : Nat} (hc : c < 4294967296) (hi : c % 2147483648 = 2139095040) (hf : x % 2147483648 < 2139095040) : fsum x c = c := by
  have e : fsum x c = fsum c x := by unfold fsum Ieee.Format.add; rw [sum_comm']
  rw [e]; exact fsum_inf_f hc hi hf
theorem wrd_inf {a : Nat} (h : a < 4294967296) (hi : a % 2147483648 = 2139095040) : wrd (sg a) 2139095040 = a := by
  have := wrd_sg a h
  rwa [hi] at this
theorem layAt {v : Value} {x : Nat} (h : LayV v x) (w : World) : Calls Try.prog 19 #[v] w fun e w' => e = .returned (.int .u32 (x : Int)) ∧ Below w.heap.size w w' := h w
theorem layV_none : LayV vN 2143289344 := fun w => lay_none w
theorem layV_inf {a : Nat} (h : a < 4294967296) (hi : a % 2147483648 = 2139095040) : LayV (vE (sg a)) a := fun w => by
  have := lay_endless (sg a) w
  rwa [wrd_inf h hi] at this
theorem sumv_any (a b : Nat) (w : World) (ha : a < 4294967296) (hb : b < 4294967296) :
    Calls Try.prog 20 #[.agg #[.int .i64 24, .int .i64 (-149), .int .i64 104], tv a, tv b] w fun e w' => (∃ v, e = .returned v ∧ LayV v (fsum a b)) ∧ Below w.heap.size w w' := by
  rcases ok_cases a with ca | ca | ca
  · rw [tv_none ca, fsum_nan (Or.inl ca)]
    rcases ok_cases b with cb | cb | cb
    · rw [tv_none cb]; exact (sm_n1 _ _ _ _ w).mono fun e w' ⟨he, h⟩ => ⟨⟨_, he, layV_none⟩, h⟩
    · rw [tv_inf cb]; exact (sm_n1 _ _ _ _ w).mono fun e w' ⟨he, h⟩ => ⟨⟨_, he, layV_none⟩, h⟩
    · rw [tv_fin cb]; exact (sm_n1 _ _ _ _ w).mono fun e w' ⟨he, h⟩ => ⟨⟨_, he, layV_none⟩, h⟩
  · rw [tv_inf ca]
    rcases ok_cases b with cb | cb | cb
    · rw [tv_none cb, fsum_nan (Or.inr cb)]; exact (sm_n2 2 _ _ _ w rfl).mono fun e w' ⟨he, h⟩ => ⟨⟨_, he, layV_none⟩, h⟩
    · rw [tv_inf cb]
      by_cases hs : sg a = sg b
      · rw [fsum_inf_s ha ca cb (by rw [sg_sn a ha, sg_sn b hb]; exact hs), ← hs]
        exact (sm_ee (sg a) w).mono fun e w' ⟨he, h⟩ => ⟨⟨_, he, layV_inf ha ca⟩, h⟩
      · rw [fsum_inf_n ca cb (by rw [sg_sn a ha, sg_sn b hb]; exact hs)]
        exact (sm_en (sg a) (sg b) (by rw [beq_eq_false_iff_ne]; exact hs) w).mono fun e w' ⟨he, h⟩ => ⟨⟨_, he, layV_none⟩, h⟩
    · rw [tv_fin cb, fsum_inf_f ha ca cb]; exact (sm_ef (sg a) _ _ _ w).mono fun e w' ⟨he, h⟩ => ⟨⟨_, he, layV_inf ha ca⟩, h⟩
  · rcases ok_cases b with cb | cb | cb
    · rw [tv_fin ca, tv_none cb, fsum_nan (Or.inr cb)]; exact (sm_n2 3 _ _ _ w rfl).mono fun e w' ⟨he, h⟩ => ⟨⟨_, he, layV_none⟩, h⟩
    · rw [tv_fin ca, tv_inf cb, fsum_fin_i hb cb ca]; exact (sm_fe _ (sg b) _ _ w).mono fun e w' ⟨he, h⟩ => ⟨⟨_, he, layV_inf hb cb⟩, h⟩
    · rw [tv_fin ca, tv_fin cb]; exact sumv_fin a b w ha hb ca cb
set_option maxRecDepth 100000 in
set_option maxHeartbeats 1000000 in
theorem sums_any (a b : Nat) (w : World) (ha : a < 4294967296) (hb : b < 4294967296) :
    Calls Try.prog 8 #[.int .u32 a, .int .u32 b] w fun e w' => e = .returned (.int .u32 (fsum a b)) ∧ Below w.heap.size w w' := by
  have HB : Below w.heap.size w w := Below.refl _ _
  go_enter Try.func8, Try.ntmps8
  go_wp2_with (first
    | (go_at_call 21; refine (form_any _).mono ?_; rintro e wq ⟨rfl, hq⟩; subst wq)
    | (go_at_call 22; with_reducible refine (take_any a _ ha).mono ?_; rintro e w1 ⟨rfl, h1⟩; replace HB : Below w.heap.size w w1 := bt2 h1 (by (repeat (first | exact HB | exact Below.refl _ _ | with_reducible refine bel ?_ | with_reducible refine Below.drew ?_ | with_reducible refine bt3 ?_))))
    | (go_at_call 22; with_reducible refine (take_any b _ hb).mono ?_; rintro e w1 ⟨rfl, h1⟩; replace HB : Below w.heap.size w w1 := bt2 h1 (by (repeat (first | exact HB | exact Below.refl _ _ | with_reducible refine bel ?_ | with_reducible refine Below.drew ?_ | with_reducible refine bt3 ?_))))
    | (go_at_call 20; with_reducible refine (sumv_any a b _ ha hb).mono ?_; rintro e w2 ⟨⟨v, rfl, hv⟩, h2⟩; replace HB : Below w.heap.size w w2 := bt2 h2 (by (repeat (first | exact HB | exact Below.refl _ _ | with_reducible refine bel ?_ | with_reducible refine Below.drew ?_ | with_reducible refine bt3 ?_))))
    | (go_at_call 19; with_reducible refine (layAt hv _).mono ?_; rintro e w3 ⟨rfl, h3⟩; replace HB : Below w.heap.size w w3 := bt2 h3 (by (repeat (first | exact HB | exact Below.refl _ _ | with_reducible refine bel ?_ | with_reducible refine Below.drew ?_ | with_reducible refine bt3 ?_)))))
  go_ret
  exact ⟨rfl, by (repeat (first | exact HB | exact Below.refl _ _ | with_reducible refine bel ?_ | with_reducible refine Below.drew ?_ | with_reducible refine bt3 ?_))⟩
set_option maxRecDepth 100000 in
set_option maxHeartbeats 1000000 in
theorem rests_any (a b : Nat) (w : World) (ha : a < 4294967296) (hb : b < 4294967296) :
    Calls Try.prog 10 #[.int .u32 a, .int .u32 b] w fun e w' => e = .returned (.int .u32 (fsum a (tn b))) ∧ Below w.heap.size w w' := by
  have HB : Below w.heap.size w w := Below.refl _ _
  go_enter Try.func10, Try.ntmps10
  go_wp2_with (first
    | (go_at_call 21; refine (form_any _).mono ?_; rintro e wq ⟨rfl, hq⟩; subst wq)
    | (go_at_call 22; with_reducible refine (take_any a _ ha).mono ?_; rintro e w1 ⟨rfl, h1⟩; replace HB : Below w.heap.size w w1 := bt2 h1 (by (repeat (first | exact HB | exact Below.refl _ _ | with_reducible refine bel ?_ | with_reducible refine Below.drew ?_ | with_reducible refine bt3 ?_))))
    | (go_at_call 22; with_reducible refine (take_any b _ hb).mono ?_; rintro e w1 ⟨rfl, h1⟩; replace HB : Below w.heap.size w w1 := bt2 h1 (by (repeat (first | exact HB | exact Below.refl _ _ | with_reducible refine bel ?_ | with_reducible refine Below.drew ?_ | with_reducible refine bt3 ?_))))
    | (go_at_call 24; with_reducible refine (flip_any b _ hb).mono ?_; rintro e w1 ⟨rfl, h1⟩; replace HB : Below w.heap.size w w1 := bt2 h1 (by (repeat (first | exact HB | exact Below.refl _ _ | with_reducible refine bel ?_ | with_reducible refine Below.drew ?_ | with_reducible refine bt3 ?_))))
    | (go_at_call 20; with_reducible refine (sumv_any a (tn b) _ ha (tn_lt hb)).mono ?_; rintro e w2 ⟨⟨v, rfl, hv⟩, h2⟩; replace HB : Below w.heap.size w w2 := bt2 h2 (by (repeat (first | exact HB | exact Below.refl _ _ | with_reducible refine bel ?_ | with_reducible refine Below.drew ?_ | with_reducible refine bt3 ?_))))
    | (go_at_call 19; with_reducible refine (layAt hv _).mono ?_; rintro e w3 ⟨rfl, h3⟩; replace HB : Below w.heap.size w w3 := bt2 h3 (by (repeat (first | exact HB | exact Below.refl _ _ | with_reducible refine bel ?_ | with_reducible refine Below.drew ?_ | with_reducible refine bt3 ?_)))))
  go_ret
  exact ⟨rfl, by (repeat (first | exact HB | exact Below.refl _ _ | with_reducible refine bel ?_ | with_reducible refine Below.drew ?_ | with_reducible refine bt3 ?_))⟩
set_option maxRecDepth 100000 in
set_option maxHeartbeats 1000000 in
theorem singlesums (a b : Nat) (w : World) (ha : a < 4294967296) (hb : b < 4294967296) :
    Calls Try.prog 3 #[.int .u32 a, .int .u32 b] w fun e w' => e = .returned (.bool true) ∧ Below w.heap.size w w' := by
  have HB : Below w.heap.size w w := Below.refl _ _
  go_enter Try.func3, Try.ntmps3
  go_wp2_with (first
    | (go_at_call 7; with_reducible refine (sum_any a b _).mono ?_; rintro e wq ⟨rfl, m, hq⟩; subst wq)
    | (go_at_call 8; with_reducible refine (sums_any a b _ ha hb).mono ?_; rintro e w1 ⟨rfl, h1⟩; replace HB : Below w.heap.size w w1 := bt2 h1 (by (repeat (first | exact HB | exact Below.refl _ _ | with_reducible refine bel ?_ | with_reducible refine Below.drew ?_ | with_reducible refine bt3 ?_))))
    | (go_at_call 9; with_reducible refine (rest_any a b _ hb).mono ?_; rintro e wq ⟨rfl, m, hq⟩; subst wq)
    | (go_at_call 10; with_reducible refine (rests_any a b _ ha hb).mono ?_; rintro e w1 ⟨rfl, h1⟩; replace HB : Below w.heap.size w w1 := bt2 h1 (by (repeat (first | exact HB | exact Below.refl _ _ | with_reducible refine bel ?_ | with_reducible refine Below.drew ?_ | with_reducible refine bt3 ?_)))))
  go_ret
  exact ⟨rfl, by (repeat (first | exact HB | exact Below.refl _ _ | with_reducible refine bel ?_ | with_reducible refine Below.drew ?_ | with_reducible refine bt3 ?_))⟩
end Go.Proofs.Ytdkmbbnidhkdcaa
