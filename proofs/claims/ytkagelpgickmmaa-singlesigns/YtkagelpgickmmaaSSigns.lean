import Derived.Test.YtkagelpgickmmaaSOne
namespace Go.Proofs.Ytkagelpgickmmaa
open Go.RowKit

theorem sgn_tn (a : Nat) (h : a < 4294967296) : (tn a / 2147483648 % 2 == 1) = !(a / 2147483648 % 2 == 1) := by
  unfold tn
  split
  · rw [show (a + 2147483648) / 2147483648 % 2 = 1 by omega, show a / 2147483648 % 2 = 0 by omega]; rfl
  · rw [show (a - 2147483648) / 2147483648 % 2 = 0 by omega, show a / 2147483648 % 2 = 1 by omega]; rfl
theorem mod_tn (a : Nat) (h : a < 4294967296) : tn a % 2147483648 = a % 2147483648 := by
  unfold tn; split <;> omega
theorem read_tn (a : Nat) (h : a < 4294967296) : Ieee.single.read (tn a) = (Ieee.single.read a).opposite := by
  rw [read_single, read_single, sgn_tn a h, mod_tn a h]
  split
  · rfl
  · split
    · rfl
    · split <;> rfl
theorem word_tn (neg : Bool) (r : Nat) (h : r < 2147483648) : Ieee.single.word (!neg) r = tn (Ieee.single.word neg r) := by
  have e1 : Ieee.single.signWeight = 2147483648 := rfl
  unfold Ieee.Format.word tn
  rw [e1]
  cases neg
  · simp only [Bool.not_false, if_true, Bool.false_eq_true, if_false]; rw [if_pos h]; omega
  · simp only [Bool.not_true, if_true, Bool.false_eq_true, if_false]; rw [if_neg (by omega)]; omega
theorem cut_neg (s t : Bool) (n d : Nat) : Ieee.Toward.even.cut s n d = Ieee.Toward.even.cut t n d := rfl
theorem write_opp (d : Ieee.Datum) (h : d.isNaN = false) : Ieee.single.write d.opposite = tn (Ieee.single.write d) := by
  have e3 : Ieee.single.infRung = 2139095040 := rfl
  cases d with
  | number neg mag place =>
    show Ieee.single.nearest (!neg) mag place = tn (Ieee.single.nearest neg mag place)
    unfold Ieee.Format.nearest
    split
    · exact word_tn _ _ (by omega)
    · dsimp only
      rw [cut_neg (!neg) neg]
      refine word_tn _ _ (Nat.lt_of_le_of_lt (Nat.min_le_right _ _) ?_)
      rw [e3]; decide
  | infinity neg => exact word_tn neg _ (by rw [e3]; decide)
  | nan neg fr => simp [Ieee.Datum.isNaN] at h
theorem product_comm (d e : Ieee.Datum) : d.product e = e.product d := by
  cases d <;> cases e <;> simp [Ieee.Datum.product, Bool.xor_comm, Nat.mul_comm, Int.add_comm]
theorem sum_comm (d e : Ieee.Datum) : d.sum e = e.sum d := by
  cases d <;> cases e <;> simp only [Ieee.Datum.sum]
  · rename_i s m i t n j
    rw [Int.min_comm i j, Int.add_comm (Ieee.signed s _ _), Bool.and_comm]
  · rename_i s t
    by_cases h : s = t
    · subst h; rfl
    · rw [if_neg h, if_neg (Ne.symm h)]
theorem product_opp (d e : Ieee.Datum) : d.opposite.product e = (d.product e).map Ieee.Datum.opposite := by
  cases d <;> cases e <;> simp only [Ieee.Datum.product, Ieee.Datum.opposite, Option.map_none, Option.map_some]
  · rename_i s m i t n j; cases s <;> cases t <;> rfl
  · rename_i s m i t; by_cases h : m = 0 <;> simp [h, Ieee.Datum.opposite]
  · rename_i s t n j; by_cases h : n = 0 <;> simp [h, Ieee.Datum.opposite]
  · rename_i s t; cases s <;> cases t <;> rfl
theorem quotient_opp_l (k : Nat) (d e : Ieee.Datum) : d.opposite.quotient k e = (d.quotient k e).map Ieee.Datum.opposite := by
  cases d <;> cases e <;> simp only [Ieee.Datum.quotient, Ieee.Datum.opposite, Option.map_none, Option.map_some]
  · rename_i s m i t n j
    by_cases h : n = 0
    · by_cases h' : m = 0 <;> simp [h, h', Ieee.Datum.opposite]
    · simp [h, Ieee.Datum.opposite]
  · rename_i s m i t; cases s <;> cases t <;> rfl
  · rename_i s t n j; cases s <;> cases t <;> rfl
theorem quotient_opp_r (k : Nat) (d e : Ieee.Datum) : d.quotient k e.opposite = (d.quotient k e).map Ieee.Datum.opposite := by
  cases d <;> cases e <;> simp only [Ieee.Datum.quotient, Ieee.Datum.opposite, Option.map_none, Option.map_some]
  · rename_i s m i t n j
    by_cases h : n = 0
    · by_cases h' : m = 0 <;> simp [h, h', Ieee.Datum.opposite]
    · simp [h, Ieee.Datum.opposite]
  · rename_i s m i t; cases s <;> cases t <;> rfl
  · rename_i s t n j; cases s <;> cases t <;> rfl
theorem signed_opp (s : Bool) (m u : Nat) : Ieee.signed (!s) m u = - Ieee.signed s m u := by
  cases s <;> simp [Ieee.signed]
theorem sum_opp (d e : Ieee.Datum) : (∃ s i, d.sum e = some (.number s 0 i)) ∨ d.opposite.sum e.opposite = (d.sum e).map Ieee.Datum.opposite := by
  cases d with
  | nan s f => exact Or.inr (by cases e <;> rfl)
  | infinity s =>
    refine Or.inr ?_
    cases e with
    | nan t g => rfl
    | number t n j => rfl
    | infinity t => cases s <;> cases t <;> rfl
  | number s m i =>
    cases e with
    | nan t g => exact Or.inr rfl
    | infinity t => exact Or.inr rfl
    | number t n j =>
      simp only [Ieee.Datum.sum, Ieee.Datum.opposite, signed_opp, Option.map_some]
      generalize Ieee.signed s m _ = x
      generalize Ieee.signed t n _ = y
      by_cases h : x + y = 0
      · exact Or.inl ⟨_, _, by rw [h]; rfl⟩
      · refine Or.inr ?_
        rw [if_neg h, if_neg (by omega)]
        congr 2
        · by_cases hlt : x + y < 0
          · rw [decide_eq_true hlt, decide_eq_false (by omega)]; rfl
          · rw [decide_eq_false hlt, decide_eq_true (by omega)]; rfl
        · omega

theorem fsum_comm (a b : Nat) : fsum b a = fsum a b := by unfold fsum Ieee.Format.add; rw [sum_comm]
theorem fmul_comm (a b : Nat) : fmul b a = fmul a b := by unfold fmul Ieee.Format.mul; rw [product_comm]
theorem on_opp {d : Option Ieee.Datum} (h : ∀ r, d = some r → r.isNaN = false) :
    (((d.map Ieee.Datum.opposite).map Ieee.single.write).getD 2143289344) = on (tn ((d.map Ieee.single.write).getD 2143289344)) := by
  cases d with
  | none => rfl
  | some r =>
    have hr := h r rfl
    have ho := write_ok r hr
    show Ieee.single.write r.opposite = on (tn (Ieee.single.write r))
    rw [write_opp r hr]
    have := ok_tn (Ieee.single.write r) (write_lt32 r)
    rw [ho] at this
    simp [on, this]
theorem fmul_opp_l (a b : Nat) (h : a < 4294967296) : fmul (tn a) b = on (tn (fmul a b)) := by
  unfold fmul Ieee.Format.mul
  rw [read_tn a h, product_opp]
  exact on_opp fun r hr => product_not_nan hr
theorem fmul_opp_r (a b : Nat) (h : b < 4294967296) : fmul a (tn b) = on (tn (fmul a b)) := by
  rw [fmul_comm (tn b) a, fmul_opp_l b a h, fmul_comm a b]
theorem fdiv_opp_l (a b : Nat) (h : a < 4294967296) : fdiv (tn a) b = on (tn (fdiv a b)) := by
  unfold fdiv Ieee.Format.div
  rw [read_tn a h, quotient_opp_l]
  exact on_opp fun r hr => quotient_not_nan hr
theorem fdiv_opp_r (a b : Nat) (h : b < 4294967296) : fdiv a (tn b) = on (tn (fdiv a b)) := by
  unfold fdiv Ieee.Format.div
  rw [read_tn b h, quotient_opp_r]
  exact on_opp fun r hr => quotient_not_nan hr
theorem fsum_opp (a b : Nat) (ha : a < 4294967296) (hb : b < 4294967296) : fsum a b % 2147483648 = 0 ∨ fsum (tn a) (tn b) = on (tn (fsum a b)) := by
  unfold fsum Ieee.Format.add
  rw [read_tn a ha, read_tn b hb]
  rcases sum_opp (Ieee.single.read a) (Ieee.single.read b) with ⟨s, i, h⟩ | h
  · rw [h]
    refine Or.inl ?_
    show Ieee.single.word s 0 % 2147483648 = 0
    exact word_mod s 0 (by decide)
  · rw [h]
    exact Or.inr (on_opp fun r hr => sum_not_nan hr)

set_option maxRecDepth 100000 in
set_option maxHeartbeats 2000000 in
theorem single_signs (a b : Nat) (w : World) (ha : a < 4294967296) (hb : b < 4294967296) :
    Calls Try.prog 5 #[.int .u32 a, .int .u32 b] w fun e w' => e = .returned (.bool true) ∧ ∃ m, w' = w.drewN m := by
  have c1 := fun w => sum_any a b w
  have c1' := fun w => sum_any b a w
  have c1t := fun w => sum_any a (tn b) w
  have c1o := fun w => sum_any (tn a) (tn b) w
  have c2 := fun w => rest_any a b w hb
  have c3 := fun w => prod_any a b w
  have c3' := fun w => prod_any b a w
  have c3a := fun w => prod_any (tn a) b w
  have c3b := fun w => prod_any a (tn b) w
  have c4 := fun w => ratio_any a b w
  have c4a := fun w => ratio_any (tn a) b w
  have c4b := fun w => ratio_any a (tn b) w
  rw [fsum_comm] at c1'
  rw [fmul_comm] at c3'
  rw [fmul_opp_l a b ha] at c3a
  rw [fmul_opp_r a b hb] at c3b
  rw [fdiv_opp_l a b ha] at c4a
  rw [fdiv_opp_r a b hb] at c4b
  have t1 := fun w => turned_any a w ha
  have t2 := fun w => turned_any b w hb
  have t3 := fun w => turned_any (fmul a b) w (fmul_lt _ _)
  have t4 := fun w => turned_any (fdiv a b) w (fdiv_lt _ _)
  have t5 := fun w => turned_any (fsum a b) w (fsum_lt _ _)
  have o3 := fun w => one_any (tn (fmul a b)) w (tn_lt (fmul_lt _ _))
  have o4 := fun w => one_any (tn (fdiv a b)) w (tn_lt (fdiv_lt _ _))
  have o5 := fun w => one_any (tn (fsum a b)) w (tn_lt (fsum_lt _ _))
  have z1 := fun w => awake_any w
  have hand := b_and (fsum a b) (fsum_lt _ _)
  have ho := fsum_opp a b ha hb
  generalize on (tn (fmul a b)) = P1 at c3a c3b o3
  generalize tn (fmul a b) = P2 at t3 o3
  generalize fmul a b = P at c3 c3' t3
  generalize on (tn (fdiv a b)) = Q1 at c4a c4b o4
  generalize tn (fdiv a b) = Q2 at t4 o4
  generalize fdiv a b = Q at c4 t4
  by_cases hz : fsum a b % 2147483648 = 0
  · rw [hz] at hand
    clear ho o5 t5 c1o
    generalize fsum a b = S at c1 c1' hand hz
    generalize fsum a (tn b) = R at c1t c2
    go_enter Try.func5, Try.ntmps5
    go_wp2_with (first
      | (go_at_call 11; (first | with_reducible refine (c1 _).mono ?_ | with_reducible refine (c1' _).mono ?_ | with_reducible refine (c1t _).mono ?_); rintro e wq ⟨rfl, m, hq⟩; subst wq)
      | (go_at_call 19; (first | with_reducible refine (c2 _).mono ?_); rintro e wq ⟨rfl, m, hq⟩; subst wq)
      | (go_at_call 12; (first | with_reducible refine (c3 _).mono ?_ | with_reducible refine (c3' _).mono ?_ | with_reducible refine (c3a _).mono ?_ | with_reducible refine (c3b _).mono ?_); rintro e wq ⟨rfl, m, hq⟩; subst wq)
      | (go_at_call 13; (first | with_reducible refine (c4 _).mono ?_ | with_reducible refine (c4a _).mono ?_ | with_reducible refine (c4b _).mono ?_); rintro e wq ⟨rfl, m, hq⟩; subst wq)
      | (go_at_call 22; (first | with_reducible refine (t1 _).mono ?_ | with_reducible refine (t2 _).mono ?_ | with_reducible refine (t3 _).mono ?_ | with_reducible refine (t4 _).mono ?_); rintro e wq ⟨rfl, hq⟩; subst wq)
      | (go_at_call 18; (first | with_reducible refine (o3 _).mono ?_ | with_reducible refine (o4 _).mono ?_); rintro e wq ⟨rfl, hq⟩; subst wq)
      | (go_at_call 6; (first | with_reducible refine (z1 _).mono ?_); rintro e wq ⟨rfl, m, hq⟩; subst wq))
    go_ret
    exact ⟨rfl, _, rfl⟩
  · have ho := ho.resolve_left hz
    rw [ho] at c1o
    have g1 : (((fsum a b % 2147483648 : Nat) : Int) == 0) = false := by simp; omega
    clear ho
    generalize fsum a (tn b) = R at c1t c2
    generalize on (tn (fsum a b)) = S1 at c1o o5
    generalize tn (fsum a b) = S2 at t5 o5
    generalize fsum a b = S at c1 c1' hand hz t5 g1
    go_enter Try.func5, Try.ntmps5
    go_wp2_with (first
      | (go_at_call 11; (first | with_reducible refine (c1 _).mono ?_ | with_reducible refine (c1' _).mono ?_ | with_reducible refine (c1t _).mono ?_ | with_reducible refine (c1o _).mono ?_); rintro e wq ⟨rfl, m, hq⟩; subst wq)
      | (go_at_call 19; (first | with_reducible refine (c2 _).mono ?_); rintro e wq ⟨rfl, m, hq⟩; subst wq)
      | (go_at_call 12; (first | with_reducible refine (c3 _).mono ?_ | with_reducible refine (c3' _).mono ?_ | with_reducible refine (c3a _).mono ?_ | with_reducible refine (c3b _).mono ?_); rintro e wq ⟨rfl, m, hq⟩; subst wq)
      | (go_at_call 13; (first | with_reducible refine (c4 _).mono ?_ | with_reducible refine (c4a _).mono ?_ | with_reducible refine (c4b _).mono ?_); rintro e wq ⟨rfl, m, hq⟩; subst wq)
      | (go_at_call 22; (first | with_reducible refine (t1 _).mono ?_ | with_reducible refine (t2 _).mono ?_ | with_reducible refine (t3 _).mono ?_ | with_reducible refine (t4 _).mono ?_ | with_reducible refine (t5 _).mono ?_); rintro e wq ⟨rfl, hq⟩; subst wq)
      | (go_at_call 18; (first | with_reducible refine (o3 _).mono ?_ | with_reducible refine (o4 _).mono ?_ | with_reducible refine (o5 _).mono ?_); rintro e wq ⟨rfl, hq⟩; subst wq)
      | (go_at_call 6; (first | with_reducible refine (z1 _).mono ?_); rintro e wq ⟨rfl, m, hq⟩; subst wq))
    go_ret
    exact ⟨rfl, _, rfl⟩
end Go.Proofs.Ytkagelpgickmmaa
