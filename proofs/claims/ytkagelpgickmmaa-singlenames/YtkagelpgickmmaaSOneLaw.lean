import Derived.Test.YtkagelpgickmmaaSRest
namespace Go.Proofs.Ytkagelpgickmmaa
open Go.RowKit

theorem clean_any (a : Nat) (w : World) (h : a < 4294967296) (hc : cln a) :
    Calls Try.prog 20 #[.int .u32 a] w fun e w' => e = .returned (.bool true) ∧ w' = w := by
  by_cases hn : a = 2143289344
  · subst hn
    go_enter Try.func20, Try.ntmps20
    go_wp2
    go_ret
    exact ⟨rfl, rfl⟩
  · have ho : ok a = true := by rcases hc with e | e; exact absurd e hn; exact e
    have g1 : ((a : Int) == 2143289344) = false := by simp; omega
    go_enter Try.func20, Try.ntmps20
    go_wp2_with (go_at_call 21; refine (lnone_any _ _ h).mono ?_; rw [ho]; rintro e wq ⟨rfl, hq⟩; subst wq)
    go_ret
    exact ⟨rfl, rfl⟩

theorem on_sum (a b : Nat) : fsum (on a) (on b) = fsum a b := by
  unfold on
  by_cases ha : ok a = true <;> by_cases hb : ok b = true
  · rw [if_pos ha, if_pos hb]
  · have hb' : ok b = false := by simpa using hb
    rw [if_pos ha, if_neg hb, fsum_nan (Or.inr hb'), fsum_nan (Or.inr (by decide))]
  · have ha' : ok a = false := by simpa using ha
    rw [if_neg ha, fsum_nan (Or.inl ha'), fsum_nan (Or.inl (by decide))]
  · have ha' : ok a = false := by simpa using ha
    rw [if_neg ha, fsum_nan (Or.inl ha'), fsum_nan (Or.inl (by decide))]
theorem on_rest (a b : Nat) (h : b < 4294967296) : fsum (on a) (tn (on b)) = fsum a (tn b) := by
  have hob := ok_tn b h
  unfold on
  by_cases ha : ok a = true <;> by_cases hb : ok b = true
  · rw [if_pos ha, if_pos hb]
  · have hb' : ok b = false := by simpa using hb
    rw [hb'] at hob
    rw [if_pos ha, if_neg hb, fsum_nan (Or.inr hob), fsum_nan (Or.inr (by decide))]
  · have ha' : ok a = false := by simpa using ha
    rw [if_neg ha, fsum_nan (Or.inl ha'), fsum_nan (Or.inl (by decide))]
  · have ha' : ok a = false := by simpa using ha
    rw [if_neg ha, fsum_nan (Or.inl ha'), fsum_nan (Or.inl (by decide))]
theorem on_mul (a b : Nat) : fmul (on a) (on b) = fmul a b := by
  unfold on
  by_cases ha : ok a = true <;> by_cases hb : ok b = true
  · rw [if_pos ha, if_pos hb]
  · have hb' : ok b = false := by simpa using hb
    rw [if_pos ha, if_neg hb, fmul_nan (Or.inr hb'), fmul_nan (Or.inr (by decide))]
  · have ha' : ok a = false := by simpa using ha
    rw [if_neg ha, fmul_nan (Or.inl ha'), fmul_nan (Or.inl (by decide))]
  · have ha' : ok a = false := by simpa using ha
    rw [if_neg ha, fmul_nan (Or.inl ha'), fmul_nan (Or.inl (by decide))]
theorem on_div (a b : Nat) : fdiv (on a) (on b) = fdiv a b := by
  unfold on
  by_cases ha : ok a = true <;> by_cases hb : ok b = true
  · rw [if_pos ha, if_pos hb]
  · have hb' : ok b = false := by simpa using hb
    rw [if_pos ha, if_neg hb, fdiv_nan (Or.inr hb'), fdiv_nan (Or.inr (by decide))]
  · have ha' : ok a = false := by simpa using ha
    rw [if_neg ha, fdiv_nan (Or.inl ha'), fdiv_nan (Or.inl (by decide))]
  · have ha' : ok a = false := by simpa using ha
    rw [if_neg ha, fdiv_nan (Or.inl ha'), fdiv_nan (Or.inl (by decide))]
theorem on_root (a : Nat) : froot (on a) = froot a := by
  unfold on
  by_cases ha : ok a = true
  · rw [if_pos ha]
  · have ha' : ok a = false := by simpa using ha
    rw [if_neg ha, froot_nan ha', froot_nan (by decide)]
theorem stand_self (a : Nat) : fstand a a = if ok a = true then 3 else 1 := by
  unfold fstand
  rw [order_self]
  cases ok a <;> rfl

set_option maxRecDepth 100000 in
set_option maxHeartbeats 2000000 in
theorem single_one (a b : Nat) (w : World) (ha : a < 4294967296) (hb : b < 4294967296) :
    Calls Try.prog 4 #[.int .u32 a, .int .u32 b] w fun e w' => e = .returned (.bool true) ∧ ∃ m, w' = w.drewN m := by
  have c1 := fun w => sum_any a b w
  have c2 := fun w => rest_any a b w hb
  have c3 := fun w => prod_any a b w
  have c4 := fun w => ratio_any a b w
  have c5 := fun w => root_any a w (rfine_all a)
  have d1 := fun w => sum_any (on a) (on b) w
  have d2 := fun w => rest_any (on a) (on b) w (on_lt hb)
  have d3 := fun w => prod_any (on a) (on b) w
  have d4 := fun w => ratio_any (on a) (on b) w
  have d5 := fun w => root_any (on a) w (rfine_all _)
  rw [on_sum] at d1
  rw [on_rest a b hb] at d2
  rw [on_mul] at d3
  rw [on_div] at d4
  rw [on_root] at d5
  have k1 := fun w => clean_any (fsum a b) w (fsum_lt _ _) (fsum_cln _ _)
  have k2 := fun w => clean_any (fsum a (tn b)) w (fsum_lt _ _) (fsum_cln _ _)
  have k3 := fun w => clean_any (fmul a b) w (fmul_lt _ _) (fmul_cln _ _)
  have k4 := fun w => clean_any (fdiv a b) w (fdiv_lt _ _) (fdiv_cln _ _)
  have k5 := fun w => clean_any (froot a) w (froot_lt _) (froot_cln _)
  have k6 := fun w => clean_any (fab a) w (fab_lt ha) (fab_cln ha)
  have k7 := fun w => clean_any (fbe a) w (fbe_lt ha) (fbe_cln ha)
  have k0 : ∀ w, Calls Try.prog 20 #[.int .u32 (2143289344 : Int)] w fun e w' => e = .returned (.bool true) ∧ w' = w := fun w => clean_any 2143289344 w (by decide) (Or.inl rfl)
  have n1 := fun w => lnone_any a w ha
  have n2 := fun w => lnone_any b w hb
  have o1 := fun w => one_any a w ha
  have o2 := fun w => one_any b w hb
  have s1 := fun w => stand_any a a w
  have s2 := fun w => stand_any a b w
  have a1 := fun w => above_any a w ha
  have b1 := fun w => below_any a w ha
  have z1 := fun w => awake_any w
  rw [stand_self] at s1
  have m1 : (ok a = false ∨ ok b = false) → fsum a b = 2143289344 ∧ fsum a (tn b) = 2143289344 ∧ fmul a b = 2143289344 ∧ fdiv a b = 2143289344 ∧ fstand a b = 1 := by
    intro h
    refine ⟨fsum_nan h, fsum_nan (by rw [ok_tn b hb]; exact h), fmul_nan h, fdiv_nan h, fstand_nan h⟩
  generalize fsum a b = S at c1 d1 k1 m1
  generalize fsum a (tn b) = R at c2 d2 k2 m1
  generalize fmul a b = P at c3 d3 k3 m1
  generalize fdiv a b = Q at c4 d4 k4 m1
  generalize froot a = T at c5 d5 k5
  generalize fab a = A at a1 k6
  generalize fbe a = B at b1 k7
  generalize fstand a b = F at s2 m1
  generalize on a = X at d1 d2 d3 d4 d5 o1
  generalize on b = Y at d1 d2 d3 d4 o2
  cases hoa : ok a <;> cases hob : ok b <;> rw [hoa] at n1 s1 m1 <;> rw [hob] at n2 m1
  · obtain ⟨rfl, rfl, rfl, rfl, rfl⟩ := m1 (Or.inl rfl)
    clear m1
    go_enter Try.func4, Try.ntmps4
    go_wp2_with (first
      | (go_at_call 11; (first | with_reducible refine (c1 _).mono ?_ | with_reducible refine (d1 _).mono ?_); rintro e wq ⟨rfl, m, hq⟩; subst wq)
      | (go_at_call 19; (first | with_reducible refine (c2 _).mono ?_ | with_reducible refine (d2 _).mono ?_); rintro e wq ⟨rfl, m, hq⟩; subst wq)
      | (go_at_call 12; (first | with_reducible refine (c3 _).mono ?_ | with_reducible refine (d3 _).mono ?_); rintro e wq ⟨rfl, m, hq⟩; subst wq)
      | (go_at_call 13; (first | with_reducible refine (c4 _).mono ?_ | with_reducible refine (d4 _).mono ?_); rintro e wq ⟨rfl, m, hq⟩; subst wq)
      | (go_at_call 14; (first | with_reducible refine (c5 _).mono ?_ | with_reducible refine (d5 _).mono ?_); rintro e wq ⟨rfl, m, hq⟩; subst wq)
      | (go_at_call 20; (first | with_reducible refine (k0 _).mono ?_ | with_reducible refine (k1 _).mono ?_ | with_reducible refine (k2 _).mono ?_ | with_reducible refine (k3 _).mono ?_ | with_reducible refine (k4 _).mono ?_ | with_reducible refine (k5 _).mono ?_ | with_reducible refine (k6 _).mono ?_ | with_reducible refine (k7 _).mono ?_); rintro e wq ⟨rfl, hq⟩; subst wq)
      | (go_at_call 21; (first | with_reducible refine (n1 _).mono ?_ | with_reducible refine (n2 _).mono ?_); rintro e wq ⟨rfl, hq⟩; subst wq)
      | (go_at_call 18; (first | with_reducible refine (o1 _).mono ?_ | with_reducible refine (o2 _).mono ?_); rintro e wq ⟨rfl, hq⟩; subst wq)
      | (go_at_call 17; (first | with_reducible refine (s1 _).mono ?_ | with_reducible refine (s2 _).mono ?_); rintro e wq ⟨rfl, hq⟩; subst wq)
      | (go_at_call 9; (first | with_reducible refine (a1 _).mono ?_); rintro e wq ⟨rfl, hq⟩; subst wq)
      | (go_at_call 10; (first | with_reducible refine (b1 _).mono ?_); rintro e wq ⟨rfl, hq⟩; subst wq)
      | (go_at_call 6; (first | with_reducible refine (z1 _).mono ?_); rintro e wq ⟨rfl, m, hq⟩; subst wq))
    go_ret
    exact ⟨rfl, _, rfl⟩
  · obtain ⟨rfl, rfl, rfl, rfl, rfl⟩ := m1 (Or.inl rfl)
    clear m1
    go_enter Try.func4, Try.ntmps4
    go_wp2_with (first
      | (go_at_call 11; (first | with_reducible refine (c1 _).mono ?_ | with_reducible refine (d1 _).mono ?_); rintro e wq ⟨rfl, m, hq⟩; subst wq)
      | (go_at_call 19; (first | with_reducible refine (c2 _).mono ?_ | with_reducible refine (d2 _).mono ?_); rintro e wq ⟨rfl, m, hq⟩; subst wq)
      | (go_at_call 12; (first | with_reducible refine (c3 _).mono ?_ | with_reducible refine (d3 _).mono ?_); rintro e wq ⟨rfl, m, hq⟩; subst wq)
      | (go_at_call 13; (first | with_reducible refine (c4 _).mono ?_ | with_reducible refine (d4 _).mono ?_); rintro e wq ⟨rfl, m, hq⟩; subst wq)
      | (go_at_call 14; (first | with_reducible refine (c5 _).mono ?_ | with_reducible refine (d5 _).mono ?_); rintro e wq ⟨rfl, m, hq⟩; subst wq)
      | (go_at_call 20; (first | with_reducible refine (k0 _).mono ?_ | with_reducible refine (k1 _).mono ?_ | with_reducible refine (k2 _).mono ?_ | with_reducible refine (k3 _).mono ?_ | with_reducible refine (k4 _).mono ?_ | with_reducible refine (k5 _).mono ?_ | with_reducible refine (k6 _).mono ?_ | with_reducible refine (k7 _).mono ?_); rintro e wq ⟨rfl, hq⟩; subst wq)
      | (go_at_call 21; (first | with_reducible refine (n1 _).mono ?_ | with_reducible refine (n2 _).mono ?_); rintro e wq ⟨rfl, hq⟩; subst wq)
      | (go_at_call 18; (first | with_reducible refine (o1 _).mono ?_ | with_reducible refine (o2 _).mono ?_); rintro e wq ⟨rfl, hq⟩; subst wq)
      | (go_at_call 17; (first | with_reducible refine (s1 _).mono ?_ | with_reducible refine (s2 _).mono ?_); rintro e wq ⟨rfl, hq⟩; subst wq)
      | (go_at_call 9; (first | with_reducible refine (a1 _).mono ?_); rintro e wq ⟨rfl, hq⟩; subst wq)
      | (go_at_call 10; (first | with_reducible refine (b1 _).mono ?_); rintro e wq ⟨rfl, hq⟩; subst wq)
      | (go_at_call 6; (first | with_reducible refine (z1 _).mono ?_); rintro e wq ⟨rfl, m, hq⟩; subst wq))
    go_ret
    exact ⟨rfl, _, rfl⟩
  · obtain ⟨rfl, rfl, rfl, rfl, rfl⟩ := m1 (Or.inr rfl)
    clear m1
    go_enter Try.func4, Try.ntmps4
    go_wp2_with (first
      | (go_at_call 11; (first | with_reducible refine (c1 _).mono ?_ | with_reducible refine (d1 _).mono ?_); rintro e wq ⟨rfl, m, hq⟩; subst wq)
      | (go_at_call 19; (first | with_reducible refine (c2 _).mono ?_ | with_reducible refine (d2 _).mono ?_); rintro e wq ⟨rfl, m, hq⟩; subst wq)
      | (go_at_call 12; (first | with_reducible refine (c3 _).mono ?_ | with_reducible refine (d3 _).mono ?_); rintro e wq ⟨rfl, m, hq⟩; subst wq)
      | (go_at_call 13; (first | with_reducible refine (c4 _).mono ?_ | with_reducible refine (d4 _).mono ?_); rintro e wq ⟨rfl, m, hq⟩; subst wq)
      | (go_at_call 14; (first | with_reducible refine (c5 _).mono ?_ | with_reducible refine (d5 _).mono ?_); rintro e wq ⟨rfl, m, hq⟩; subst wq)
      | (go_at_call 20; (first | with_reducible refine (k0 _).mono ?_ | with_reducible refine (k1 _).mono ?_ | with_reducible refine (k2 _).mono ?_ | with_reducible refine (k3 _).mono ?_ | with_reducible refine (k4 _).mono ?_ | with_reducible refine (k5 _).mono ?_ | with_reducible refine (k6 _).mono ?_ | with_reducible refine (k7 _).mono ?_); rintro e wq ⟨rfl, hq⟩; subst wq)
      | (go_at_call 21; (first | with_reducible refine (n1 _).mono ?_ | with_reducible refine (n2 _).mono ?_); rintro e wq ⟨rfl, hq⟩; subst wq)
      | (go_at_call 18; (first | with_reducible refine (o1 _).mono ?_ | with_reducible refine (o2 _).mono ?_); rintro e wq ⟨rfl, hq⟩; subst wq)
      | (go_at_call 17; (first | with_reducible refine (s1 _).mono ?_ | with_reducible refine (s2 _).mono ?_); rintro e wq ⟨rfl, hq⟩; subst wq)
      | (go_at_call 9; (first | with_reducible refine (a1 _).mono ?_); rintro e wq ⟨rfl, hq⟩; subst wq)
      | (go_at_call 10; (first | with_reducible refine (b1 _).mono ?_); rintro e wq ⟨rfl, hq⟩; subst wq)
      | (go_at_call 6; (first | with_reducible refine (z1 _).mono ?_); rintro e wq ⟨rfl, m, hq⟩; subst wq))
    go_ret
    exact ⟨rfl, _, rfl⟩
  · clear m1
    go_enter Try.func4, Try.ntmps4
    go_wp2_with (first
      | (go_at_call 11; (first | with_reducible refine (c1 _).mono ?_ | with_reducible refine (d1 _).mono ?_); rintro e wq ⟨rfl, m, hq⟩; subst wq)
      | (go_at_call 19; (first | with_reducible refine (c2 _).mono ?_ | with_reducible refine (d2 _).mono ?_); rintro e wq ⟨rfl, m, hq⟩; subst wq)
      | (go_at_call 12; (first | with_reducible refine (c3 _).mono ?_ | with_reducible refine (d3 _).mono ?_); rintro e wq ⟨rfl, m, hq⟩; subst wq)
      | (go_at_call 13; (first | with_reducible refine (c4 _).mono ?_ | with_reducible refine (d4 _).mono ?_); rintro e wq ⟨rfl, m, hq⟩; subst wq)
      | (go_at_call 14; (first | with_reducible refine (c5 _).mono ?_ | with_reducible refine (d5 _).mono ?_); rintro e wq ⟨rfl, m, hq⟩; subst wq)
      | (go_at_call 20; (first | with_reducible refine (k0 _).mono ?_ | with_reducible refine (k1 _).mono ?_ | with_reducible refine (k2 _).mono ?_ | with_reducible refine (k3 _).mono ?_ | with_reducible refine (k4 _).mono ?_ | with_reducible refine (k5 _).mono ?_ | with_reducible refine (k6 _).mono ?_ | with_reducible refine (k7 _).mono ?_); rintro e wq ⟨rfl, hq⟩; subst wq)
      | (go_at_call 21; (first | with_reducible refine (n1 _).mono ?_ | with_reducible refine (n2 _).mono ?_); rintro e wq ⟨rfl, hq⟩; subst wq)
      | (go_at_call 18; (first | with_reducible refine (o1 _).mono ?_ | with_reducible refine (o2 _).mono ?_); rintro e wq ⟨rfl, hq⟩; subst wq)
      | (go_at_call 17; (first | with_reducible refine (s1 _).mono ?_ | with_reducible refine (s2 _).mono ?_); rintro e wq ⟨rfl, hq⟩; subst wq)
      | (go_at_call 9; (first | with_reducible refine (a1 _).mono ?_); rintro e wq ⟨rfl, hq⟩; subst wq)
      | (go_at_call 10; (first | with_reducible refine (b1 _).mono ?_); rintro e wq ⟨rfl, hq⟩; subst wq)
      | (go_at_call 6; (first | with_reducible refine (z1 _).mono ?_); rintro e wq ⟨rfl, m, hq⟩; subst wq))
    go_ret
    exact ⟨rfl, _, rfl⟩
end Go.Proofs.Ytkagelpgickmmaa
