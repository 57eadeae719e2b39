import Derived.Test.YtembengdijhfpaaSFin
namespace Go.Proofs.Ytembengdijhfpaa
open Go.RowKit

theorem fof_facts (n : Int) (hn : n.natAbs ≤ 16777216) : fof n % 2147483648 < 2139095040 ∧ sn (fof n) = decide (n < 0) ∧ sval (fof n) = n * (2 ^ 149 : Nat) ∧ val (fof n % 2147483648) = n.natAbs * 2 ^ 149 := by
  obtain ⟨r, e, v, l⟩ := fof_exact n hn
  obtain ⟨f1, f2, f3, f4⟩ := word_facts (decide (n < 0)) r (by omega)
  rw [e, f2, f3, f4, v]
  refine ⟨l, rfl, ?_, rfl⟩
  by_cases h : n < 0
  · rw [decide_eq_true h]; simp only [if_true]
    rw [Int.natCast_mul, ← Int.neg_mul, show -((n.natAbs : Nat) : Int) = n by omega]
  · rw [decide_eq_false h]; simp only [Bool.false_eq_true, if_false]
    rw [Int.natCast_mul, show ((n.natAbs : Nat) : Int) = n by omega]
theorem sum_of (n m : Int) (hn : n.natAbs ≤ 16777216) (hm : m.natAbs ≤ 16777216) : fsum (fof n) (fof m) = fof (n + m) := by
  obtain ⟨a1, a2, a3, -⟩ := fof_facts n hn
  obtain ⟨b1, b2, b3, -⟩ := fof_facts m hm
  obtain ⟨neg, r, e, hr, h1, h2⟩ := fsum_fin (fof n) (fof m) a1 b1
  obtain ⟨r', e', hr'⟩ := fof_near (n + m)
  rw [a3, b3, ← Int.add_mul] at hr h1 h2
  rw [Int.natAbs_mul, Int.natAbs_natCast] at hr
  have := hr.unique (by decide) hr'
  subst this
  rw [e, e']
  congr 1
  have hp : (0 : Int) < (2 ^ 149 : Nat) := by decide
  by_cases hz : n + m = 0
  · rw [h2 (by rw [hz, Int.zero_mul]), a2, b2, decide_eq_false (show ¬ n + m < 0 by omega)]
    by_cases hn0 : n < 0
    · rw [decide_eq_false (show ¬ m < 0 by omega), Bool.and_false]
    · rw [decide_eq_false hn0, Bool.false_and]
  · rw [h1 (fun h => by rcases Int.mul_eq_zero.1 h with h | h; exact hz h; omega)]
    apply decide_eq_decide.2
    constructor
    · intro h
      apply Int.lt_of_not_ge
      intro hge
      have := Int.mul_nonneg hge (Int.le_of_lt hp)
      omega
    · intro h; exact Int.mul_neg_of_neg_of_pos h hp
theorem prod_of (n m : Int) (hn : n.natAbs ≤ 4096) (hm : m.natAbs ≤ 4096) : fstand (fmul (fof n) (fof m)) (fof (n * m)) = 3 := by
  obtain ⟨a1, a2, -, a4⟩ := fof_facts n (by omega)
  obtain ⟨b1, b2, -, b4⟩ := fof_facts m (by omega)
  obtain ⟨r, e, hr⟩ := fmul_fin (fof n) (fof m) a1 b1
  have hnm : (n * m).natAbs ≤ 16777216 := by
    rw [Int.natAbs_mul]; exact Nat.le_trans (Nat.mul_le_mul hn hm) (by decide)
  obtain ⟨r', e', v', l'⟩ := fof_exact (n * m) hnm
  rw [a4, b4, a2, b2] at *
  have hv : n.natAbs * 2 ^ 149 * (m.natAbs * 2 ^ 149) = vl 8388608 r' * 2 ^ 149 := by
    rw [← val_vl, v', Int.natAbs_mul, Nat.mul_assoc, Nat.mul_comm (2 ^ 149), ← Nat.mul_assoc, ← Nat.mul_assoc]
  rw [hv] at hr
  have := hr.unique (by decide) (near_self 8388608 149 r' (by decide))
  subst this
  rw [Nat.min_eq_left (Nat.le_of_lt l')] at e
  rw [e, e']
  obtain ⟨f1, f2, -⟩ := word_facts (decide (n < 0) ^^ decide (m < 0)) r (by omega)
  obtain ⟨g1, g2, -⟩ := word_facts (decide (n * m < 0)) r (by omega)
  rw [fstand_key _ _ f1 g1 (mod_ok (by rw [f2]; omega)) (mod_ok (by rw [g2]; omega))]
  have hk : key (Ieee.single.word (decide (n < 0) ^^ decide (m < 0)) r) = key (Ieee.single.word (decide (n * m < 0)) r) := by
    rw [key_word _ _ (by omega), key_word _ _ (by omega)]
    by_cases hz : n * m = 0
    · have : val r = 0 := by rw [v', hz]; rfl
      have hr0 : r = 0 := val_inj (r := r) (s := 0) (by rw [this]; rfl)
      subst hr0
      split <;> split <;> rfl
    · have hn0 : n ≠ 0 := fun h => hz (by rw [h, Int.zero_mul])
      have hm0 : m ≠ 0 := fun h => hz (by rw [h, Int.mul_zero])
      have : (decide (n < 0) ^^ decide (m < 0)) = decide (n * m < 0) := by
        by_cases h1 : n < 0 <;> by_cases h2 : m < 0
        · have := Int.mul_pos_of_neg_of_neg h1 h2
          rw [decide_eq_true h1, decide_eq_true h2, decide_eq_false (by omega)]; rfl
        · have := Int.mul_neg_of_neg_of_pos h1 (show 0 < m by omega)
          rw [decide_eq_true h1, decide_eq_false h2, decide_eq_true this]; rfl
        · have := Int.mul_neg_of_pos_of_neg (show 0 < n by omega) h2
          rw [decide_eq_false h1, decide_eq_true h2, decide_eq_true this]; rfl
        · have := Int.mul_pos (show 0 < n by omega) (show 0 < m by omega)
          rw [decide_eq_false h1, decide_eq_false h2, decide_eq_false (by omega)]; rfl
      rw [this]
  rw [hk, if_neg (by omega), if_pos rfl]
theorem tmod_abs (x n : Int) (hn : 0 < n) : -n < x.tmod n ∧ x.tmod n < n := by
  have h1 := Int.tmod_lt_of_pos x hn
  have h2 := Int.lt_tmod_of_pos x hn
  omega

set_option maxRecDepth 100000 in
set_option maxHeartbeats 2000000 in
theorem single_whole (a b : Int) (w : World) (_ : -2147483648 ≤ a) (_ : a ≤ 2147483647) (_ : -2147483648 ≤ b) (_ : b ≤ 2147483647) :
    Calls Try.prog 5 #[.int .i32 a, .int .i32 b] w fun e w' => e = .returned (.bool true) ∧ ∃ m, w' = w.drewN m := by
  have ta := tmod_abs a 16777217 (by decide)
  have tb := tmod_abs b 16777217 (by decide)
  have ua := tmod_abs a 4097 (by decide)
  have ub := tmod_abs b 4097 (by decide)
  have o1 := fun w => of_any (a.tmod 16777217) w
  have o2 := fun w => of_any (b.tmod 16777217) w
  have o3 := fun w => of_any (a.tmod 16777217 + b.tmod 16777217) w
  have o4 := fun w => of_any (a.tmod 4097) w
  have o5 := fun w => of_any (b.tmod 4097) w
  have o6 := fun w => of_any (a.tmod 4097 * b.tmod 4097) w
  have t1 := fun w => toward_of (a.tmod 16777217) (by omega) w
  have t2 := fun w => toward_of (b.tmod 16777217) (by omega) w
  have s1 := fun w => sum_any (fof (a.tmod 16777217)) (fof (b.tmod 16777217)) w
  rw [sum_of _ _ (by omega) (by omega)] at s1
  have p1 := fun w => prod_any (fof (a.tmod 4097)) (fof (b.tmod 4097)) w
  have q1 := fun w => stand_any (fmul (fof (a.tmod 4097)) (fof (b.tmod 4097))) (fof (a.tmod 4097 * b.tmod 4097)) w
  rw [prod_of _ _ (by omega) (by omega)] at q1
  have hmul : (a.tmod 4097 * b.tmod 4097).natAbs ≤ 16777216 := by
    rw [Int.natAbs_mul]; exact Nat.le_trans (Nat.mul_le_mul (show (a.tmod 4097).natAbs ≤ 4096 by omega) (show (b.tmod 4097).natAbs ≤ 4096 by omega)) (by decide)
  have hw1 : -2147483648 ≤ a.tmod 4097 * b.tmod 4097 ∧ a.tmod 4097 * b.tmod 4097 ≤ 2147483647 := by omega
  by_cases h1 : a.tmod 16777217 + b.tmod 16777217 ≤ 16777216 <;> by_cases h2 : -16777216 ≤ a.tmod 16777217 + b.tmod 16777217
  · go_enter Try.func5, Try.ntmps5
    go_wp2_with (first | (go_at_call 17; (first | with_reducible refine (o1 _).mono ?_ | with_reducible refine (o2 _).mono ?_ | with_reducible refine (o3 _).mono ?_ | with_reducible refine (o4 _).mono ?_ | with_reducible refine (o5 _).mono ?_ | with_reducible refine (o6 _).mono ?_); rintro e wq ⟨rfl, hq⟩; subst wq) | (go_at_call 18; (first | with_reducible refine (t1 _).mono ?_ | with_reducible refine (t2 _).mono ?_); rintro e wq ⟨rfl, hq⟩; subst wq) | (go_at_call 12; (first | with_reducible refine (s1 _).mono ?_); rintro e wq ⟨rfl, m, hq⟩; subst wq) | (go_at_call 14; (first | with_reducible refine (p1 _).mono ?_); rintro e wq ⟨rfl, m, hq⟩; subst wq) | (go_at_call 10; (first | with_reducible refine (q1 _).mono ?_); rintro e wq ⟨rfl, hq⟩; subst wq))
    go_ret
    exact ⟨rfl, _, rfl⟩
  · go_enter Try.func5, Try.ntmps5
    go_wp2_with (first | (go_at_call 17; (first | with_reducible refine (o1 _).mono ?_ | with_reducible refine (o2 _).mono ?_ | with_reducible refine (o3 _).mono ?_ | with_reducible refine (o4 _).mono ?_ | with_reducible refine (o5 _).mono ?_ | with_reducible refine (o6 _).mono ?_); rintro e wq ⟨rfl, hq⟩; subst wq) | (go_at_call 18; (first | with_reducible refine (t1 _).mono ?_ | with_reducible refine (t2 _).mono ?_); rintro e wq ⟨rfl, hq⟩; subst wq) | (go_at_call 12; (first | with_reducible refine (s1 _).mono ?_); rintro e wq ⟨rfl, m, hq⟩; subst wq) | (go_at_call 14; (first | with_reducible refine (p1 _).mono ?_); rintro e wq ⟨rfl, m, hq⟩; subst wq) | (go_at_call 10; (first | with_reducible refine (q1 _).mono ?_); rintro e wq ⟨rfl, hq⟩; subst wq))
    go_ret
    exact ⟨rfl, _, rfl⟩
  · go_enter Try.func5, Try.ntmps5
    go_wp2_with (first | (go_at_call 17; (first | with_reducible refine (o1 _).mono ?_ | with_reducible refine (o2 _).mono ?_ | with_reducible refine (o3 _).mono ?_ | with_reducible refine (o4 _).mono ?_ | with_reducible refine (o5 _).mono ?_ | with_reducible refine (o6 _).mono ?_); rintro e wq ⟨rfl, hq⟩; subst wq) | (go_at_call 18; (first | with_reducible refine (t1 _).mono ?_ | with_reducible refine (t2 _).mono ?_); rintro e wq ⟨rfl, hq⟩; subst wq) | (go_at_call 12; (first | with_reducible refine (s1 _).mono ?_); rintro e wq ⟨rfl, m, hq⟩; subst wq) | (go_at_call 14; (first | with_reducible refine (p1 _).mono ?_); rintro e wq ⟨rfl, m, hq⟩; subst wq) | (go_at_call 10; (first | with_reducible refine (q1 _).mono ?_); rintro e wq ⟨rfl, hq⟩; subst wq))
    go_ret
    exact ⟨rfl, _, rfl⟩
  · exfalso; omega
end Go.Proofs.Ytembengdijhfpaa
