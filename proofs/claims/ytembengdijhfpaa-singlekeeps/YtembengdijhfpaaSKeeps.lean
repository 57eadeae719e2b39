import Derived.Test.YtembengdijhfpaaSKeepsM
namespace Go.Proofs.Ytembengdijhfpaa
open Go.RowKit

theorem not_above_any (x y : Nat) (w : World) (hx : x < 4294967296) (hy : y < 4294967296) (h : na x y) :
    Calls Try.prog 11 #[.int .u32 x, .int .u32 y] w fun e w' => e = .returned (.bool true) ∧ w' = w := by
  have s1 := fun w => stand_any x y w
  have n1 := fun w => lnone_any x w hx
  have n2 := fun w => lnone_any y w hy
  cases ox : ok x
  · rw [fstand_nan (Or.inl ox)] at s1
    rw [ox] at n1
    clear n2
    go_enter Try.func11, Try.ntmps11
    go_wp2_with (first
      | (go_at_call 10; refine (s1 _).mono ?_; rintro e wq ⟨rfl, hq⟩; subst wq)
      | (go_at_call 7; refine (n1 _).mono ?_; rintro e wq ⟨rfl, hq⟩; subst wq))
    go_ret
    exact ⟨rfl, rfl⟩
  cases oy : ok y
  · rw [fstand_nan (Or.inr oy)] at s1
    rw [ox] at n1
    rw [oy] at n2
    go_enter Try.func11, Try.ntmps11
    go_wp2_with (first
      | (go_at_call 10; refine (s1 _).mono ?_; rintro e wq ⟨rfl, hq⟩; subst wq)
      | (go_at_call 7; (first | with_reducible refine (n1 _).mono ?_ | with_reducible refine (n2 _).mono ?_); rintro e wq ⟨rfl, hq⟩; subst wq))
    go_ret
    exact ⟨rfl, rfl⟩
  have hk := h ox oy
  rw [fstand_key x y hx hy ox oy] at s1
  by_cases hlt : key x < key y
  · rw [if_pos hlt] at s1
    clear n1 n2 hlt hk
    go_enter Try.func11, Try.ntmps11
    go_wp2_with (go_at_call 10; refine (s1 _).mono ?_; rintro e wq ⟨rfl, hq⟩; subst wq)
    go_ret
    exact ⟨rfl, rfl⟩
  · rw [if_neg hlt, if_pos (by omega)] at s1
    clear n1 n2 hlt hk
    go_enter Try.func11, Try.ntmps11
    go_wp2_with (go_at_call 10; refine (s1 _).mono ?_; rintro e wq ⟨rfl, hq⟩; subst wq)
    go_ret
    exact ⟨rfl, rfl⟩
/-- made wide and narrow again -/
theorem back_any (x : Nat) (w : World) (hx : x < 4294967296) :
    Calls Try.prog 15 #[.int .u64 ((if ok x = true then wide x else 9221120237041090560 : Nat) : Int)] w fun e w' => e = .returned (.int .u32 (on x)) ∧ ∃ m, w' = w.drewN m := by
  unfold on
  by_cases ox : ok x = true
  · rw [if_pos ox, if_pos ox]
    obtain ⟨e1, e2, e3⟩ := narrow_wide x hx ox
    have := narrow_any (wide x) w e2 e3
    rw [e1] at this
    exact this.mono fun e w' ⟨h1, h2⟩ => ⟨h1, 0, h2⟩
  · rw [if_neg ox, if_neg ox]
    exact narrow_nan 9221120237041090560 w (by decide +kernel)
theorem na_on {x y : Nat} (h : na x y) : na (on x) (on y) := by
  intro o1 o2
  unfold on at *
  by_cases ox : ok x = true <;> by_cases oy : ok y = true
  · rw [if_pos ox, if_pos oy]; exact h ox oy
  · rw [if_neg oy] at o2; exact absurd o2 (by decide)
  · rw [if_neg ox] at o1; exact absurd o1 (by decide)
  · rw [if_neg ox] at o1; exact absurd o1 (by decide)

set_option maxRecDepth 100000 in
set_option maxHeartbeats 2000000 in
theorem keeps_of (a b c x y : Nat) (w : World) (ha : a < 4294967296) (hb : b < 4294967296) (hc : c < 4294967296)
    (hxy : (x = a ∧ y = b ∧ fstand a b ≠ 4) ∨ (x = b ∧ y = a ∧ fstand a b = 4)) :
    Calls Try.prog 4 #[.int .u32 a, .int .u32 b, .int .u32 c] w fun e w' => e = .returned (.bool true) ∧ ∃ m, w' = w.drewN m := by
  have hx : x < 4294967296 := by omega
  have hy : y < 4294967296 := by omega
  have hna : na x y := by
    intro ox oy
    rcases hxy with ⟨rfl, rfl, h⟩ | ⟨rfl, rfl, h⟩
    · rw [fstand_key x y ha hb ox oy] at h
      split at h
      · omega
      · split at h
        · omega
        · omega
    · rw [fstand_key y x ha hb oy ox] at h
      split at h
      · omega
      · split at h
        · omega
        · omega
  have st := fun w => stand_any a b w
  have n1 := fun w => not_above_any x y w hx hy hna
  have s1 := fun w => sum_any x c w
  have s2 := fun w => sum_any y c w
  have n2 := fun w => not_above_any (fsum x c) (fsum y c) w (fsum_lt _ _) (fsum_lt _ _) (sum_keeps hx hy hc hna)
  have r1 := fun w => root_any x w (rfine_all x)
  have r2 := fun w => root_any y w (rfine_all y)
  have n3 := fun w => not_above_any (froot x) (froot y) w (froot_lt _) (froot_lt _) (root_keeps hx hy hna)
  have p1 := fun w => prod_any x c w
  have p2 := fun w => prod_any y c w
  have w1 := fun w => wide_any x w hx (wfine_all x)
  have w2 := fun w => wide_any y w hy (wfine_all y)
  have v1 := fun w => back_any x w hx
  have v2 := fun w => back_any y w hy
  generalize (if ok x = true then wide x else 9221120237041090560) = X64 at w1 v1
  generalize (if ok y = true then wide y else 9221120237041090560) = Y64 at w2 v2
  have n4 := fun w => not_above_any (on x) (on y) w (on_lt hx) (on_lt hy) (na_on hna)
  have z1 := fun w => awake_any w
  have sc : ∀ w, Calls Try.prog 10 #[.int .u32 c, .int .u32 0] w fun e w' => e = .returned (.int .u8 (fstand c 0)) ∧ w' = w := fun w => stand_any c 0 w
  have o1 := fun w => of_any (wrap32 (a : Int)) w
  have o2 := fun w => of_any (wrap32 (b : Int)) w
  have hcp : fstand c 0 = 4 → na (fmul x c) (fmul y c) := by
    intro h4
    have oc : ok c = true := by
      cases h1 : ok c
      · rw [fstand_nan (Or.inl h1)] at h4; omega
      · rfl
    rw [fstand_key c 0 hc (by decide) oc (by decide), show key 0 = 0 from rfl] at h4
    have : 0 < key c := by
      split at h4
      · omega
      · split at h4
        · omega
        · omega
    have hc2 : 0 < c ∧ c < 2147483648 := by
      by_cases h' : c < 2147483648
      · rw [key_pos h'] at this; omega
      · rw [key_neg (by omega)] at this; omega
    exact mul_keeps hx hy hc2.2 hc2.1 hna
  by_cases hlt : wrap32 (b : Int) < wrap32 (a : Int)
  · have n5 := fun w => not_above_any (fof (wrap32 (b : Int))) (fof (wrap32 (a : Int))) w (fof_lt _) (fof_lt _) (of_keeps (by omega))
    by_cases hc4 : fstand c 0 = 4
    · have n6 := fun w => not_above_any (fmul x c) (fmul y c) w (fmul_lt _ _) (fmul_lt _ _) (hcp hc4)
      rw [hc4] at sc
      clear hcp
      rcases hxy with ⟨rfl, rfl, h4⟩ | ⟨rfl, rfl, h4⟩
      · have g1 : (((fstand x y : Nat) : Int) == 4) = false := by simp; omega
        go_enter Try.func4, Try.ntmps4
        go_wp2_with (first | (go_at_call 10; (first | with_reducible refine (st _).mono ?_ | with_reducible refine (sc _).mono ?_); rintro e wq ⟨rfl, hq⟩; subst wq) | (go_at_call 11; (first | with_reducible refine (n1 _).mono ?_ | with_reducible refine (n2 _).mono ?_ | with_reducible refine (n3 _).mono ?_ | with_reducible refine (n4 _).mono ?_ | with_reducible refine (n5 _).mono ?_ | with_reducible refine (n6 _).mono ?_); rintro e wq ⟨rfl, hq⟩; subst wq) | (go_at_call 12; (first | with_reducible refine (s1 _).mono ?_ | with_reducible refine (s2 _).mono ?_); rintro e wq ⟨rfl, m, hq⟩; subst wq) | (go_at_call 13; (first | with_reducible refine (r1 _).mono ?_ | with_reducible refine (r2 _).mono ?_); rintro e wq ⟨rfl, m, hq⟩; subst wq) | (go_at_call 14; (first | with_reducible refine (p1 _).mono ?_ | with_reducible refine (p2 _).mono ?_); rintro e wq ⟨rfl, m, hq⟩; subst wq) | (go_at_call 16; (first | with_reducible refine (w1 _).mono ?_ | with_reducible refine (w2 _).mono ?_); rintro e wq ⟨rfl, hq⟩; subst wq) | (go_at_call 15; (first | with_reducible refine (v1 _).mono ?_ | with_reducible refine (v2 _).mono ?_); rintro e wq ⟨rfl, m, hq⟩; subst wq) | (go_at_call 17; (first | with_reducible refine (o1 _).mono ?_ | with_reducible refine (o2 _).mono ?_); rintro e wq ⟨rfl, hq⟩; subst wq) | (go_at_call 9; (first | with_reducible refine (z1 _).mono ?_); rintro e wq ⟨rfl, m, hq⟩; subst wq))
        go_ret
        exact ⟨rfl, _, rfl⟩
      · rw [h4] at st
        go_enter Try.func4, Try.ntmps4
        go_wp2_with (first | (go_at_call 10; (first | with_reducible refine (st _).mono ?_ | with_reducible refine (sc _).mono ?_); rintro e wq ⟨rfl, hq⟩; subst wq) | (go_at_call 11; (first | with_reducible refine (n1 _).mono ?_ | with_reducible refine (n2 _).mono ?_ | with_reducible refine (n3 _).mono ?_ | with_reducible refine (n4 _).mono ?_ | with_reducible refine (n5 _).mono ?_ | with_reducible refine (n6 _).mono ?_); rintro e wq ⟨rfl, hq⟩; subst wq) | (go_at_call 12; (first | with_reducible refine (s1 _).mono ?_ | with_reducible refine (s2 _).mono ?_); rintro e wq ⟨rfl, m, hq⟩; subst wq) | (go_at_call 13; (first | with_reducible refine (r1 _).mono ?_ | with_reducible refine (r2 _).mono ?_); rintro e wq ⟨rfl, m, hq⟩; subst wq) | (go_at_call 14; (first | with_reducible refine (p1 _).mono ?_ | with_reducible refine (p2 _).mono ?_); rintro e wq ⟨rfl, m, hq⟩; subst wq) | (go_at_call 16; (first | with_reducible refine (w1 _).mono ?_ | with_reducible refine (w2 _).mono ?_); rintro e wq ⟨rfl, hq⟩; subst wq) | (go_at_call 15; (first | with_reducible refine (v1 _).mono ?_ | with_reducible refine (v2 _).mono ?_); rintro e wq ⟨rfl, m, hq⟩; subst wq) | (go_at_call 17; (first | with_reducible refine (o1 _).mono ?_ | with_reducible refine (o2 _).mono ?_); rintro e wq ⟨rfl, hq⟩; subst wq) | (go_at_call 9; (first | with_reducible refine (z1 _).mono ?_); rintro e wq ⟨rfl, m, hq⟩; subst wq))
        go_ret
        exact ⟨rfl, _, rfl⟩
    · have g2 : (((fstand c 0 : Nat) : Int) == 4) = false := by simp; omega
      have n6 := n5
      clear hcp
      rcases hxy with ⟨rfl, rfl, h4⟩ | ⟨rfl, rfl, h4⟩
      · have g1 : (((fstand x y : Nat) : Int) == 4) = false := by simp; omega
        go_enter Try.func4, Try.ntmps4
        go_wp2_with (first | (go_at_call 10; (first | with_reducible refine (st _).mono ?_ | with_reducible refine (sc _).mono ?_); rintro e wq ⟨rfl, hq⟩; subst wq) | (go_at_call 11; (first | with_reducible refine (n1 _).mono ?_ | with_reducible refine (n2 _).mono ?_ | with_reducible refine (n3 _).mono ?_ | with_reducible refine (n4 _).mono ?_ | with_reducible refine (n5 _).mono ?_ | with_reducible refine (n6 _).mono ?_); rintro e wq ⟨rfl, hq⟩; subst wq) | (go_at_call 12; (first | with_reducible refine (s1 _).mono ?_ | with_reducible refine (s2 _).mono ?_); rintro e wq ⟨rfl, m, hq⟩; subst wq) | (go_at_call 13; (first | with_reducible refine (r1 _).mono ?_ | with_reducible refine (r2 _).mono ?_); rintro e wq ⟨rfl, m, hq⟩; subst wq) | (go_at_call 14; (first | with_reducible refine (p1 _).mono ?_ | with_reducible refine (p2 _).mono ?_); rintro e wq ⟨rfl, m, hq⟩; subst wq) | (go_at_call 16; (first | with_reducible refine (w1 _).mono ?_ | with_reducible refine (w2 _).mono ?_); rintro e wq ⟨rfl, hq⟩; subst wq) | (go_at_call 15; (first | with_reducible refine (v1 _).mono ?_ | with_reducible refine (v2 _).mono ?_); rintro e wq ⟨rfl, m, hq⟩; subst wq) | (go_at_call 17; (first | with_reducible refine (o1 _).mono ?_ | with_reducible refine (o2 _).mono ?_); rintro e wq ⟨rfl, hq⟩; subst wq) | (go_at_call 9; (first | with_reducible refine (z1 _).mono ?_); rintro e wq ⟨rfl, m, hq⟩; subst wq))
        go_ret
        exact ⟨rfl, _, rfl⟩
      · rw [h4] at st
        go_enter Try.func4, Try.ntmps4
        go_wp2_with (first | (go_at_call 10; (first | with_reducible refine (st _).mono ?_ | with_reducible refine (sc _).mono ?_); rintro e wq ⟨rfl, hq⟩; subst wq) | (go_at_call 11; (first | with_reducible refine (n1 _).mono ?_ | with_reducible refine (n2 _).mono ?_ | with_reducible refine (n3 _).mono ?_ | with_reducible refine (n4 _).mono ?_ | with_reducible refine (n5 _).mono ?_ | with_reducible refine (n6 _).mono ?_); rintro e wq ⟨rfl, hq⟩; subst wq) | (go_at_call 12; (first | with_reducible refine (s1 _).mono ?_ | with_reducible refine (s2 _).mono ?_); rintro e wq ⟨rfl, m, hq⟩; subst wq) | (go_at_call 13; (first | with_reducible refine (r1 _).mono ?_ | with_reducible refine (r2 _).mono ?_); rintro e wq ⟨rfl, m, hq⟩; subst wq) | (go_at_call 14; (first | with_reducible refine (p1 _).mono ?_ | with_reducible refine (p2 _).mono ?_); rintro e wq ⟨rfl, m, hq⟩; subst wq) | (go_at_call 16; (first | with_reducible refine (w1 _).mono ?_ | with_reducible refine (w2 _).mono ?_); rintro e wq ⟨rfl, hq⟩; subst wq) | (go_at_call 15; (first | with_reducible refine (v1 _).mono ?_ | with_reducible refine (v2 _).mono ?_); rintro e wq ⟨rfl, m, hq⟩; subst wq) | (go_at_call 17; (first | with_reducible refine (o1 _).mono ?_ | with_reducible refine (o2 _).mono ?_); rintro e wq ⟨rfl, hq⟩; subst wq) | (go_at_call 9; (first | with_reducible refine (z1 _).mono ?_); rintro e wq ⟨rfl, m, hq⟩; subst wq))
        go_ret
        exact ⟨rfl, _, rfl⟩
  · have n5 := fun w => not_above_any (fof (wrap32 (a : Int))) (fof (wrap32 (b : Int))) w (fof_lt _) (fof_lt _) (of_keeps (by omega))
    by_cases hc4 : fstand c 0 = 4
    · have n6 := fun w => not_above_any (fmul x c) (fmul y c) w (fmul_lt _ _) (fmul_lt _ _) (hcp hc4)
      rw [hc4] at sc
      clear hcp
      rcases hxy with ⟨rfl, rfl, h4⟩ | ⟨rfl, rfl, h4⟩
      · have g1 : (((fstand x y : Nat) : Int) == 4) = false := by simp; omega
        go_enter Try.func4, Try.ntmps4
        go_wp2_with (first | (go_at_call 10; (first | with_reducible refine (st _).mono ?_ | with_reducible refine (sc _).mono ?_); rintro e wq ⟨rfl, hq⟩; subst wq) | (go_at_call 11; (first | with_reducible refine (n1 _).mono ?_ | with_reducible refine (n2 _).mono ?_ | with_reducible refine (n3 _).mono ?_ | with_reducible refine (n4 _).mono ?_ | with_reducible refine (n5 _).mono ?_ | with_reducible refine (n6 _).mono ?_); rintro e wq ⟨rfl, hq⟩; subst wq) | (go_at_call 12; (first | with_reducible refine (s1 _).mono ?_ | with_reducible refine (s2 _).mono ?_); rintro e wq ⟨rfl, m, hq⟩; subst wq) | (go_at_call 13; (first | with_reducible refine (r1 _).mono ?_ | with_reducible refine (r2 _).mono ?_); rintro e wq ⟨rfl, m, hq⟩; subst wq) | (go_at_call 14; (first | with_reducible refine (p1 _).mono ?_ | with_reducible refine (p2 _).mono ?_); rintro e wq ⟨rfl, m, hq⟩; subst wq) | (go_at_call 16; (first | with_reducible refine (w1 _).mono ?_ | with_reducible refine (w2 _).mono ?_); rintro e wq ⟨rfl, hq⟩; subst wq) | (go_at_call 15; (first | with_reducible refine (v1 _).mono ?_ | with_reducible refine (v2 _).mono ?_); rintro e wq ⟨rfl, m, hq⟩; subst wq) | (go_at_call 17; (first | with_reducible refine (o1 _).mono ?_ | with_reducible refine (o2 _).mono ?_); rintro e wq ⟨rfl, hq⟩; subst wq) | (go_at_call 9; (first | with_reducible refine (z1 _).mono ?_); rintro e wq ⟨rfl, m, hq⟩; subst wq))
        go_ret
        exact ⟨rfl, _, rfl⟩
      · rw [h4] at st
        go_enter Try.func4, Try.ntmps4
        go_wp2_with (first | (go_at_call 10; (first | with_reducible refine (st _).mono ?_ | with_reducible refine (sc _).mono ?_); rintro e wq ⟨rfl, hq⟩; subst wq) | (go_at_call 11; (first | with_reducible refine (n1 _).mono ?_ | with_reducible refine (n2 _).mono ?_ | with_reducible refine (n3 _).mono ?_ | with_reducible refine (n4 _).mono ?_ | with_reducible refine (n5 _).mono ?_ | with_reducible refine (n6 _).mono ?_); rintro e wq ⟨rfl, hq⟩; subst wq) | (go_at_call 12; (first | with_reducible refine (s1 _).mono ?_ | with_reducible refine (s2 _).mono ?_); rintro e wq ⟨rfl, m, hq⟩; subst wq) | (go_at_call 13; (first | with_reducible refine (r1 _).mono ?_ | with_reducible refine (r2 _).mono ?_); rintro e wq ⟨rfl, m, hq⟩; subst wq) | (go_at_call 14; (first | with_reducible refine (p1 _).mono ?_ | with_reducible refine (p2 _).mono ?_); rintro e wq ⟨rfl, m, hq⟩; subst wq) | (go_at_call 16; (first | with_reducible refine (w1 _).mono ?_ | with_reducible refine (w2 _).mono ?_); rintro e wq ⟨rfl, hq⟩; subst wq) | (go_at_call 15; (first | with_reducible refine (v1 _).mono ?_ | with_reducible refine (v2 _).mono ?_); rintro e wq ⟨rfl, m, hq⟩; subst wq) | (go_at_call 17; (first | with_reducible refine (o1 _).mono ?_ | with_reducible refine (o2 _).mono ?_); rintro e wq ⟨rfl, hq⟩; subst wq) | (go_at_call 9; (first | with_reducible refine (z1 _).mono ?_); rintro e wq ⟨rfl, m, hq⟩; subst wq))
        go_ret
        exact ⟨rfl, _, rfl⟩
    · have g2 : (((fstand c 0 : Nat) : Int) == 4) = false := by simp; omega
      have n6 := n5
      clear hcp
      rcases hxy with ⟨rfl, rfl, h4⟩ | ⟨rfl, rfl, h4⟩
      · have g1 : (((fstand x y : Nat) : Int) == 4) = false := by simp; omega
        go_enter Try.func4, Try.ntmps4
        go_wp2_with (first | (go_at_call 10; (first | with_reducible refine (st _).mono ?_ | with_reducible refine (sc _).mono ?_); rintro e wq ⟨rfl, hq⟩; subst wq) | (go_at_call 11; (first | with_reducible refine (n1 _).mono ?_ | with_reducible refine (n2 _).mono ?_ | with_reducible refine (n3 _).mono ?_ | with_reducible refine (n4 _).mono ?_ | with_reducible refine (n5 _).mono ?_ | with_reducible refine (n6 _).mono ?_); rintro e wq ⟨rfl, hq⟩; subst wq) | (go_at_call 12; (first | with_reducible refine (s1 _).mono ?_ | with_reducible refine (s2 _).mono ?_); rintro e wq ⟨rfl, m, hq⟩; subst wq) | (go_at_call 13; (first | with_reducible refine (r1 _).mono ?_ | with_reducible refine (r2 _).mono ?_); rintro e wq ⟨rfl, m, hq⟩; subst wq) | (go_at_call 14; (first | with_reducible refine (p1 _).mono ?_ | with_reducible refine (p2 _).mono ?_); rintro e wq ⟨rfl, m, hq⟩; subst wq) | (go_at_call 16; (first | with_reducible refine (w1 _).mono ?_ | with_reducible refine (w2 _).mono ?_); rintro e wq ⟨rfl, hq⟩; subst wq) | (go_at_call 15; (first | with_reducible refine (v1 _).mono ?_ | with_reducible refine (v2 _).mono ?_); rintro e wq ⟨rfl, m, hq⟩; subst wq) | (go_at_call 17; (first | with_reducible refine (o1 _).mono ?_ | with_reducible refine (o2 _).mono ?_); rintro e wq ⟨rfl, hq⟩; subst wq) | (go_at_call 9; (first | with_reducible refine (z1 _).mono ?_); rintro e wq ⟨rfl, m, hq⟩; subst wq))
        go_ret
        exact ⟨rfl, _, rfl⟩
      · rw [h4] at st
        go_enter Try.func4, Try.ntmps4
        go_wp2_with (first | (go_at_call 10; (first | with_reducible refine (st _).mono ?_ | with_reducible refine (sc _).mono ?_); rintro e wq ⟨rfl, hq⟩; subst wq) | (go_at_call 11; (first | with_reducible refine (n1 _).mono ?_ | with_reducible refine (n2 _).mono ?_ | with_reducible refine (n3 _).mono ?_ | with_reducible refine (n4 _).mono ?_ | with_reducible refine (n5 _).mono ?_ | with_reducible refine (n6 _).mono ?_); rintro e wq ⟨rfl, hq⟩; subst wq) | (go_at_call 12; (first | with_reducible refine (s1 _).mono ?_ | with_reducible refine (s2 _).mono ?_); rintro e wq ⟨rfl, m, hq⟩; subst wq) | (go_at_call 13; (first | with_reducible refine (r1 _).mono ?_ | with_reducible refine (r2 _).mono ?_); rintro e wq ⟨rfl, m, hq⟩; subst wq) | (go_at_call 14; (first | with_reducible refine (p1 _).mono ?_ | with_reducible refine (p2 _).mono ?_); rintro e wq ⟨rfl, m, hq⟩; subst wq) | (go_at_call 16; (first | with_reducible refine (w1 _).mono ?_ | with_reducible refine (w2 _).mono ?_); rintro e wq ⟨rfl, hq⟩; subst wq) | (go_at_call 15; (first | with_reducible refine (v1 _).mono ?_ | with_reducible refine (v2 _).mono ?_); rintro e wq ⟨rfl, m, hq⟩; subst wq) | (go_at_call 17; (first | with_reducible refine (o1 _).mono ?_ | with_reducible refine (o2 _).mono ?_); rintro e wq ⟨rfl, hq⟩; subst wq) | (go_at_call 9; (first | with_reducible refine (z1 _).mono ?_); rintro e wq ⟨rfl, m, hq⟩; subst wq))
        go_ret
        exact ⟨rfl, _, rfl⟩
theorem single_keeps (a b c : Nat) (w : World) (ha : a < 4294967296) (hb : b < 4294967296) (hc : c < 4294967296) :
    Calls Try.prog 4 #[.int .u32 a, .int .u32 b, .int .u32 c] w fun e w' => e = .returned (.bool true) ∧ ∃ m, w' = w.drewN m := by
  by_cases h : fstand a b = 4
  · exact keeps_of a b c b a w ha hb hc (Or.inr ⟨rfl, rfl, h⟩)
  · exact keeps_of a b c a b w ha hb hc (Or.inl ⟨rfl, rfl, h⟩)
end Go.Proofs.Ytembengdijhfpaa
