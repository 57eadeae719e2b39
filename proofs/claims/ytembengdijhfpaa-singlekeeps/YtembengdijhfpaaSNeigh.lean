import Derived.Test.YtembengdijhfpaaSKey
namespace Go.Proofs.Ytembengdijhfpaa
open Go.RowKit

theorem ok_mod {a : Nat} (h : ok a = true) : a % 2147483648 ≤ 2139095040 := by simpa [ok] using h
theorem mod_ok {a : Nat} (h : a % 2147483648 ≤ 2139095040) : ok a = true := by simpa [ok] using h
theorem tn_key {a : Nat} (h : a < 4294967296) : key (tn a) = - key a := by
  unfold tn
  split
  · rename_i h'
    rw [key_neg (by omega), key_pos h']; omega
  · rename_i h'
    rw [key_pos (by omega), key_neg (by omega)]; omega
theorem key_inj {a b : Nat} (ha : a < 4294967296) (hb : b < 4294967296) (h : key a = key b) : a = b ∨ a % 2147483648 = 0 ∧ b % 2147483648 = 0 := by
  by_cases h1 : 2147483648 ≤ a <;> by_cases h2 : 2147483648 ≤ b
  · rw [key_neg h1, key_neg h2] at h; omega
  · rw [key_neg h1, key_pos (by omega)] at h; omega
  · rw [key_pos (by omega), key_neg h2] at h; omega
  · rw [key_pos (by omega), key_pos (by omega)] at h; omega
theorem fab_key {a : Nat} (ha : a < 4294967296) (oa : ok a = true) (hi : a ≠ 2139095040) : ok (fab a) = true ∧ key (fab a) = key a + 1 := by
  have hm := ok_mod oa
  unfold fab
  rw [if_neg (by simp [oa])]
  by_cases hz : a % 2147483648 = 0
  · rw [if_pos hz]
    have : a = 0 ∨ a = 2147483648 := by omega
    rcases this with rfl | rfl <;> decide +kernel
  rw [if_neg hz, if_neg hi]
  by_cases hs : 2147483648 ≤ a
  · rw [if_pos hs]
    refine ⟨mod_ok (by omega), ?_⟩
    rw [key_neg hs, key_neg (by omega)]; omega
  · rw [if_neg hs]
    refine ⟨mod_ok (by omega), ?_⟩
    rw [key_pos (by omega), key_pos (by omega)]; omega
theorem fbe_key {a : Nat} (ha : a < 4294967296) (oa : ok a = true) (hi : a ≠ 4286578688) : ok (fbe a) = true ∧ key (fbe a) = key a - 1 := by
  unfold fbe
  rw [if_neg (by simp [oa])]
  have h1 := tn_lt ha
  have ot : ok (tn a) = true := by rw [ok_tn a ha, oa]
  have hi' : tn a ≠ 2139095040 := by unfold tn; split <;> omega
  obtain ⟨o2, k2⟩ := fab_key h1 ot hi'
  have h2 := fab_lt h1
  refine ⟨by rw [ok_tn _ h2, o2], ?_⟩
  rw [tn_key h2, k2, tn_key ha]; omega
theorem key_bound {a : Nat} (ha : a < 4294967296) (oa : ok a = true) : -2139095040 ≤ key a ∧ key a ≤ 2139095040 := by
  have := ok_mod oa
  by_cases h : 2147483648 ≤ a
  · rw [key_neg h]; omega
  · rw [key_pos (by omega)]; omega

set_option maxRecDepth 100000 in
set_option maxHeartbeats 2000000 in
theorem single_neighbours (a c : Nat) (w : World) (ha : a < 4294967296) (hc : c < 4294967296) :
    Calls Try.prog 3 #[.int .u32 a, .int .u32 c] w fun e w' => e = .returned (.bool true) ∧ ∃ m, w' = w.drewN m := by
  have u1 := fun w => above_any a w ha
  have n1 := fun w => lnone_any a w ha
  have n2 := fun w => lnone_any c w hc
  have z1 := fun w => awake_any w
  cases oa : ok a
  · have b1 := fun w => below_any a w ha
    rw [oa] at n1
    have e1 : fab a = 2143289344 := by unfold fab; rw [if_pos oa]
    have e2 : fbe a = 2143289344 := by unfold fbe; rw [if_pos oa]
    rw [e1] at u1
    rw [e2] at b1
    go_enter Try.func3, Try.ntmps3
    go_wp2_with (first
      | (go_at_call 6; with_reducible refine (u1 _).mono ?_; rintro e wq ⟨rfl, hq⟩; subst wq)
      | (go_at_call 8; with_reducible refine (b1 _).mono ?_; rintro e wq ⟨rfl, hq⟩; subst wq)
      | (go_at_call 7; with_reducible refine (n1 _).mono ?_; rintro e wq ⟨rfl, hq⟩; subst wq)
      | (go_at_call 9; with_reducible refine (z1 _).mono ?_; rintro e wq ⟨rfl, m, hq⟩; subst wq))
    go_ret
    exact ⟨rfl, _, rfl⟩
  rw [oa] at n1
  by_cases hi : a = 2139095040
  · subst hi
    have b1 : ∀ w, Calls Try.prog 8 #[.int .u32 4286578688] w fun e w' => e = .returned (.int .u32 4286578688) ∧ w' = w := fun w => by
      have := below_any 4286578688 w (by decide)
      rwa [show fbe 4286578688 = 4286578688 by decide +kernel] at this
    have u2 : ∀ w, Calls Try.prog 6 #[.int .u32 2139095040] w fun e w' => e = .returned (.int .u32 2139095040) ∧ w' = w := fun w => by
      have := above_any 2139095040 w (by decide)
      rwa [show fab 2139095040 = 2139095040 by decide +kernel] at this
    have n3 : ∀ w, Calls Try.prog 7 #[.int .u32 2139095040] w fun e w' => e = .returned (.bool false) ∧ w' = w := fun w => n1 w
    clear u1 n1
    go_enter Try.func3, Try.ntmps3
    go_wp2_with (first
      | (go_at_call 6; refine (u2 _).mono ?_; rintro e wq ⟨rfl, hq⟩; subst wq)
      | (go_at_call 8; refine (b1 _).mono ?_; rintro e wq ⟨rfl, hq⟩; subst wq)
      | (go_at_call 7; refine (n3 _).mono ?_; rintro e wq ⟨rfl, hq⟩; subst wq)
      | (go_at_call 9; refine (z1 _).mono ?_; rintro e wq ⟨rfl, m, hq⟩; subst wq))
    go_ret
    exact ⟨rfl, _, rfl⟩
  have g0 : ((a : Int) == 2139095040) = false := by simp; omega
  obtain ⟨oU, kU⟩ := fab_key ha oa hi
  have hU := fab_lt ha
  generalize fab a = U at u1 oU kU hU
  have kb := key_bound ha oa
  have hU' : U ≠ 4286578688 := by
    intro e
    rw [e, show key 4286578688 = -2139095040 from rfl] at kU
    omega
  obtain ⟨oB, kB⟩ := fbe_key hU oU hU'
  have hB := fbe_lt hU
  have b1 := fun w => below_any U w hU
  generalize fbe U = B at b1 oB kB hB
  have hBa : B = a ∨ B % 2147483648 = 0 ∧ a % 2147483648 = 0 := key_inj hB ha (by omega)
  have s1 := fun w => stand_any a U w
  have s2 := fun w => stand_any U a w
  have s3 := fun w => stand_any B a w
  rw [fstand_key a U ha hU oa oU, if_pos (by omega)] at s1
  rw [fstand_key U a hU ha oU oa, if_neg (by omega), if_neg (by omega)] at s2
  rw [fstand_key B a hB ha oB oa, if_neg (by omega), if_pos (by omega)] at s3
  have hand := b_and a ha
  have HT : ∀ w, Calls Try.prog 3 #[.int .u32 a, .int .u32 c] w fun e w' => e = .returned (.bool true) ∧ ∃ m, w' = w.drewN m := by
    intro w
    have hg : (((B : Int) != (a : Int)) = false) ∨ (((B : Int) != (a : Int)) = true ∧ (((a % 2147483648 : Nat) : Int) != 0) = false) := by
      by_cases h : B = a
      · exact Or.inl (by simp [h])
      · exact Or.inr ⟨by simp; omega, by simp; omega⟩
    clear hBa
    cases oc : ok c
    · rw [oc] at n2
      rcases hg with g1 | ⟨g1, g2⟩
      · go_enter Try.func3, Try.ntmps3
        go_wp2_with (first | (go_at_call 6; (first | with_reducible refine (u1 _).mono ?_); rintro e wq ⟨rfl, hq⟩; subst wq) | (go_at_call 8; (first | with_reducible refine (b1 _).mono ?_); rintro e wq ⟨rfl, hq⟩; subst wq) | (go_at_call 7; (first | with_reducible refine (n1 _).mono ?_ | with_reducible refine (n2 _).mono ?_); rintro e wq ⟨rfl, hq⟩; subst wq) | (go_at_call 10; (first | with_reducible refine (s1 _).mono ?_ | with_reducible refine (s2 _).mono ?_ | with_reducible refine (s3 _).mono ?_); rintro e wq ⟨rfl, hq⟩; subst wq) | (go_at_call 9; (first | with_reducible refine (z1 _).mono ?_); rintro e wq ⟨rfl, m, hq⟩; subst wq))
        go_ret
        exact ⟨rfl, _, rfl⟩
      · go_enter Try.func3, Try.ntmps3
        go_wp2_with (first | (go_at_call 6; (first | with_reducible refine (u1 _).mono ?_); rintro e wq ⟨rfl, hq⟩; subst wq) | (go_at_call 8; (first | with_reducible refine (b1 _).mono ?_); rintro e wq ⟨rfl, hq⟩; subst wq) | (go_at_call 7; (first | with_reducible refine (n1 _).mono ?_ | with_reducible refine (n2 _).mono ?_); rintro e wq ⟨rfl, hq⟩; subst wq) | (go_at_call 10; (first | with_reducible refine (s1 _).mono ?_ | with_reducible refine (s2 _).mono ?_ | with_reducible refine (s3 _).mono ?_); rintro e wq ⟨rfl, hq⟩; subst wq) | (go_at_call 9; (first | with_reducible refine (z1 _).mono ?_); rintro e wq ⟨rfl, m, hq⟩; subst wq))
        go_ret
        exact ⟨rfl, _, rfl⟩
    · rw [oc] at n2
      have s4 := fun w => stand_any c a w
      have s5 := fun w => stand_any c U w
      rw [fstand_key c a hc ha oc oa] at s4
      rw [fstand_key c U hc hU oc oU] at s5
      have hways : (key c < key a ∧ key c < key U) ∨ (¬ key c < key a ∧ key c = key a ∧ key c < key U) ∨ (¬ key c < key a ∧ ¬ key c = key a ∧ ¬ key c < key U ∧ key c = key U) ∨ (¬ key c < key a ∧ ¬ key c = key a ∧ ¬ key c < key U ∧ ¬ key c = key U) := by omega
      clear kU kB kb
      rcases hg with g1 | ⟨g1, g2⟩
      · rcases hways with ⟨h1, h2⟩ | ⟨h1, h2, h3⟩ | ⟨h1, h2, h3, h4⟩ | ⟨h1, h2, h3, h4⟩
        · rw [if_pos h1] at s4
          rw [if_pos h2] at s5
          clear h1 h2
          go_enter Try.func3, Try.ntmps3
          go_wp2_with (first | (go_at_call 6; (first | with_reducible refine (u1 _).mono ?_); rintro e wq ⟨rfl, hq⟩; subst wq) | (go_at_call 8; (first | with_reducible refine (b1 _).mono ?_); rintro e wq ⟨rfl, hq⟩; subst wq) | (go_at_call 7; (first | with_reducible refine (n1 _).mono ?_ | with_reducible refine (n2 _).mono ?_); rintro e wq ⟨rfl, hq⟩; subst wq) | (go_at_call 10; (first | with_reducible refine (s1 _).mono ?_ | with_reducible refine (s2 _).mono ?_ | with_reducible refine (s3 _).mono ?_ | with_reducible refine (s4 _).mono ?_ | with_reducible refine (s5 _).mono ?_); rintro e wq ⟨rfl, hq⟩; subst wq) | (go_at_call 9; (first | with_reducible refine (z1 _).mono ?_); rintro e wq ⟨rfl, m, hq⟩; subst wq))
          go_ret
          exact ⟨rfl, 0, rfl⟩
        · rw [if_neg h1, if_pos h2] at s4
          rw [if_pos h3] at s5
          clear h1 h2 h3
          go_enter Try.func3, Try.ntmps3
          go_wp2_with (first | (go_at_call 6; (first | with_reducible refine (u1 _).mono ?_); rintro e wq ⟨rfl, hq⟩; subst wq) | (go_at_call 8; (first | with_reducible refine (b1 _).mono ?_); rintro e wq ⟨rfl, hq⟩; subst wq) | (go_at_call 7; (first | with_reducible refine (n1 _).mono ?_ | with_reducible refine (n2 _).mono ?_); rintro e wq ⟨rfl, hq⟩; subst wq) | (go_at_call 10; (first | with_reducible refine (s1 _).mono ?_ | with_reducible refine (s2 _).mono ?_ | with_reducible refine (s3 _).mono ?_ | with_reducible refine (s4 _).mono ?_ | with_reducible refine (s5 _).mono ?_); rintro e wq ⟨rfl, hq⟩; subst wq) | (go_at_call 9; (first | with_reducible refine (z1 _).mono ?_); rintro e wq ⟨rfl, m, hq⟩; subst wq))
          go_ret
          exact ⟨rfl, 0, rfl⟩
        · rw [if_neg h1, if_neg h2] at s4
          rw [if_neg h3, if_pos h4] at s5
          clear h1 h2 h3 h4
          go_enter Try.func3, Try.ntmps3
          go_wp2_with (first | (go_at_call 6; (first | with_reducible refine (u1 _).mono ?_); rintro e wq ⟨rfl, hq⟩; subst wq) | (go_at_call 8; (first | with_reducible refine (b1 _).mono ?_); rintro e wq ⟨rfl, hq⟩; subst wq) | (go_at_call 7; (first | with_reducible refine (n1 _).mono ?_ | with_reducible refine (n2 _).mono ?_); rintro e wq ⟨rfl, hq⟩; subst wq) | (go_at_call 10; (first | with_reducible refine (s1 _).mono ?_ | with_reducible refine (s2 _).mono ?_ | with_reducible refine (s3 _).mono ?_ | with_reducible refine (s4 _).mono ?_ | with_reducible refine (s5 _).mono ?_); rintro e wq ⟨rfl, hq⟩; subst wq) | (go_at_call 9; (first | with_reducible refine (z1 _).mono ?_); rintro e wq ⟨rfl, m, hq⟩; subst wq))
          go_ret
          exact ⟨rfl, 0, rfl⟩
        · rw [if_neg h1, if_neg h2] at s4
          rw [if_neg h3, if_neg h4] at s5
          clear h1 h2 h3 h4
          go_enter Try.func3, Try.ntmps3
          go_wp2_with (first | (go_at_call 6; (first | with_reducible refine (u1 _).mono ?_); rintro e wq ⟨rfl, hq⟩; subst wq) | (go_at_call 8; (first | with_reducible refine (b1 _).mono ?_); rintro e wq ⟨rfl, hq⟩; subst wq) | (go_at_call 7; (first | with_reducible refine (n1 _).mono ?_ | with_reducible refine (n2 _).mono ?_); rintro e wq ⟨rfl, hq⟩; subst wq) | (go_at_call 10; (first | with_reducible refine (s1 _).mono ?_ | with_reducible refine (s2 _).mono ?_ | with_reducible refine (s3 _).mono ?_ | with_reducible refine (s4 _).mono ?_ | with_reducible refine (s5 _).mono ?_); rintro e wq ⟨rfl, hq⟩; subst wq) | (go_at_call 9; (first | with_reducible refine (z1 _).mono ?_); rintro e wq ⟨rfl, m, hq⟩; subst wq))
          go_ret
          exact ⟨rfl, 0, rfl⟩
      · rcases hways with ⟨h1, h2⟩ | ⟨h1, h2, h3⟩ | ⟨h1, h2, h3, h4⟩ | ⟨h1, h2, h3, h4⟩
        · rw [if_pos h1] at s4
          rw [if_pos h2] at s5
          clear h1 h2
          go_enter Try.func3, Try.ntmps3
          go_wp2_with (first | (go_at_call 6; (first | with_reducible refine (u1 _).mono ?_); rintro e wq ⟨rfl, hq⟩; subst wq) | (go_at_call 8; (first | with_reducible refine (b1 _).mono ?_); rintro e wq ⟨rfl, hq⟩; subst wq) | (go_at_call 7; (first | with_reducible refine (n1 _).mono ?_ | with_reducible refine (n2 _).mono ?_); rintro e wq ⟨rfl, hq⟩; subst wq) | (go_at_call 10; (first | with_reducible refine (s1 _).mono ?_ | with_reducible refine (s2 _).mono ?_ | with_reducible refine (s3 _).mono ?_ | with_reducible refine (s4 _).mono ?_ | with_reducible refine (s5 _).mono ?_); rintro e wq ⟨rfl, hq⟩; subst wq) | (go_at_call 9; (first | with_reducible refine (z1 _).mono ?_); rintro e wq ⟨rfl, m, hq⟩; subst wq))
          go_ret
          exact ⟨rfl, 0, rfl⟩
        · rw [if_neg h1, if_pos h2] at s4
          rw [if_pos h3] at s5
          clear h1 h2 h3
          go_enter Try.func3, Try.ntmps3
          go_wp2_with (first | (go_at_call 6; (first | with_reducible refine (u1 _).mono ?_); rintro e wq ⟨rfl, hq⟩; subst wq) | (go_at_call 8; (first | with_reducible refine (b1 _).mono ?_); rintro e wq ⟨rfl, hq⟩; subst wq) | (go_at_call 7; (first | with_reducible refine (n1 _).mono ?_ | with_reducible refine (n2 _).mono ?_); rintro e wq ⟨rfl, hq⟩; subst wq) | (go_at_call 10; (first | with_reducible refine (s1 _).mono ?_ | with_reducible refine (s2 _).mono ?_ | with_reducible refine (s3 _).mono ?_ | with_reducible refine (s4 _).mono ?_ | with_reducible refine (s5 _).mono ?_); rintro e wq ⟨rfl, hq⟩; subst wq) | (go_at_call 9; (first | with_reducible refine (z1 _).mono ?_); rintro e wq ⟨rfl, m, hq⟩; subst wq))
          go_ret
          exact ⟨rfl, 0, rfl⟩
        · rw [if_neg h1, if_neg h2] at s4
          rw [if_neg h3, if_pos h4] at s5
          clear h1 h2 h3 h4
          go_enter Try.func3, Try.ntmps3
          go_wp2_with (first | (go_at_call 6; (first | with_reducible refine (u1 _).mono ?_); rintro e wq ⟨rfl, hq⟩; subst wq) | (go_at_call 8; (first | with_reducible refine (b1 _).mono ?_); rintro e wq ⟨rfl, hq⟩; subst wq) | (go_at_call 7; (first | with_reducible refine (n1 _).mono ?_ | with_reducible refine (n2 _).mono ?_); rintro e wq ⟨rfl, hq⟩; subst wq) | (go_at_call 10; (first | with_reducible refine (s1 _).mono ?_ | with_reducible refine (s2 _).mono ?_ | with_reducible refine (s3 _).mono ?_ | with_reducible refine (s4 _).mono ?_ | with_reducible refine (s5 _).mono ?_); rintro e wq ⟨rfl, hq⟩; subst wq) | (go_at_call 9; (first | with_reducible refine (z1 _).mono ?_); rintro e wq ⟨rfl, m, hq⟩; subst wq))
          go_ret
          exact ⟨rfl, 0, rfl⟩
        · rw [if_neg h1, if_neg h2] at s4
          rw [if_neg h3, if_neg h4] at s5
          clear h1 h2 h3 h4
          go_enter Try.func3, Try.ntmps3
          go_wp2_with (first | (go_at_call 6; (first | with_reducible refine (u1 _).mono ?_); rintro e wq ⟨rfl, hq⟩; subst wq) | (go_at_call 8; (first | with_reducible refine (b1 _).mono ?_); rintro e wq ⟨rfl, hq⟩; subst wq) | (go_at_call 7; (first | with_reducible refine (n1 _).mono ?_ | with_reducible refine (n2 _).mono ?_); rintro e wq ⟨rfl, hq⟩; subst wq) | (go_at_call 10; (first | with_reducible refine (s1 _).mono ?_ | with_reducible refine (s2 _).mono ?_ | with_reducible refine (s3 _).mono ?_ | with_reducible refine (s4 _).mono ?_ | with_reducible refine (s5 _).mono ?_); rintro e wq ⟨rfl, hq⟩; subst wq) | (go_at_call 9; (first | with_reducible refine (z1 _).mono ?_); rintro e wq ⟨rfl, m, hq⟩; subst wq))
          go_ret
          exact ⟨rfl, 0, rfl⟩
  exact HT w
end Go.Proofs.Ytembengdijhfpaa
