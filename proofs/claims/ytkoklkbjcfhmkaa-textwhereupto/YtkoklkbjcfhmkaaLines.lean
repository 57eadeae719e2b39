import Derived.Test.YtkoklkbjcfhmkaaLinesMath
namespace Go.Proofs.Ytkoklkbjcfhmkaa
open Go.RowKit

theorem ret_int {k : IntKind} {a b : Int} (h : a = b) : Ending.returned (.int k a) = .returned (.int k b) := by rw [h]

set_option maxHeartbeats 1000000 in
theorem pick_any (x n : Int) (w : World) (hx0 : -9223372036854775808 ≤ x) (hx1 : x ≤ 9223372036854775807) (h1 : 1 ≤ n) (h2 : n ≤ 4611686018427387904) :
    Calls Try.prog 17 #[.int .i64 x, .int .i64 n] w fun e w' => e = .returned (.int .i64 (x % n)) ∧ w' = w := by
  have hm : x.tmod n = if 0 ≤ x ∨ n ∣ x then x % n else x % n - n := by
    have := Int.tmod_eq_emod (a := x) (b := n)
    rw [this]
    have hn : (n.natAbs : Int) = n := by omega
    by_cases hc : 0 ≤ x ∨ n ∣ x
    · simp [hc]
    · simp [hc, hn]
  have he0 := Int.emod_nonneg x (show n ≠ 0 by omega)
  have he1 := Int.emod_lt_of_pos x (show 0 < n by omega)
  by_cases hx : 0 ≤ x
  · clear hm
    go_enter Try.func17, Try.ntmps17
    go_wp2
    go_ret
    exact ⟨rfl, rfl⟩
  · have h0 : x.tmod n = 0 ∧ x % n = 0 ∨ x.tmod n < 0 ∧ x.tmod n + n = x % n ∧ -n < x.tmod n := by
      by_cases hc : n ∣ x
      · left
        rw [hm, if_pos (.inr hc)]
        exact ⟨Int.emod_eq_zero_of_dvd hc, Int.emod_eq_zero_of_dvd hc⟩
      · right
        have hne : x % n ≠ 0 := fun h => hc (Int.dvd_of_emod_eq_zero h)
        rw [hm, if_neg (by omega)]
        omega
    clear hm
    rcases h0 with ⟨h3, h4⟩ | ⟨h3, h4, h5⟩
    · have H4 : Hid (x % n = 0) := h4
      clear h4
      go_enter Try.func17, Try.ntmps17
      go_wp2
      go_ret
      exact ⟨ret_int (by rw [H4.out]), rfl⟩
    · have H4 : Hid (x.tmod n + n = x % n) := h4
      clear h4
      go_enter Try.func17, Try.ntmps17
      go_wp2
      go_ret
      exact ⟨ret_int (by rw [H4.out]), rfl⟩

theorem where_lines (s : ByteArray) (p : Nat) (w : World) (hs : s.size ≤ 140737488355328) (hp : p ≤ s.size) :
    Calls Try.prog 9 #[.string s, .int .i64 p] w fun e w' => ∃ c : Int, e = .returned (.tuple #[.int .i64 ((nl s p : Int) + 1), .int .i64 c, .int .i64 0]) ∧ 1 ≤ c ∧ c ≤ p + 1 ∧
      ((p = 0 ∨ bt s (p - 1) = 10) → c = 1) ∧ (0 < p → bt s (p - 1) ≠ 10 → 1 < c) ∧ Below w.heap.size w w' := by
  refine (where_any s p w hs hp).mono ?_
  rintro e w' ⟨rfl, hb⟩
  have h1 := where_line s p hp
  obtain ⟨h2, h3, h4⟩ := where_col s p hp
  have h5 := (lc_range ((cuts s).takeWhile fun x => decide (x.1.1 < p))).2.1
  refine ⟨(whereOf s p).2, by rw [h1, Int.add_comm], h5, by omega, fun h => ?_, fun h => (h3 h).2, hb⟩
  rcases h with h | h
  · exact h2 h
  · by_cases h0 : p = 0
    · exact h2 h0
    · exact (h3 (by omega)).1 h

theorem nl_le (s : ByteArray) (k : Nat) : nl s k ≤ k := by
  induction k with
  | zero => simp [nl]
  | succ k ih => rw [nl]; split <;> omega

set_option maxHeartbeats 2000000 in
theorem lines_any (s : ByteArray) (x : Int) (w : World) (hx0 : -9223372036854775808 ≤ x) (hx1 : x ≤ 9223372036854775807) (hs : s.size ≤ 140737488355328) :
    Calls Try.prog 8 #[.string s, .int .i64 x] w fun e w' => e = .returned (.bool true) ∧ Below w.heap.size w w' := by
  have he0 := Int.emod_nonneg x (show (s.size : Int) + 1 ≠ 0 by omega)
  have he1 := Int.emod_lt_of_pos x (show 0 < (s.size : Int) + 1 by omega)
  obtain ⟨p, hp⟩ := Int.eq_ofNat_of_zero_le he0
  have hps : p ≤ s.size := by omega
  have HP : Hid (x % ((s.size : Int) + 1) = p) := hp
  clear hp he0 he1
  go_enter Try.func8, Try.ntmps8
  go_wp2_with (go_at_call 17; refine (pick_any _ _ _ (by omega) (by omega) (by omega) (by omega)).mono ?_; rintro e w' ⟨rfl, hw'⟩; rw [HP.out]; subst hw')
  refine (where_lines s p _ hs hps).mono ?_
  rintro e w1 ⟨c, rfl, c1, c2, c3, c4, hb⟩
  have HC3 : Hid ((p = 0 ∨ bt s (p - 1) = 10) → c = 1) := c3
  have HC4 : Hid (0 < p → bt s (p - 1) ≠ 10 → 1 < c) := c4
  clear c3 c4
  go_wp2_with fail
  go_loop [8, 9] (fun n i => ∃ k : Nat, k ≤ p ∧ i = .int .i64 k ∧ n = .int .i64 (nl s k)) (fun _ i => p - (intOf i).toNat)
  case atStart => exact ⟨0, Nat.zero_le _, rfl, rfl⟩
  case round =>
    obtain ⟨k, hk, rfl, rfl⟩ := hrel
    have hnk := nl_le s k
    by_cases hlt : k < p
    · have hks : k < s.size := by omega
      have hksI : (k : Int) < (s.size : Int) := by omega
      have HN : Hid (nl s (k + 1) = nl s k + if bt s k = 10 then 1 else 0) := rfl
      have hbe := bt_eq s k hks
      by_cases h10 : bt s k = 10
      · have ht : (((s[k]'hks).toNat : Int) == 10) = true := by rw [beq_iff_eq]; omega
        have HN2 : Hid (nl s (k + 1) = nl s k + 1) := by have := HN.out; rw [if_pos h10] at this; exact this
        clear HN h10 hbe
        go_wp2
        go_round
        case rel => exact ⟨k + 1, by omega, by go_num, by rw [HN2.out]; go_num⟩
        case measure => simp [intOf]; omega
      · have ht : (((s[k]'hks).toNat : Int) == 10) = false := by rw [beq_eq_false_iff_ne]; omega
        have HN2 : Hid (nl s (k + 1) = nl s k) := by have := HN.out; rw [if_neg h10] at this; exact this
        clear HN h10 hbe
        go_wp2
        go_round
        case rel => exact ⟨k + 1, by omega, by go_num, by rw [HN2.out]⟩
        case measure => simp [intOf]; omega
    · obtain rfl : k = p := by omega
      have hq1 : ((nl s k : Int) + 1 != (nl s k : Int) + 1) = false := by simp
      have hq2 : decide (c < 1) = false := by simp; omega
      have hq3 : decide ((k : Int) + 1 < c) = false := by simp; omega
      by_cases hp0 : k = 0
      · subst hp0
        have hc1 : c = 1 := HC3.out (.inl rfl)
        subst hc1
        clear HC3 HC4
        go_wp2
        go_ret
        exact ⟨rfl, hb⟩
      · have hks : k - 1 < s.size := by omega
        have hbe := bt_eq s (k - 1) hks
        have hk1 : ((k : Int) == 0) = false := by rw [beq_eq_false_iff_ne]; omega
        have hkt : ((k : Int) - 1).toNat = k - 1 := by omega
        have hk2 : (k : Int) - 1 < (s.size : Int) := by omega
        have hk3 : (0 : Int) ≤ (k : Int) - 1 := by omega
        by_cases h10 : bt s (k - 1) = 10
        · have ht : (((s[k - 1]'hks).toNat : Int) == 10) = true := by rw [beq_iff_eq]; omega
          have hc1 : c = 1 := HC3.out (.inr h10)
          subst hc1
          clear HC3 HC4 h10 hbe
          go_wp2
          go_ret
          exact ⟨rfl, hb⟩
        · have ht : (((s[k - 1]'hks).toNat : Int) == 10) = false := by rw [beq_eq_false_iff_ne]; omega
          have hc1 : 1 < c := HC4.out (by omega) h10
          clear HC3 HC4 h10 hbe
          go_wp2
          go_ret
          exact ⟨by simp, hb⟩
end Go.Proofs.Ytkoklkbjcfhmkaa
