import Derived.Test.YtecbdjhhdhpmhaaRefRune
namespace Go.Proofs.Ytecbdjhhdhpmhaa
open Go.RowKit

set_option maxRecDepth 100000 in
set_option maxHeartbeats 2000000 in
theorem rrune_a0 (s : ByteArray) (w : World) (h : s.size = 0) :
    Calls Try.prog 17 #[.string s] w fun e w' => e = runeR (runeV s) ∧ Below w.heap.size w w' := by
  have HE : Hid (runeV s = (0, 0, 11)) := by rw [Hid, runeV, if_pos (by unfold qAt; simp [h])]
  go_enter Try.func17, Try.ntmps17
  go_wp2
  refine bodyPost_ret (results_tmp3 rfl _ _ _) rfl ?_
  exact ⟨by rw [HE.out]; rfl, Below.refl _ _⟩
set_option maxRecDepth 100000 in
set_option maxHeartbeats 2000000 in
theorem rrune_a (s : ByteArray) (w : World) (h : 0 < s.size) (hy : bt s 0 ≠ 39) :
    Calls Try.prog 17 #[.string s] w fun e w' => e = runeR (runeV s) ∧ Below w.heap.size w w' := by
  have HE : Hid (runeV s = (0, 0, 11)) := by rw [Hid, runeV, if_pos (by unfold qAt; simp [hy])]
  have hyl := bt_lt s 0
  obtain ⟨y, hye⟩ : ∃ y, y = bt s 0 := ⟨_, rfl⟩
  rw [← hye] at hy hyl
  rw [bt_eq s 0 h] at hye
  have hsy : (s[0]'h).toNat = y := hye.symm
  clear hye
  have hyb : ((y : Int) != 39) = true := by rw [bne_iff_ne]; omega
  have hnb : ((s.size : Int) == 0) = false := by rw [beq_eq_false_iff_ne]; omega
  go_enter Try.func17, Try.ntmps17
  go_wp2
  refine bodyPost_ret (results_tmp3 rfl _ _ _) rfl ?_
  exact ⟨by rw [HE.out]; rfl, Below.refl _ _⟩
set_option maxRecDepth 100000 in
set_option maxHeartbeats 2000000 in
theorem rrune_b (s : ByteArray) (w : World) (h : s.size = 1) (hy : bt s 0 = 39) :
    Calls Try.prog 17 #[.string s] w fun e w' => e = runeR (runeV s) ∧ Below w.heap.size w w' := by
  have HE : Hid (runeV s = (0, 1, 11)) := by rw [Hid, runeV, if_neg (by unfold qAt; simp [h, hy]), if_pos h]
  rw [bt_eq s 0 (by omega)] at hy
  go_enter Try.func17, Try.ntmps17
  go_wp2
  refine bodyPost_ret (results_tmp3 rfl _ _ _) rfl ?_
  exact ⟨by rw [HE.out]; rfl, Below.refl _ _⟩
set_option maxRecDepth 100000 in
set_option maxHeartbeats 2000000 in
theorem rrune_c (s : ByteArray) (w : World) (hs : s.size ≤ 140737488355328) (h : 1 < s.size) (hy : bt s 0 = 39) (h1 : bt s 1 = 39) :
    Calls Try.prog 17 #[.string s] w fun e w' => e = runeR (runeV s) ∧ Below w.heap.size w w' := by
  have hz : 0 < s.size := by omega
  have HE : Hid (runeV s = (0, 1, 10)) := by rw [Hid, runeV, if_neg (by unfold qAt; simp [hz, hy]), if_neg (by omega), if_pos h1]
  have hnb : ((s.size : Int) == 0) = false := by rw [beq_eq_false_iff_ne]; omega
  have hnc : ((s.size : Int) == 1) = false := by rw [beq_eq_false_iff_ne]; omega
  rw [bt_eq s 0 hz] at hy
  go_enter Try.func17, Try.ntmps17
  go_wp2_with (go_at_call 21; refine (thing_q s 1 39 _ hs h h1).mono ?_; rintro e w1 ⟨rfl, hw1⟩; subst hw1)
  refine bodyPost_ret (results_tmp3 rfl _ _ _) rfl ?_
  exact ⟨by rw [HE.out]; rfl, Below.refl _ _⟩
set_option maxRecDepth 100000 in
set_option maxHeartbeats 2000000 in
theorem rrune_d (s : ByteArray) (w : World) (hs : s.size ≤ 140737488355328) (h : 1 < s.size) (hy : bt s 0 = 39) (h1 : bt s 1 ≠ 39) (h3 : (readV (sub s 1)).2.2.2 ≠ 0) :
    Calls Try.prog 17 #[.string s] w fun e w' => e = runeR (runeV s) ∧ Below w.heap.size w w' := by
  have hz : 0 < s.size := by omega
  have HE : Hid (runeV s = (0, 1, (readV (sub s 1)).2.2.2)) := by rw [Hid, runeV, if_neg (by unfold qAt; simp [hz, hy]), if_neg (by omega), if_neg h1, if_pos h3]
  have HT : Hid (thRef s 1 = (0, 1, (readV (sub s 1)).2.2.2)) := by rw [Hid, thRef, if_neg h3]; rfl
  obtain ⟨x, hx⟩ : ∃ x, (readV (sub s 1)).2.2.2 = x := ⟨_, rfl⟩
  rw [hx] at HE HT h3
  clear hx
  have hxb : (x == 0) = false := by simpa using h3
  have HV : Hid (∀ b, refR (0, 1, x) b = .returned (.tuple #[.string b, .int .i32 0, .int .i64 1, .bool false, .int .i64 x])) := fun b => rfl
  have hnb : ((s.size : Int) == 0) = false := by rw [beq_eq_false_iff_ne]; omega
  have hnc : ((s.size : Int) == 1) = false := by rw [beq_eq_false_iff_ne]; omega
  have h1I : ((bt s 1 : Nat) : Int) ≠ 39 := by omega
  rw [bt_eq s 0 hz] at hy
  go_enter Try.func17, Try.ntmps17
  go_wp2_with (go_at_call 21; refine (thing_any s 1 39 _ hs h h1I).mono ?_; rintro e w1 ⟨⟨b, rfl⟩, hb1⟩; rw [HT.out, HV.out b])
  refine bodyPost_ret (results_tmp3 rfl _ _ _) rfl ?_
  exact ⟨by rw [HE.out]; rfl, hb1⟩
set_option maxRecDepth 100000 in
set_option maxHeartbeats 2000000 in
theorem rrune_e (s : ByteArray) (w : World) (hs : s.size ≤ 140737488355328) (h : 1 < s.size) (hy : bt s 0 = 39) (h1 : bt s 1 ≠ 39) (h3 : (readV (sub s 1)).2.2.2 = 0) :
    Calls Try.prog 17 #[.string s] w fun e w' => e = runeR (runeV s) ∧ Below w.heap.size w w' := by
  have hz : 0 < s.size := by omega
  have hsz := read_size (u := sub s 1) (by rw [sub_size]; omega) h3
  rw [sub_size] at hsz
  obtain ⟨m, hm⟩ : ∃ m : Nat, (readV (sub s 1)).2.2.1 = m := ⟨(readV (sub s 1)).2.2.1.toNat, by omega⟩
  have hq0 : ¬ qAt s 0 = false := by unfold qAt; simp [hz, hy]
  have HB : Hid (runeV s = if qAt s (1 + m) = false then (0, 1 + (m : Int), 11) else if (1 + (m : Int)) + 1 < s.size then (0, 1 + (m : Int) + 1, 10) else ((readV (sub s 1)).1, 0, 0)) := by
    have e : (1 + (m : Int)).toNat = 1 + m := by omega
    rw [Hid, runeV, if_neg hq0, if_neg (by omega), if_neg h1, hm, e, h3, if_neg (by simp)]
  have HT : Hid (thRef s 1 = ((readV (sub s 1)).1, 1 + (m : Int), 0)) := by rw [Hid, thRef, if_pos h3, hm]; rfl
  rw [hm] at hsz
  obtain ⟨x, hx⟩ : ∃ x, (readV (sub s 1)).1 = x := ⟨_, rfl⟩
  rw [hx] at HB HT
  clear hx hm h3 hq0
  have HV : Hid (∀ b, refR (x, 1 + (m : Int), 0) b = .returned (.tuple #[.string b, .int .i32 x, .int .i64 (1 + m), .bool false, .int .i64 0])) := fun b => rfl
  have hnb : ((s.size : Int) == 0) = false := by rw [beq_eq_false_iff_ne]; omega
  have hnc : ((s.size : Int) == 1) = false := by rw [beq_eq_false_iff_ne]; omega
  have h1I : ((bt s 1 : Nat) : Int) ≠ 39 := by omega
  rw [bt_eq s 0 hz] at hy
  obtain ⟨hs0, hs1⟩ := hsz
  by_cases hlt : 1 + m < s.size
  · have hltI : 1 + (m : Int) < (s.size : Int) := by omega
    have hyl := bt_lt s (1 + m)
    obtain ⟨y, hye⟩ : ∃ y, y = bt s (1 + m) := ⟨_, rfl⟩
    have hye' := hye
    rw [← hye] at hyl
    rw [bt_eq s (1 + m) hlt] at hye
    have hsy : (s[1 + m]'hlt).toNat = y := hye.symm
    clear hye
    by_cases hyq : y = 39
    · have hqt : ¬ qAt s (1 + m) = false := by unfold qAt; simp [hlt, ← hye', hyq]
      clear hye'
      subst hyq
      by_cases hmo : 1 + m + 1 < s.size
      · have HE : Hid (runeV s = (0, 1 + (m : Int) + 1, 10)) := by rw [Hid, HB.out, if_neg hqt, if_pos (by omega)]
        have hmI : 1 + (m : Int) + 1 < (s.size : Int) := by omega
        clear HB hqt
        go_enter Try.func17, Try.ntmps17
        go_wp2_with (go_at_call 21; refine (thing_any s 1 39 _ hs h h1I).mono ?_; rintro e w1 ⟨⟨b, rfl⟩, hb1⟩; rw [HT.out, HV.out b])
        refine bodyPost_ret (results_tmp3 rfl _ _ _) rfl ?_
        exact ⟨by rw [HE.out]; rfl, hb1⟩
      · have HE : Hid (runeV s = (x, 0, 0)) := by rw [Hid, HB.out, if_neg hqt, if_neg (by omega)]
        have hmI : ¬ 1 + (m : Int) + 1 < (s.size : Int) := by omega
        clear HB hqt
        go_enter Try.func17, Try.ntmps17
        go_wp2_with (go_at_call 21; refine (thing_any s 1 39 _ hs h h1I).mono ?_; rintro e w1 ⟨⟨b, rfl⟩, hb1⟩; rw [HT.out, HV.out b])
        refine bodyPost_ret (results_tmp3 rfl _ _ _) rfl ?_
        exact ⟨by rw [HE.out]; rfl, hb1⟩
    · have HE : Hid (runeV s = (0, 1 + (m : Int), 11)) := by
        rw [Hid, HB.out, if_pos]
        unfold qAt; simp only [decide_eq_false_iff_not]; intro c; exact hyq (hye'.trans c.2)
      have hyb : ((y : Int) != 39) = true := by rw [bne_iff_ne]; omega
      clear HB hye'
      go_enter Try.func17, Try.ntmps17
      go_wp2_with (go_at_call 21; refine (thing_any s 1 39 _ hs h h1I).mono ?_; rintro e w1 ⟨⟨b, rfl⟩, hb1⟩; rw [HT.out, HV.out b])
      refine bodyPost_ret (results_tmp3 rfl _ _ _) rfl ?_
      exact ⟨by rw [HE.out]; rfl, hb1⟩
  · have HE : Hid (runeV s = (0, 1 + (m : Int), 11)) := by
      rw [Hid, HB.out, if_pos]
      unfold qAt; simp [hlt]
    have hltI : ¬ 1 + (m : Int) < (s.size : Int) := by omega
    clear HB
    go_enter Try.func17, Try.ntmps17
    go_wp2_with (go_at_call 21; refine (thing_any s 1 39 _ hs h h1I).mono ?_; rintro e w1 ⟨⟨b, rfl⟩, hb1⟩; rw [HT.out, HV.out b])
    refine bodyPost_ret (results_tmp3 rfl _ _ _) rfl ?_
    exact ⟨by rw [HE.out]; rfl, hb1⟩
theorem rrune_any (s : ByteArray) (w : World) (hs : s.size ≤ 140737488355328) :
    Calls Try.prog 17 #[.string s] w fun e w' => e = runeR (runeV s) ∧ Below w.heap.size w w' := by
  by_cases h0 : s.size = 0
  · exact rrune_a0 s w h0
  by_cases hy : bt s 0 = 39
  · by_cases h1 : s.size = 1
    · exact rrune_b s w h1 hy
    by_cases h2 : bt s 1 = 39
    · exact rrune_c s w hs (by omega) hy h2
    by_cases h3 : (readV (sub s 1)).2.2.2 = 0
    · exact rrune_e s w hs (by omega) hy h2 h3
    · exact rrune_d s w hs (by omega) hy h2 h3
  · exact rrune_a s w (by omega) hy
end Go.Proofs.Ytecbdjhhdhpmhaa
