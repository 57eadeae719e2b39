import Derived.Test.YtpndbbepfjocgaaRdMath
import Derived.OwnWalk
namespace Go.Proofs.Ytpndbbepfjocgaa
open Go.RowKit

theorem esc_size {t : ByteArray} (h : (escV t).2.2.2 = true) : 2 ≤ (escV t).2.2.1 ∧ (escV t).2.2.1 ≤ t.size + 1 := by
  have hn : ∀ n, 0 < n → numOk (tl t) n = true → n ≤ t.size - 1 := by
    intro n h0 hk
    unfold numOk hexesAt at hk
    have := of_decide_eq_true hk
    split at this
    · rename_i c
      have := c.1
      rw [tl_size] at this
      omega
    · omega
  have h2 := hn 2 (by omega)
  have h4 := hn 4 (by omega)
  revert h
  unfold escV
  repeat' split
  all_goals intro h
  all_goals simp only at h ⊢
  all_goals first | contradiction | omega | (have := h2 h; omega) | (simp only [Bool.and_eq_true] at h; have := h4 h.1; omega)
theorem read_size {u : ByteArray} (hz : 0 < u.size) (h : (readV u).2.2.2 = 0) : 1 ≤ (readV u).2.2.1 ∧ (readV u).2.2.1 ≤ u.size := by
  revert h
  unfold readV
  split
  · split
    · rename_i hok
      intro _
      have := esc_size hok
      rw [tl_size] at this
      simp only
      omega
    · intro h; simp at h
  · split
    · intro h; simp at h
    · split
      · intro h; simp at h
      · split
        · intro h; simp at h
        · intro _
          have e : firstN u = numAt u 0 := by unfold firstN; rw [if_pos hz]
          simp only
          rw [e, runeLen_wid u 0 (by omega)]
          have h1 := wid_pos u 0
          have h2 := wid_le u 0 hz
          omega
theorem pre1 (l : List UInt8) : Lib.hasPrefix l [39] = match l with | [] => false | b :: _ => decide (b = 39) := by
  cases l with
  | nil => rfl
  | cons b t =>
    simp only [Lib.hasPrefix, List.isPrefixOf, Bool.and_true]
    by_cases c : b = 39
    · subst c; rfl
    · have : ((39 : UInt8) == b) = false := by rw [beq_eq_false_iff_ne]; exact fun h => c h.symm
      rw [this]; simp [c]
def qAt (s : ByteArray) (i : Nat) : Bool := decide (i < s.size ∧ bt s i = 39)
theorem pre_q (s : ByteArray) (i : Nat) : Lib.hasPrefix (s.data.toList.drop i) [39] = qAt s i := by
  have hl : s.data.toList.length = s.size := by rw [Array.length_toList]; rfl
  rw [pre1]
  unfold qAt
  by_cases h : i < s.size
  · obtain ⟨b, e, hb⟩ := bt_list s i h
    have hlt : i < s.data.toList.length := by omega
    rw [List.drop_eq_getElem_cons hlt]
    have e2 : s.data.toList[i] = b := by
      rw [List.getElem?_eq_getElem hlt] at e; injection e
    rw [e2, ← hb]
    simp only [h, true_and]
    by_cases c : b = 39
    · rw [c]; rfl
    · have c' : b.toNat ≠ 39 := fun k => c (by apply UInt8.toNat.inj; rw [k]; rfl)
      simp [c, c']
  · rw [List.drop_eq_nil_of_le (by omega)]
    simp [h]
abbrev Rv := Int × Int × Int
def runeV (s : ByteArray) : Rv :=
  if qAt s 0 = false then (0, 0, 11)
  else if s.size = 1 then (0, 1, 11)
  else if bt s 1 = 39 then (0, 1, 10)
  else if (readV (sub s 1)).2.2.2 ≠ 0 then (0, 1, (readV (sub s 1)).2.2.2)
  else if qAt s (1 + (readV (sub s 1)).2.2.1).toNat = false then (0, 1 + (readV (sub s 1)).2.2.1, 11)
  else if (1 + (readV (sub s 1)).2.2.1) + 1 < s.size then (0, 1 + (readV (sub s 1)).2.2.1 + 1, 10)
  else ((readV (sub s 1)).1, 0, 0)
def runeR (x : Rv) : Ending := .returned (.tuple #[.int .i32 x.1, .int .i64 x.2.1, .int .i64 x.2.2])
theorem pre_0 (s : ByteArray) : Lib.hasPrefix s.data.toList [39] = qAt s 0 := by
  rw [← pre_q, List.drop_zero]

set_option maxRecDepth 100000 in
set_option maxHeartbeats 2000000 in
theorem rune_a (s : ByteArray) (w : World) (h0 : qAt s 0 = false) :
    Calls Try.prog 51 #[.string s] w fun e w' => e = runeR (runeV s) ∧ Below w.heap.size w w' := by
  have HE : Hid (runeV s = (0, 0, 11)) := by rw [Hid, runeV, if_pos h0]
  have HP : Hid (Lib.hasPrefix s.data.toList [39] = false) := by rw [Hid, pre_0]; exact h0
  clear h0
  go_enter Try.func51, Try.ntmps51
  go_wp2_with (go_at_call 46; refine (Try.strings_HasPrefix _ _ _).mono ?_; rintro e w1 ⟨rfl, hw'⟩; have hp := HP.out; rw [hp]; subst hw')
  refine bodyPost_ret (results_tmp3 rfl _ _ _) rfl ?_
  exact ⟨by rw [HE.out]; rfl, Below.refl _ _⟩

set_option maxRecDepth 100000 in
set_option maxHeartbeats 2000000 in
theorem rune_b (s : ByteArray) (w : World) (h0 : qAt s 0 = true) (h1 : s.size = 1) :
    Calls Try.prog 51 #[.string s] w fun e w' => e = runeR (runeV s) ∧ Below w.heap.size w w' := by
  have HE : Hid (runeV s = (0, 1, 11)) := by rw [Hid, runeV, if_neg (by rw [h0]; simp), if_pos h1]
  have HP : Hid (Lib.hasPrefix s.data.toList [39] = true) := by rw [Hid, pre_0]; exact h0
  clear h0
  go_enter Try.func51, Try.ntmps51
  go_wp2_with (go_at_call 46; refine (Try.strings_HasPrefix _ _ _).mono ?_; rintro e w1 ⟨rfl, hw'⟩; have hp := HP.out; rw [hp]; subst hw')
  refine bodyPost_ret (results_tmp3 rfl _ _ _) rfl ?_
  exact ⟨by rw [HE.out]; rfl, Below.refl _ _⟩
set_option maxRecDepth 100000 in
set_option maxHeartbeats 2000000 in
theorem rune_c (s : ByteArray) (w : World) (h0 : qAt s 0 = true) (h1 : 1 < s.size) (h2 : bt s 1 = 39) :
    Calls Try.prog 51 #[.string s] w fun e w' => e = runeR (runeV s) ∧ Below w.heap.size w w' := by
  have HE : Hid (runeV s = (0, 1, 10)) := by rw [Hid, runeV, if_neg (by rw [h0]; simp), if_neg (by omega), if_pos h2]
  have HP : Hid (Lib.hasPrefix s.data.toList [39] = true) := by rw [Hid, pre_0]; exact h0
  rw [bt_eq s 1 h1] at h2
  have hn : ¬ s.size = 1 := by omega
  have hnI : ¬ (s.size : Int) = 1 := by omega
  clear h0
  go_enter Try.func51, Try.ntmps51
  go_wp2_with (go_at_call 46; refine (Try.strings_HasPrefix _ _ _).mono ?_; rintro e w1 ⟨rfl, hw'⟩; have hp := HP.out; rw [hp]; subst hw')
  refine bodyPost_ret (results_tmp3 rfl _ _ _) rfl ?_
  exact ⟨by rw [HE.out]; rfl, Below.refl _ _⟩
set_option maxRecDepth 100000 in
set_option maxHeartbeats 2000000 in
theorem rune_d (s : ByteArray) (w : World) (hs : s.size ≤ 140737488355328) (h0 : qAt s 0 = true) (h1 : 1 < s.size) (h2 : bt s 1 ≠ 39) (h3 : (readV (sub s 1)).2.2.2 ≠ 0) :
    Calls Try.prog 51 #[.string s] w fun e w' => e = runeR (runeV s) ∧ Below w.heap.size w w' := by
  have HE : Hid (runeV s = (0, 1, (readV (sub s 1)).2.2.2)) := by rw [Hid, runeV, if_neg (by rw [h0]; simp), if_neg (by omega), if_neg h2, if_pos h3]
  have HP : Hid (Lib.hasPrefix s.data.toList [39] = true) := by rw [Hid, pre_0]; exact h0
  obtain ⟨y, hy⟩ : ∃ y, y = bt s 1 := ⟨_, rfl⟩
  have hyl := bt_lt s 1
  rw [← hy] at h2 hyl
  rw [bt_eq s 1 h1] at hy
  have hsy : (s[1]'h1).toNat = y := hy.symm
  clear hy
  have hyI : ¬ (y : Int) = 39 := by omega
  have hn : ¬ s.size = 1 := by omega
  have hnI : ¬ (s.size : Int) = 1 := by omega
  obtain ⟨u, hu⟩ : ∃ u, s.extract 1 s.size = u := ⟨_, rfl⟩
  have HU : Hid (sub s 1 = u) := hu
  have husz : u.size ≤ 140737488355328 := by rw [← HU.out, sub_size]; omega
  rw [HU.out] at h3
  obtain ⟨x, hx⟩ : ∃ x, readV u = x := ⟨_, rfl⟩
  have HX : Hid (readV u = x) := hx
  rw [hx] at h3
  obtain ⟨x1, x2, x3, x4⟩ := x
  simp only at h3
  have h3b : (x4 == 0) = false := by simpa using h3
  clear hx h0
  have HV : Hid (readR (x1, x2, x3, x4) = .returned (.tuple #[.agg #[.int .i32 x1, .bool x2, .int .i64 x3], .int .i64 x4])) := rfl
  go_enter Try.func51, Try.ntmps51
  go_wp2_with (first | (go_at_call 46; refine (Try.strings_HasPrefix _ _ _).mono ?_; rintro e w1 ⟨rfl, hw'⟩; have hp := HP.out; rw [hp]; subst hw') | (go_at_call 57; refine (read_any u _ husz).mono ?_; rintro e w1 ⟨rfl, hb1⟩; rw [HX.out, HV.out]))
  refine bodyPost_ret (results_tmp3 rfl _ _ _) rfl ?_
  exact ⟨by rw [HE.out, HU.out, HX.out]; rfl, hb1.alloc (by have := hb1.size; omega) _⟩
set_option maxRecDepth 100000 in
set_option maxHeartbeats 2000000 in
theorem rune_e (s : ByteArray) (w : World) (hs : s.size ≤ 140737488355328) (h0 : qAt s 0 = true) (h1 : 1 < s.size) (h2 : bt s 1 ≠ 39) (h3 : (readV (sub s 1)).2.2.2 = 0) :
    Calls Try.prog 51 #[.string s] w fun e w' => e = runeR (runeV s) ∧ Below w.heap.size w w' := by
  have HP : Hid (Lib.hasPrefix s.data.toList [39] = true) := by rw [Hid, pre_0]; exact h0
  have hsz := read_size (u := sub s 1) (by rw [sub_size]; omega) h3
  obtain ⟨y, hy⟩ : ∃ y, y = bt s 1 := ⟨_, rfl⟩
  have hyl := bt_lt s 1
  have h2' := h2
  rw [← hy] at h2 hyl
  rw [bt_eq s 1 h1] at hy
  have hsy : (s[1]'h1).toNat = y := hy.symm
  clear hy
  have hyI : ¬ (y : Int) = 39 := by omega
  have hn : ¬ s.size = 1 := by omega
  have hnI : ¬ (s.size : Int) = 1 := by omega
  obtain ⟨u, hu⟩ : ∃ u, s.extract 1 s.size = u := ⟨_, rfl⟩
  have HU : Hid (sub s 1 = u) := hu
  have husz : u.size ≤ 140737488355328 := by rw [← HU.out, sub_size]; omega
  have hus1 : u.size + 1 = s.size := by rw [← HU.out, sub_size]; omega
  rw [HU.out] at h3 hsz
  obtain ⟨x, hx⟩ : ∃ x, readV u = x := ⟨_, rfl⟩
  have HX : Hid (readV u = x) := hx
  rw [hx] at h3 hsz
  obtain ⟨x1, x2, x3, x4⟩ := x
  simp only at h3 hsz
  subst h3
  obtain ⟨m, rfl⟩ : ∃ m : Nat, x3 = m := ⟨x3.toNat, by omega⟩
  obtain ⟨hm0, hm1⟩ := hsz
  have hm2 : 1 + m ≤ s.size := by omega
  have hm2I : 1 + (m : Int) ≤ (s.size : Int) := by omega
  have HB : Hid (runeV s = if qAt s (1 + m) = false then (0, 1 + (m : Int), 11) else if (1 + (m : Int)) + 1 < s.size then (0, 1 + (m : Int) + 1, 10) else (x1, 0, 0)) := by
    have e : (1 + (m : Int)).toNat = 1 + m := by omega
    rw [Hid, runeV, if_neg (by rw [h0]; simp), if_neg (by omega), if_neg h2', HU.out, HX.out]
    simp only [e]
    rw [if_neg (by simp)]
  clear hx h0 h2'
  have HV : Hid (readR (x1, x2, (m : Int), 0) = .returned (.tuple #[.agg #[.int .i32 x1, .bool x2, .int .i64 m], .int .i64 0])) := rfl
  obtain ⟨q, hq⟩ : ∃ q, s.extract (1 + m) s.size = q := ⟨_, rfl⟩
  have HQ : Hid (Lib.hasPrefix q.data.toList [39] = qAt s (1 + m)) := by
    rw [Hid, ← hq]; show Lib.hasPrefix (sub s (1 + m)).data.toList [39] = _
    rw [sub_list, pre_q]
  cases hqq : qAt s (1 + m)
  · have HE : Hid (runeV s = (0, 1 + (m : Int), 11)) := by rw [Hid, HB.out, if_pos hqq]
    have HQ' : Hid (Lib.hasPrefix q.data.toList [39] = false) := by rw [Hid, HQ.out, hqq]
    clear HQ HB hqq
    go_enter Try.func51, Try.ntmps51
    go_wp2_with (first | (go_at_call 57; refine (read_any u _ husz).mono ?_; rintro e w1 ⟨rfl, hb1⟩; rw [HX.out, HV.out]) | (go_at_call 46; refine (Try.strings_HasPrefix _ _ _).mono ?_; rintro e w' ⟨rfl, hw'⟩; first | (have hp := HP.out; rw [hp]) | (have hp := HQ'.out; rw [hp]); subst hw'))
    refine bodyPost_ret (results_tmp3 rfl _ _ _) rfl ?_
    exact ⟨by rw [HE.out]; rfl, hb1.alloc (by have := hb1.size; omega) _⟩
  · by_cases hlt : 1 + m + 1 < s.size
    · have HE : Hid (runeV s = (0, 1 + (m : Int) + 1, 10)) := by rw [Hid, HB.out, hqq, if_neg (by simp), if_pos (by omega)]
      have HQ' : Hid (Lib.hasPrefix q.data.toList [39] = true) := by rw [Hid, HQ.out, hqq]
      have hltI : 1 + (m : Int) + 1 < (s.size : Int) := by omega
      clear HQ HB hqq
      go_enter Try.func51, Try.ntmps51
      go_wp2_with (first | (go_at_call 57; refine (read_any u _ husz).mono ?_; rintro e w1 ⟨rfl, hb1⟩; rw [HX.out, HV.out]) | (go_at_call 46; refine (Try.strings_HasPrefix _ _ _).mono ?_; rintro e w' ⟨rfl, hw'⟩; first | (have hp := HP.out; rw [hp]) | (have hp := HQ'.out; rw [hp]); subst hw'))
      refine bodyPost_ret (results_tmp3 rfl _ _ _) rfl ?_
      exact ⟨by rw [HE.out]; rfl, hb1.alloc (by have := hb1.size; omega) _⟩
    · have HE : Hid (runeV s = (x1, 0, 0)) := by rw [Hid, HB.out, hqq, if_neg (by simp), if_neg (by omega)]
      have HQ' : Hid (Lib.hasPrefix q.data.toList [39] = true) := by rw [Hid, HQ.out, hqq]
      have hltI : ¬ 1 + (m : Int) + 1 < (s.size : Int) := by omega
      clear HQ HB hqq
      go_enter Try.func51, Try.ntmps51
      go_wp2_with (first | (go_at_call 57; refine (read_any u _ husz).mono ?_; rintro e w1 ⟨rfl, hb1⟩; rw [HX.out, HV.out]) | (go_at_call 46; refine (Try.strings_HasPrefix _ _ _).mono ?_; rintro e w' ⟨rfl, hw'⟩; first | (have hp := HP.out; rw [hp]) | (have hp := HQ'.out; rw [hp]); subst hw'))
      refine bodyPost_ret (results_tmp3 rfl _ _ _) rfl ?_
      exact ⟨by rw [HE.out]; rfl, hb1.alloc (by have := hb1.size; omega) _⟩
theorem rune_any (s : ByteArray) (w : World) (hs : s.size ≤ 140737488355328) :
    Calls Try.prog 51 #[.string s] w fun e w' => e = runeR (runeV s) ∧ Below w.heap.size w w' := by
  cases h0 : qAt s 0
  · exact rune_a s w h0
  have hz : 0 < s.size := (of_decide_eq_true h0).1
  by_cases h1 : s.size = 1
  · exact rune_b s w h0 h1
  by_cases h2 : bt s 1 = 39
  · exact rune_c s w h0 (by omega) h2
  by_cases h3 : (readV (sub s 1)).2.2.2 = 0
  · exact rune_e s w hs h0 (by omega) h2 h3
  · exact rune_d s w hs h0 (by omega) h2 h3
end Go.Proofs.Ytpndbbepfjocgaa
