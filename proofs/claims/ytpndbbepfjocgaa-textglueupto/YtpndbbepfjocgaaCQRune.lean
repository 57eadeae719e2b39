import Derived.Test.YtpndbbepfjocgaaRefEsc
import Derived.Test.YtpndbbepfjocgaaRune
namespace Go.Proofs.Ytpndbbepfjocgaa
open Go.RowKit

def qhRef (s : ByteArray) (i : Nat) : Int × Int × Int :=
  if (readV (sub s i)).2.2.2 = 0 then ((readV (sub s i)).1, i + (readV (sub s i)).2.2.1, 0) else (0, i, (readV (sub s i)).2.2.2)
theorem qhRef_ok {s : ByteArray} {i : Nat} {x1 x3 : Int} {x2 : Bool} (h : readV (sub s i) = (x1, x2, x3, 0)) : qhRef s i = (x1, i + x3, 0) := by
  rw [qhRef, h]; simp
theorem qhRef_no {s : ByteArray} {i : Nat} {x1 x3 e : Int} {x2 : Bool} (h : readV (sub s i) = (x1, x2, x3, e)) (he : e ≠ 0) : qhRef s i = (0, (i : Int), e) := by
  rw [qhRef, h]; simp [he]
theorem qh_92 {s : ByteArray} {i : Nat} (hi : i < s.size) (hy : bt s i = 92) : qhRef s i = escRef s i := by
  have hf : firstN (sub s i) = 92 := by
    rw [first_sub s i hi, (dec_low s i hi (by omega)).2, hy]; rfl
  have htl : tl (sub s i) = sub s (i + 1) := by rw [tl_eq, sub_sub]
  have hr : readV (sub s i) = (if (escV (sub s (i + 1))).2.2.2 = true then ((escV (sub s (i + 1))).1, (escV (sub s (i + 1))).2.1, (escV (sub s (i + 1))).2.2.1, 0) else (0, false, 0, 12)) := by
    rw [readV, if_pos hf, htl]
  cases hok : (escV (sub s (i + 1))).2.2.2
  · rw [hok, if_neg (by simp)] at hr
    rw [qhRef_no hr (by simp), escRef, hok, if_neg (by simp)]
  · rw [hok, if_pos rfl] at hr
    rw [qhRef_ok hr, escRef, hok, if_pos rfl]

set_option maxRecDepth 100000 in
set_option maxHeartbeats 2000000 in
theorem qhing_92 (s : ByteArray) (i : Nat) (q : Int) (w : World) (hs : s.size ≤ 140737488355328) (hi : i < s.size) (hq : (bt s i : Int) ≠ q) (hy : bt s i = 92) :
    Calls Try.prog 53 #[.string s, .int .i64 i, .int .u8 q] w fun e w' => (∃ b, e = refR (qhRef s i) b) ∧ Below w.heap.size w w' := by
  rw [qh_92 hi hy]
  have hiI : (i : Int) < (s.size : Int) := by omega
  rw [hy] at hq
  have hqb : ((92 : Int) == q) = false := by simpa using hq
  rw [bt_eq s i hi] at hy
  obtain ⟨x, hx⟩ : ∃ x, escRef s i = x := ⟨_, rfl⟩
  have HX : Hid (escRef s i = x) := hx
  clear hq
  go_enter Try.func53, Try.ntmps53
  go_wp2_with (go_at_call 60; refine (resc_any s i _ hs hi).mono ?_; rintro e w1 ⟨⟨b, rfl⟩, hb1⟩; rw [HX.out, refR])
  refine bodyPost_ret (v := .tuple #[.string b, .int .i32 x.1, .int .i64 x.2.1, .bool false, .int .i64 x.2.2]) (by simp [results, Try.f53, go_sem]) rfl ?_
  exact ⟨⟨b, by rw [HX.out]; rfl⟩, hb1⟩
set_option maxRecDepth 100000 in
set_option maxHeartbeats 2000000 in
theorem qhing_10 (s : ByteArray) (i : Nat) (q : Int) (w : World) (hi : i < s.size) (hq : (bt s i : Int) ≠ q) (hy : bt s i < 32 ∨ bt s i = 127) :
    Calls Try.prog 53 #[.string s, .int .i64 i, .int .u8 q] w fun e w' => (∃ b, e = refR (qhRef s i) b) ∧ Below w.heap.size w w' := by
  have HE : Hid (qhRef s i = (0, (i : Int), 10)) := qhRef_no (x1 := 0) (x2 := false) (x3 := 0) (by
    have hf : firstN (sub s i) = bt s i := by rw [first_sub s i hi, (dec_low s i hi (by omega)).2]
    rw [readV, hf, if_neg (by omega), if_neg (by omega)]
    by_cases c : (bt s i : Int) < 32
    · rw [if_pos c]
    · rw [if_neg c, if_pos (by omega)]) (by simp)
  have hiI : (i : Int) < (s.size : Int) := by omega
  have hyl := bt_lt s i
  obtain ⟨y, hye⟩ : ∃ y, y = bt s i := ⟨_, rfl⟩
  rw [← hye] at hq hy hyl
  rw [bt_eq s i hi] at hye
  have hsy : (s[i]'hi).toNat = y := hye.symm
  clear hye
  have hqb : ((y : Int) == q) = false := by simpa using hq
  have h92 : ((y : Int) == 92) = false := by simp; omega
  clear hq
  rcases hy with a | rfl
  · have aI : (y : Int) < 32 := by omega
    go_enter Try.func53, Try.ntmps53
    go_wp2
    refine bodyPost_ret (v := .tuple #[.string ⟨#[]⟩, .int .i32 0, .int .i64 i, .bool false, .int .i64 10]) (by simp [results, Try.f53, go_sem]) rfl ?_
    exact ⟨⟨_, by rw [HE.out]; rfl⟩, Below.refl _ _⟩
  · go_enter Try.func53, Try.ntmps53
    go_wp2
    refine bodyPost_ret (v := .tuple #[.string ⟨#[]⟩, .int .i32 0, .int .i64 i, .bool false, .int .i64 10]) (by simp [results, Try.f53, go_sem]) rfl ?_
    exact ⟨⟨_, by rw [HE.out]; rfl⟩, Below.refl _ _⟩
set_option maxRecDepth 100000 in
set_option maxHeartbeats 2000000 in
theorem qhing_rest (s : ByteArray) (i : Nat) (q : Int) (w : World) (hs : s.size ≤ 140737488355328) (hi : i < s.size) (hq : (bt s i : Int) ≠ q) (h92 : bt s i ≠ 92) (h32 : 32 ≤ bt s i) (h127 : bt s i ≠ 127) :
    Calls Try.prog 53 #[.string s, .int .i64 i, .int .u8 q] w fun e w' => (∃ b, e = refR (qhRef s i) b) ∧ Below w.heap.size w w' := by
  have hf : firstN (sub s i) = numAt s i := first_sub s i hi
  have hwl := wid_le s i hi
  have hwp := wid_pos s i
  have hcase : (ra s i = (0, 0) ∧ qhRef s i = (0, (i : Int), 13)) ∨ (ra s i = (numAt s i, wid s i) ∧ qhRef s i = (numAt s i, (i : Int) + wid s i, 0)) := by
    rcases ra_num s i with ⟨e1, e2, _⟩ | ⟨e1, e2⟩
    · exact .inl ⟨e1, qhRef_no (x1 := 0) (x2 := false) (x3 := 0) (by rw [readV, hf, if_neg (by omega), if_pos (by omega)]) (by simp)⟩
    · have hn : numAt s i ≠ 92 ∧ 32 ≤ numAt s i ∧ numAt s i ≠ 127 := by
        by_cases c : bt s i < 128
        · rw [(dec_low s i hi c).2]; omega
        · have := (dec_high s i hi (by omega)).2.1; omega
      exact .inr ⟨e2, qhRef_ok (x2 := false) (by rw [readV, hf, if_neg hn.1, if_neg (by omega), if_neg (by omega), if_neg hn.2.2, runeLen_wid s i e1])⟩
  have hiI : (i : Int) < (s.size : Int) := by omega
  have hyl := bt_lt s i
  obtain ⟨y, hye⟩ : ∃ y, y = bt s i := ⟨_, rfl⟩
  rw [← hye] at hq hyl h92 h32 h127
  rw [bt_eq s i hi] at hye
  have hsy : (s[i]'hi).toNat = y := hye.symm
  clear hye
  have hqb : ((y : Int) == q) = false := by simpa using hq
  have h92b : ((y : Int) == 92) = false := by simp; omega
  have h127b : ((y : Int) == 127) = false := by simp; omega
  have h32I : ¬ (y : Int) < 32 := by omega
  clear hq hf
  rcases hcase with ⟨hr, ht⟩ | ⟨hr, ht⟩
  · have HR : Hid (ra s i = (0, 0)) := hr
    have HE : Hid (qhRef s i = (0, (i : Int), 13)) := ht
    clear hr ht
    go_enter Try.func53, Try.ntmps53
    go_wp2_with (go_at_call 29; refine (ra_any s i _ hs hi).mono ?_; rintro e w1 ⟨rfl, hw1⟩; rw [HR.out]; subst hw1)
    refine bodyPost_ret (v := .tuple #[.string ⟨#[]⟩, .int .i32 0, .int .i64 i, .bool false, .int .i64 13]) (by simp [results, Try.f53, go_sem]) rfl ?_
    exact ⟨⟨_, by rw [HE.out]; rfl⟩, Below.refl _ _⟩
  · obtain ⟨m, hm⟩ : ∃ m, wid s i = m := ⟨_, rfl⟩
    obtain ⟨r, hrr⟩ : ∃ r, numAt s i = r := ⟨_, rfl⟩
    rw [hm, hrr] at hr ht
    rw [hm] at hwl hwp
    have HR : Hid (ra s i = (r, m)) := hr
    have HE : Hid (qhRef s i = (r, (i : Int) + m, 0)) := ht
    clear hr ht hm hrr
    have hwlI : (i : Int) + m ≤ s.size := by omega
    have hm0 : ((m : Int) == 0) = false := by simp; omega
    have hsl := fun wx => run_slice_string (P := Try.prog) wx 9 s .i64 .i64 (i : Int) ((i : Int) + m) Try.underlying9 (by omega) (by omega) (by omega)
    obtain ⟨b, hb⟩ : ∃ b, s.extract (i : Int).toNat ((i : Int) + m).toNat = b := ⟨_, rfl⟩
    rw [hb] at hsl
    clear hb
    go_enter Try.func53, Try.ntmps53
    go_wp2_with (go_at_call 29; refine (ra_any s i _ hs hi).mono ?_; rintro e w1 ⟨rfl, hw1⟩; rw [HR.out]; subst hw1)
    refine bodyPost_ret (v := .tuple #[.string b, .int .i32 r, .int .i64 (i + m), .bool false, .int .i64 0]) (by simp [results, Try.f53, go_sem]) rfl ?_
    exact ⟨⟨_, by rw [HE.out]; rfl⟩, Below.refl _ _⟩
theorem qhing_any (s : ByteArray) (i : Nat) (q : Int) (w : World) (hs : s.size ≤ 140737488355328) (hi : i < s.size) (hq : (bt s i : Int) ≠ q) :
    Calls Try.prog 53 #[.string s, .int .i64 i, .int .u8 q] w fun e w' => (∃ b, e = refR (qhRef s i) b) ∧ Below w.heap.size w w' := by
  by_cases h : bt s i = 92
  · exact qhing_92 s i q w hs hi hq h
  by_cases h2 : bt s i < 32 ∨ bt s i = 127
  · exact qhing_10 s i q w hi hq h2
  · exact qhing_rest s i q w hs hi hq h (by omega) (by omega)
set_option maxRecDepth 100000 in
set_option maxHeartbeats 2000000 in
theorem qhing_q (s : ByteArray) (i : Nat) (q : Nat) (w : World) (hs : s.size ≤ 140737488355328) (hi : i < s.size) (hy : bt s i = q) :
    Calls Try.prog 53 #[.string s, .int .i64 i, .int .u8 q] w fun e w' => e = .returned (.tuple #[.string ⟨#[]⟩, .int .i32 0, .int .i64 (i + 1), .bool true, .int .i64 0]) ∧ w' = w := by
  have hiI : (i : Int) < (s.size : Int) := by omega
  rw [bt_eq s i hi] at hy
  go_enter Try.func53, Try.ntmps53
  go_wp2
  refine bodyPost_ret (v := .tuple #[.string ⟨#[]⟩, .int .i32 0, .int .i64 (i + 1), .bool true, .int .i64 0]) (by simp [results, Try.f53, go_sem]) rfl ?_
  exact ⟨rfl, rfl⟩
end Go.Proofs.Ytpndbbepfjocgaa
namespace Go.Proofs.Ytpndbbepfjocgaa
open Go.RowKit

set_option maxRecDepth 100000 in
set_option maxHeartbeats 2000000 in
theorem rrune_a0 (s : ByteArray) (w : World) (h : s.size = 0) :
    Calls Try.prog 42 #[.string s] w fun e w' => e = runeR (runeV s) ∧ Below w.heap.size w w' := by
  have HE : Hid (runeV s = (0, 0, 11)) := by rw [Hid, runeV, if_pos (by unfold qAt; simp [h])]
  go_enter Try.func42, Try.ntmps42
  go_wp2
  refine bodyPost_ret (results_tmp3 rfl _ _ _) rfl ?_
  exact ⟨by rw [HE.out]; rfl, Below.refl _ _⟩
set_option maxRecDepth 100000 in
set_option maxHeartbeats 2000000 in
theorem rrune_a (s : ByteArray) (w : World) (h : 0 < s.size) (hy : bt s 0 ≠ 39) :
    Calls Try.prog 42 #[.string s] w fun e w' => e = runeR (runeV s) ∧ Below w.heap.size w w' := by
  have HE : Hid (runeV s = (0, 0, 11)) := by rw [Hid, runeV, if_pos (by unfold qAt; simp [hy])]
  have hyl := bt_lt s 0
  obtain ⟨y, hye⟩ : ∃ y, y = bt s 0 := ⟨_, rfl⟩
  rw [← hye] at hy hyl
  rw [bt_eq s 0 h] at hye
  have hsy : (s[0]'h).toNat = y := hye.symm
  clear hye
  have hyb : ((y : Int) != 39) = true := by rw [bne_iff_ne]; omega
  have hnb : ((s.size : Int) == 0) = false := by rw [beq_eq_false_iff_ne]; omega
  go_enter Try.func42, Try.ntmps42
  go_wp2
  refine bodyPost_ret (results_tmp3 rfl _ _ _) rfl ?_
  exact ⟨by rw [HE.out]; rfl, Below.refl _ _⟩
set_option maxRecDepth 100000 in
set_option maxHeartbeats 2000000 in
theorem rrune_b (s : ByteArray) (w : World) (h : s.size = 1) (hy : bt s 0 = 39) :
    Calls Try.prog 42 #[.string s] w fun e w' => e = runeR (runeV s) ∧ Below w.heap.size w w' := by
  have HE : Hid (runeV s = (0, 1, 11)) := by rw [Hid, runeV, if_neg (by unfold qAt; simp [h, hy]), if_pos h]
  rw [bt_eq s 0 (by omega)] at hy
  go_enter Try.func42, Try.ntmps42
  go_wp2
  refine bodyPost_ret (results_tmp3 rfl _ _ _) rfl ?_
  exact ⟨by rw [HE.out]; rfl, Below.refl _ _⟩
set_option maxRecDepth 100000 in
set_option maxHeartbeats 2000000 in
theorem rrune_c (s : ByteArray) (w : World) (hs : s.size ≤ 140737488355328) (h : 1 < s.size) (hy : bt s 0 = 39) (h1 : bt s 1 = 39) :
    Calls Try.prog 42 #[.string s] w fun e w' => e = runeR (runeV s) ∧ Below w.heap.size w w' := by
  have hz : 0 < s.size := by omega
  have HE : Hid (runeV s = (0, 1, 10)) := by rw [Hid, runeV, if_neg (by unfold qAt; simp [hz, hy]), if_neg (by omega), if_pos h1]
  have hnb : ((s.size : Int) == 0) = false := by rw [beq_eq_false_iff_ne]; omega
  have hnc : ((s.size : Int) == 1) = false := by rw [beq_eq_false_iff_ne]; omega
  rw [bt_eq s 0 hz] at hy
  go_enter Try.func42, Try.ntmps42
  go_wp2_with (go_at_call 53; refine (qhing_q s 1 39 _ hs h h1).mono ?_; rintro e w1 ⟨rfl, hw1⟩; subst hw1)
  refine bodyPost_ret (results_tmp3 rfl _ _ _) rfl ?_
  exact ⟨by rw [HE.out]; rfl, Below.refl _ _⟩
set_option maxRecDepth 100000 in
set_option maxHeartbeats 2000000 in
theorem rrune_d (s : ByteArray) (w : World) (hs : s.size ≤ 140737488355328) (h : 1 < s.size) (hy : bt s 0 = 39) (h1 : bt s 1 ≠ 39) (h3 : (readV (sub s 1)).2.2.2 ≠ 0) :
    Calls Try.prog 42 #[.string s] w fun e w' => e = runeR (runeV s) ∧ Below w.heap.size w w' := by
  have hz : 0 < s.size := by omega
  have HE : Hid (runeV s = (0, 1, (readV (sub s 1)).2.2.2)) := by rw [Hid, runeV, if_neg (by unfold qAt; simp [hz, hy]), if_neg (by omega), if_neg h1, if_pos h3]
  have HT : Hid (qhRef s 1 = (0, 1, (readV (sub s 1)).2.2.2)) := by rw [Hid, qhRef, if_neg h3]; rfl
  obtain ⟨x, hx⟩ : ∃ x, (readV (sub s 1)).2.2.2 = x := ⟨_, rfl⟩
  rw [hx] at HE HT h3
  clear hx
  have hxb : (x == 0) = false := by simpa using h3
  have HV : Hid (∀ b, refR (0, 1, x) b = .returned (.tuple #[.string b, .int .i32 0, .int .i64 1, .bool false, .int .i64 x])) := fun b => rfl
  have hnb : ((s.size : Int) == 0) = false := by rw [beq_eq_false_iff_ne]; omega
  have hnc : ((s.size : Int) == 1) = false := by rw [beq_eq_false_iff_ne]; omega
  have h1I : ((bt s 1 : Nat) : Int) ≠ 39 := by omega
  rw [bt_eq s 0 hz] at hy
  go_enter Try.func42, Try.ntmps42
  go_wp2_with (go_at_call 53; refine (qhing_any s 1 39 _ hs h h1I).mono ?_; rintro e w1 ⟨⟨b, rfl⟩, hb1⟩; rw [HT.out, HV.out b])
  refine bodyPost_ret (results_tmp3 rfl _ _ _) rfl ?_
  exact ⟨by rw [HE.out]; rfl, hb1⟩
set_option maxRecDepth 100000 in
set_option maxHeartbeats 2000000 in
theorem rrune_e (s : ByteArray) (w : World) (hs : s.size ≤ 140737488355328) (h : 1 < s.size) (hy : bt s 0 = 39) (h1 : bt s 1 ≠ 39) (h3 : (readV (sub s 1)).2.2.2 = 0) :
    Calls Try.prog 42 #[.string s] w fun e w' => e = runeR (runeV s) ∧ Below w.heap.size w w' := by
  have hz : 0 < s.size := by omega
  have hsz := read_size (u := sub s 1) (by rw [sub_size]; omega) h3
  rw [sub_size] at hsz
  obtain ⟨m, hm⟩ : ∃ m : Nat, (readV (sub s 1)).2.2.1 = m := ⟨(readV (sub s 1)).2.2.1.toNat, by omega⟩
  have hq0 : ¬ qAt s 0 = false := by unfold qAt; simp [hz, hy]
  have HB : Hid (runeV s = if qAt s (1 + m) = false then (0, 1 + (m : Int), 11) else if (1 + (m : Int)) + 1 < s.size then (0, 1 + (m : Int) + 1, 10) else ((readV (sub s 1)).1, 0, 0)) := by
    have e : (1 + (m : Int)).toNat = 1 + m := by omega
    rw [Hid, runeV, if_neg hq0, if_neg (by omega), if_neg h1, hm, e, h3, if_neg (by simp)]
  have HT : Hid (qhRef s 1 = ((readV (sub s 1)).1, 1 + (m : Int), 0)) := by rw [Hid, qhRef, if_pos h3, hm]; rfl
  rw [hm] at hsz
  obtain ⟨x, hx⟩ : ∃ x, (readV (sub s 1)).1 = x := ⟨_, rfl⟩
  rw [hx] at HB HT
  clear hx hm h3 hq0
  have HV : Hid (∀ b, refR (x, 1 + (m : Int), 0) b = .returned (.tuple #[.string b, .int .i32 x, .int .i64 (1 + m), .bool false, .int .i64 0])) := fun b => rfl
  have hnb : ((s.size : Int) == 0) = false := by rw [beq_eq_false_iff_ne]; omega
  have hnc : ((s.size : Int) == 1) = false := by rw [beq_eq_false_iff_ne]; omega
  have h1I : ((bt s 1 : Nat) : Int) ≠ 39 := by omega
  rw [bt_eq s 0 hz] at hy
  obtain ⟨hs0, hs1⟩ := hsz
  by_cases hlt : 1 + m < s.size
  · have hltI : 1 + (m : Int) < (s.size : Int) := by omega
    have hyl := bt_lt s (1 + m)
    obtain ⟨y, hye⟩ : ∃ y, y = bt s (1 + m) := ⟨_, rfl⟩
    have hye' := hye
    rw [← hye] at hyl
    rw [bt_eq s (1 + m) hlt] at hye
    have hsy : (s[1 + m]'hlt).toNat = y := hye.symm
    clear hye
    by_cases hyq : y = 39
    · have hqt : ¬ qAt s (1 + m) = false := by unfold qAt; simp [hlt, ← hye', hyq]
      clear hye'
      subst hyq
      by_cases hmo : 1 + m + 1 < s.size
      · have HE : Hid (runeV s = (0, 1 + (m : Int) + 1, 10)) := by rw [Hid, HB.out, if_neg hqt, if_pos (by omega)]
        have hmI : 1 + (m : Int) + 1 < (s.size : Int) := by omega
        clear HB hqt
        go_enter Try.func42, Try.ntmps42
        go_wp2_with (go_at_call 53; refine (qhing_any s 1 39 _ hs h h1I).mono ?_; rintro e w1 ⟨⟨b, rfl⟩, hb1⟩; rw [HT.out, HV.out b])
        refine bodyPost_ret (results_tmp3 rfl _ _ _) rfl ?_
        exact ⟨by rw [HE.out]; rfl, hb1⟩
      · have HE : Hid (runeV s = (x, 0, 0)) := by rw [Hid, HB.out, if_neg hqt, if_neg (by omega)]
        have hmI : ¬ 1 + (m : Int) + 1 < (s.size : Int) := by omega
        clear HB hqt
        go_enter Try.func42, Try.ntmps42
        go_wp2_with (go_at_call 53; refine (qhing_any s 1 39 _ hs h h1I).mono ?_; rintro e w1 ⟨⟨b, rfl⟩, hb1⟩; rw [HT.out, HV.out b])
        refine bodyPost_ret (results_tmp3 rfl _ _ _) rfl ?_
        exact ⟨by rw [HE.out]; rfl, hb1⟩
    · have HE : Hid (runeV s = (0, 1 + (m : Int), 11)) := by
        rw [Hid, HB.out, if_pos]
        unfold qAt; simp only [decide_eq_false_iff_not]; intro c; exact hyq (hye'.trans c.2)
      have hyb : ((y : Int) != 39) = true := by rw [bne_iff_ne]; omega
      clear HB hye'
      go_enter Try.func42, Try.ntmps42
      go_wp2_with (go_at_call 53; refine (qhing_any s 1 39 _ hs h h1I).mono ?_; rintro e w1 ⟨⟨b, rfl⟩, hb1⟩; rw [HT.out, HV.out b])
      refine bodyPost_ret (results_tmp3 rfl _ _ _) rfl ?_
      exact ⟨by rw [HE.out]; rfl, hb1⟩
  · have HE : Hid (runeV s = (0, 1 + (m : Int), 11)) := by
      rw [Hid, HB.out, if_pos]
      unfold qAt; simp [hlt]
    have hltI : ¬ 1 + (m : Int) < (s.size : Int) := by omega
    clear HB
    go_enter Try.func42, Try.ntmps42
    go_wp2_with (go_at_call 53; refine (qhing_any s 1 39 _ hs h h1I).mono ?_; rintro e w1 ⟨⟨b, rfl⟩, hb1⟩; rw [HT.out, HV.out b])
    refine bodyPost_ret (results_tmp3 rfl _ _ _) rfl ?_
    exact ⟨by rw [HE.out]; rfl, hb1⟩
theorem rrune_any (s : ByteArray) (w : World) (hs : s.size ≤ 140737488355328) :
    Calls Try.prog 42 #[.string s] w fun e w' => e = runeR (runeV s) ∧ Below w.heap.size w w' := by
  by_cases h0 : s.size = 0
  · exact rrune_a0 s w h0
  by_cases hy : bt s 0 = 39
  · by_cases h1 : s.size = 1
    · exact rrune_b s w h1 hy
    by_cases h2 : bt s 1 = 39
    · exact rrune_c s w hs (by omega) hy h2
    by_cases h3 : (readV (sub s 1)).2.2.2 = 0
    · exact rrune_e s w hs (by omega) hy h2 h3
    · exact rrune_d s w hs (by omega) hy h2 h3
  · exact rrune_a s w (by omega) hy
end Go.Proofs.Ytpndbbepfjocgaa
