import Derived.Test.YtpndbbepfjocgaaRefEsc
import Derived.Test.YtpndbbepfjocgaaRune
import Derived.Test.YtpndbbepfjocgaaBEsc
import Derived.Test.YtpndbbepfjocgaaCodeMath
import Derived.Laws.BytesArg
namespace Go.Proofs.Ytpndbbepfjocgaa
open Go.RowKit

/-- the bytes that a piece stands for -/
def pb (x : Piece) : List Int := if x.2.1 = true then [x.1] else Lib.encodeRuneZ x.1
def BP (s : ByteArray) (i : Nat) (b : ByteArray) : Prop := (readV (sub s i)).2.2.2 = 0 → b = strOfNums (pb (readV (sub s i)))
theorem codeL_enc {r : Int} (h : Lib.validRune r = true) : codeL r = Lib.encodeRuneZ r := by
  have hv : (0 ≤ r ∧ r < 55296) ∨ (57343 < r ∧ r ≤ 1114111) := by simpa [Lib.validRune] using h
  unfold codeL Lib.encodeRuneZ
  rw [if_neg (by rw [h]; decide)]
  by_cases a1 : r < 128
  · rw [if_pos a1, if_pos (by omega)]
  · rw [if_neg a1, if_neg (show ¬ (0 ≤ r ∧ r ≤ 127) by omega)]
    by_cases a2 : r < 2048
    · rw [if_pos a2, if_pos (by omega)]
    · rw [if_neg a2, if_neg (show ¬ (128 ≤ r ∧ r ≤ 2047) by omega)]
      by_cases a3 : r < 65536
      · rw [if_pos a3, if_pos (by omega)]
      · rw [if_neg a3, if_neg (show ¬ ((2048 ≤ r ∧ r < 55296) ∨ (57343 < r ∧ r ≤ 65535)) by omega), if_pos (by omega)]
theorem esc_valid (t : ByteArray) (h : (escV t).2.2.2 = true) (h1 : (escV t).2.1 = false) : Lib.validRune (escV t).1 = true := by
  revert h h1
  unfold escV
  repeat' split
  all_goals simp
theorem enc_same {r : Int} (h0 : 0 ≤ r) (h1 : r ≤ 1114111) (h2 : ¬ (55296 ≤ r ∧ r ≤ 57343)) : encZ r = Lib.encodeRuneZ r := by
  unfold Lib.encodeRuneZ
  by_cases a1 : r < 128
  · rw [encZ_1 a1, if_pos (by omega)]
  · rw [if_neg (by omega)]
    by_cases a2 : r < 2048
    · rw [encZ_2 (by omega) a2, if_pos (by omega)]
    · rw [if_neg (by omega)]
      by_cases a3 : r < 65536
      · rw [encZ_3 (by omega) a3, if_pos (by omega)]
      · rw [encZ_4 (by omega), if_neg (by omega), if_pos (by omega)]
theorem ext_str (s : ByteArray) (i : Nat) (hi : i < s.size) (h0 : 0 ≤ numAt s i) : s.extract i (i + wid s i) = strOfNums (Lib.encodeRuneZ (numAt s i)) := by
  obtain ⟨c1, c2, c3⟩ := code_cut s i hi h0
  rw [← enc_same h0 (numAt_range s i).2 c2]
  apply ba_ext
  rw [strOfNums_data]
  have hwl := wid_le s i hi
  have hl : s.data.toList.length = s.size := by rw [Array.length_toList]; rfl
  apply List.ext_getElem
  · rw [Lib.extract_data]; simp [c1]; omega
  · intro j h1 h2
    have hj : j < (encZ (numAt s i)).length := by simpa using h2
    obtain ⟨d1, d2⟩ := c3 j hj
    have e1 : (bt s (i + j)) = (s.data.toList[i + j]'(by omega)).toNat := bt_eq s (i + j) d1
    have e2 : (encZ (numAt s i)).getD j 0 = (encZ (numAt s i))[j] := by simp [List.getD, List.getElem?_eq_getElem hj]
    rw [e2] at d2
    simp only [Lib.extract_data, List.getElem_map]
    rw [← d2, e1]
    simp

def thRef (s : ByteArray) (i : Nat) : Int × Int × Int :=
  if (readV (sub s i)).2.2.2 = 0 then ((readV (sub s i)).1, i + (readV (sub s i)).2.2.1, 0) else (0, i, (readV (sub s i)).2.2.2)
theorem bp_92 {s : ByteArray} {i : Nat} (hi : i < s.size) (hy : bt s i = 92) : BP s i (strOfNums (escB s i)) := by
  have hf : firstN (sub s i) = 92 := by
    rw [first_sub s i hi, (dec_low s i hi (by omega)).2, hy]; rfl
  have htl : tl (sub s i) = sub s (i + 1) := by rw [tl_eq, sub_sub]
  have hr : readV (sub s i) = (if (escV (sub s (i + 1))).2.2.2 = true then ((escV (sub s (i + 1))).1, (escV (sub s (i + 1))).2.1, (escV (sub s (i + 1))).2.2.1, 0) else (0, false, 0, 12)) := by
    rw [readV, if_pos hf, htl]
  intro hok
  cases hk : (escV (sub s (i + 1))).2.2.2
  · rw [hk, if_neg (by simp)] at hr
    rw [hr] at hok
    simp at hok
  · rw [hk, if_pos rfl] at hr
    rw [hr, pb, escB, if_pos hk]
    cases h2 : (escV (sub s (i + 1))).2.1
    · rw [if_neg (by decide), if_neg (by simp), codeL_enc (esc_valid _ hk h2)]
    · rfl
theorem bp_no {s : ByteArray} {i : Nat} {b : ByteArray} {x1 x3 e : Int} {x2 : Bool} (h : readV (sub s i) = (x1, x2, x3, e)) (he : e ≠ 0) : BP s i b := fun hk => absurd (by rw [h] at hk; exact hk) he
theorem thRef_ok {s : ByteArray} {i : Nat} {x1 x3 : Int} {x2 : Bool} (h : readV (sub s i) = (x1, x2, x3, 0)) : thRef s i = (x1, i + x3, 0) := by
  rw [thRef, h]; simp
theorem thRef_no {s : ByteArray} {i : Nat} {x1 x3 e : Int} {x2 : Bool} (h : readV (sub s i) = (x1, x2, x3, e)) (he : e ≠ 0) : thRef s i = (0, (i : Int), e) := by
  rw [thRef, h]; simp [he]
theorem th_92 {s : ByteArray} {i : Nat} (hi : i < s.size) (hy : bt s i = 92) : thRef s i = escRef s i := by
  have hf : firstN (sub s i) = 92 := by
    rw [first_sub s i hi, (dec_low s i hi (by omega)).2, hy]; rfl
  have htl : tl (sub s i) = sub s (i + 1) := by rw [tl_eq, sub_sub]
  have hr : readV (sub s i) = (if (escV (sub s (i + 1))).2.2.2 = true then ((escV (sub s (i + 1))).1, (escV (sub s (i + 1))).2.1, (escV (sub s (i + 1))).2.2.1, 0) else (0, false, 0, 12)) := by
    rw [readV, if_pos hf, htl]
  cases hok : (escV (sub s (i + 1))).2.2.2
  · rw [hok, if_neg (by simp)] at hr
    rw [thRef_no hr (by simp), escRef, hok, if_neg (by simp)]
  · rw [hok, if_pos rfl] at hr
    rw [thRef_ok hr, escRef, hok, if_pos rfl]

set_option maxRecDepth 100000 in
set_option maxHeartbeats 2000000 in
theorem thing_92 (s : ByteArray) (i : Nat) (q : Int) (w : World) (hs : s.size ≤ 140737488355328) (hi : i < s.size) (hq : (bt s i : Int) ≠ q) (hy : bt s i = 92) :
    Calls Try.prog 53 #[.string s, .int .i64 i, .int .u8 q] w fun e w' => (∃ b, e = refR (thRef s i) b ∧ BP s i b) ∧ Below w.heap.size w w' := by
  rw [th_92 hi hy]
  have hbp := bp_92 hi hy
  have hiI : (i : Int) < (s.size : Int) := by omega
  rw [hy] at hq
  have hqb : ((92 : Int) == q) = false := by simpa using hq
  rw [bt_eq s i hi] at hy
  obtain ⟨x, hx⟩ : ∃ x, escRef s i = x := ⟨_, rfl⟩
  have HX : Hid (escRef s i = x) := hx
  have HBP : Hid (BP s i (strOfNums (escB s i))) := hbp
  obtain ⟨b, hb⟩ : ∃ b, strOfNums (escB s i) = b := ⟨_, rfl⟩
  have HB : Hid (strOfNums (escB s i) = b) := hb
  clear hq hb hbp
  go_enter Try.func53, Try.ntmps53
  go_wp2_with (go_at_call 60; refine (besc_any s i _ hs hi).mono ?_; rintro e w1 ⟨rfl, hb1⟩; rw [HX.out, HB.out, refR])
  refine bodyPost_ret (v := .tuple #[.string b, .int .i32 x.1, .int .i64 x.2.1, .bool false, .int .i64 x.2.2]) (by simp [results, Try.f53, go_sem]) rfl ?_
  exact ⟨⟨b, by rw [HX.out]; rfl, by rw [← HB.out]; exact HBP.out⟩, hb1⟩
set_option maxRecDepth 100000 in
set_option maxHeartbeats 2000000 in
theorem thing_10 (s : ByteArray) (i : Nat) (q : Int) (w : World) (hi : i < s.size) (hq : (bt s i : Int) ≠ q) (hy : bt s i < 32 ∨ bt s i = 127) :
    Calls Try.prog 53 #[.string s, .int .i64 i, .int .u8 q] w fun e w' => (∃ b, e = refR (thRef s i) b ∧ BP s i b) ∧ Below w.heap.size w w' := by
  have hrv : readV (sub s i) = (0, false, 0, 10) := by
    have hf : firstN (sub s i) = bt s i := by rw [first_sub s i hi, (dec_low s i hi (by omega)).2]
    rw [readV, hf, if_neg (by omega), if_neg (by omega)]
    by_cases c : (bt s i : Int) < 32
    · rw [if_pos c]
    · rw [if_neg c, if_pos (by omega)]
  have HE : Hid (thRef s i = (0, (i : Int), 10)) := thRef_no hrv (by simp)
  have HBP : Hid (∀ b, BP s i b) := fun b => bp_no hrv (by simp)
  clear hrv
  have hiI : (i : Int) < (s.size : Int) := by omega
  have hyl := bt_lt s i
  obtain ⟨y, hye⟩ : ∃ y, y = bt s i := ⟨_, rfl⟩
  rw [← hye] at hq hy hyl
  rw [bt_eq s i hi] at hye
  have hsy : (s[i]'hi).toNat = y := hye.symm
  clear hye
  have hqb : ((y : Int) == q) = false := by simpa using hq
  have h92 : ((y : Int) == 92) = false := by simp; omega
  clear hq
  rcases hy with a | rfl
  · have aI : (y : Int) < 32 := by omega
    go_enter Try.func53, Try.ntmps53
    go_wp2
    refine bodyPost_ret (v := .tuple #[.string ⟨#[]⟩, .int .i32 0, .int .i64 i, .bool false, .int .i64 10]) (by simp [results, Try.f53, go_sem]) rfl ?_
    exact ⟨⟨_, by rw [HE.out]; rfl, HBP.out _⟩, Below.refl _ _⟩
  · go_enter Try.func53, Try.ntmps53
    go_wp2
    refine bodyPost_ret (v := .tuple #[.string ⟨#[]⟩, .int .i32 0, .int .i64 i, .bool false, .int .i64 10]) (by simp [results, Try.f53, go_sem]) rfl ?_
    exact ⟨⟨_, by rw [HE.out]; rfl, HBP.out _⟩, Below.refl _ _⟩
set_option maxRecDepth 100000 in
set_option maxHeartbeats 2000000 in
theorem thing_rest (s : ByteArray) (i : Nat) (q : Int) (w : World) (hs : s.size ≤ 140737488355328) (hi : i < s.size) (hq : (bt s i : Int) ≠ q) (h92 : bt s i ≠ 92) (h32 : 32 ≤ bt s i) (h127 : bt s i ≠ 127) :
    Calls Try.prog 53 #[.string s, .int .i64 i, .int .u8 q] w fun e w' => (∃ b, e = refR (thRef s i) b ∧ BP s i b) ∧ Below w.heap.size w w' := by
  have hf : firstN (sub s i) = numAt s i := first_sub s i hi
  have hwl := wid_le s i hi
  have hwp := wid_pos s i
  have hcase : (ra s i = (0, 0) ∧ thRef s i = (0, (i : Int), 13) ∧ ∀ b, BP s i b) ∨ (ra s i = (numAt s i, wid s i) ∧ thRef s i = (numAt s i, (i : Int) + wid s i, 0) ∧ BP s i (s.extract i (i + wid s i))) := by
    rcases ra_num s i with ⟨e1, e2, _⟩ | ⟨e1, e2⟩
    · have hrv : readV (sub s i) = (0, false, 0, 13) := by rw [readV, hf, if_neg (by omega), if_pos (by omega)]
      exact .inl ⟨e1, thRef_no hrv (by simp), fun b => bp_no hrv (by simp)⟩
    · have hn : numAt s i ≠ 92 ∧ 32 ≤ numAt s i ∧ numAt s i ≠ 127 := by
        by_cases c : bt s i < 128
        · rw [(dec_low s i hi c).2]; omega
        · have := (dec_high s i hi (by omega)).2.1; omega
      have hrv : readV (sub s i) = (numAt s i, false, (wid s i : Int), 0) := by rw [readV, hf, if_neg hn.1, if_neg (by omega), if_neg (by omega), if_neg hn.2.2, runeLen_wid s i e1]
      exact .inr ⟨e2, thRef_ok hrv, fun _ => by rw [hrv, ext_str s i hi e1]; rfl⟩
  have hiI : (i : Int) < (s.size : Int) := by omega
  have hyl := bt_lt s i
  obtain ⟨y, hye⟩ : ∃ y, y = bt s i := ⟨_, rfl⟩
  rw [← hye] at hq hyl h92 h32 h127
  rw [bt_eq s i hi] at hye
  have hsy : (s[i]'hi).toNat = y := hye.symm
  clear hye
  have hqb : ((y : Int) == q) = false := by simpa using hq
  have h92b : ((y : Int) == 92) = false := by simp; omega
  have h127b : ((y : Int) == 127) = false := by simp; omega
  have h32I : ¬ (y : Int) < 32 := by omega
  clear hq hf
  rcases hcase with ⟨hr, ht, hbp⟩ | ⟨hr, ht, hbp⟩
  · have HR : Hid (ra s i = (0, 0)) := hr
    have HE : Hid (thRef s i = (0, (i : Int), 13)) := ht
    have HBP : Hid (∀ b, BP s i b) := hbp
    clear hr ht hbp
    go_enter Try.func53, Try.ntmps53
    go_wp2_with (go_at_call 29; refine (ra_any s i _ hs hi).mono ?_; rintro e w1 ⟨rfl, hw1⟩; rw [HR.out]; subst hw1)
    refine bodyPost_ret (v := .tuple #[.string ⟨#[]⟩, .int .i32 0, .int .i64 i, .bool false, .int .i64 13]) (by simp [results, Try.f53, go_sem]) rfl ?_
    exact ⟨⟨_, by rw [HE.out]; rfl, HBP.out _⟩, Below.refl _ _⟩
  · obtain ⟨m, hm⟩ : ∃ m, wid s i = m := ⟨_, rfl⟩
    obtain ⟨r, hrr⟩ : ∃ r, numAt s i = r := ⟨_, rfl⟩
    rw [hm, hrr] at hr ht
    rw [hm] at hbp
    rw [hm] at hwl hwp
    have HR : Hid (ra s i = (r, m)) := hr
    have HE : Hid (thRef s i = (r, (i : Int) + m, 0)) := ht
    clear hr ht hm hrr
    have hwlI : (i : Int) + m ≤ s.size := by omega
    have hm0 : ((m : Int) == 0) = false := by simp; omega
    have hsl := fun wx => run_slice_string (P := Try.prog) wx 9 s .i64 .i64 (i : Int) ((i : Int) + m) Try.underlying9 (by omega) (by omega) (by omega)
    obtain ⟨b, hb⟩ : ∃ b, s.extract (i : Int).toNat ((i : Int) + m).toNat = b := ⟨_, rfl⟩
    rw [hb] at hsl
    rw [show (i : Int).toNat = i by omega, show ((i : Int) + m).toNat = i + m by omega] at hb
    rw [hb] at hbp
    have HBQ : Hid (BP s i b) := hbp
    clear hb hbp
    go_enter Try.func53, Try.ntmps53
    go_wp2_with (go_at_call 29; refine (ra_any s i _ hs hi).mono ?_; rintro e w1 ⟨rfl, hw1⟩; rw [HR.out]; subst hw1)
    refine bodyPost_ret (v := .tuple #[.string b, .int .i32 r, .int .i64 (i + m), .bool false, .int .i64 0]) (by simp [results, Try.f53, go_sem]) rfl ?_
    exact ⟨⟨_, by rw [HE.out]; rfl, HBQ.out⟩, Below.refl _ _⟩
theorem thing_any (s : ByteArray) (i : Nat) (q : Int) (w : World) (hs : s.size ≤ 140737488355328) (hi : i < s.size) (hq : (bt s i : Int) ≠ q) :
    Calls Try.prog 53 #[.string s, .int .i64 i, .int .u8 q] w fun e w' => (∃ b, e = refR (thRef s i) b ∧ BP s i b) ∧ Below w.heap.size w w' := by
  by_cases h : bt s i = 92
  · exact thing_92 s i q w hs hi hq h
  by_cases h2 : bt s i < 32 ∨ bt s i = 127
  · exact thing_10 s i q w hi hq h2
  · exact thing_rest s i q w hs hi hq h (by omega) (by omega)
set_option maxRecDepth 100000 in
set_option maxHeartbeats 2000000 in
theorem thing_q (s : ByteArray) (i : Nat) (q : Nat) (w : World) (hs : s.size ≤ 140737488355328) (hi : i < s.size) (hy : bt s i = q) :
    Calls Try.prog 53 #[.string s, .int .i64 i, .int .u8 q] w fun e w' => e = .returned (.tuple #[.string ⟨#[]⟩, .int .i32 0, .int .i64 (i + 1), .bool true, .int .i64 0]) ∧ w' = w := by
  have hiI : (i : Int) < (s.size : Int) := by omega
  rw [bt_eq s i hi] at hy
  go_enter Try.func53, Try.ntmps53
  go_wp2
  refine bodyPost_ret (v := .tuple #[.string ⟨#[]⟩, .int .i32 0, .int .i64 (i + 1), .bool true, .int .i64 0]) (by simp [results, Try.f53, go_sem]) rfl ?_
  exact ⟨rfl, rfl⟩
end Go.Proofs.Ytpndbbepfjocgaa
