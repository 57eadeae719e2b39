import Derived.Test.YtfolcjamefgphaaRefEsc
import Derived.Test.YtfolcjamefgphaaRune
import Derived.Test.YtfolcjamefgphaaBEsc
import Derived.Test.YtfolcjamefgphaaCodeMath
import Derived.Laws.BytesArg
namespace Go.Proofs.Ytfolcjamefgphaa
open Go.RowKit

/-- the bytes that a piece stands for -/
def pb (x : Piece) : List Int := if x.2.1 = true then [x.1] else Lib.encodeRuneZ x.1
def BP (s : ByteArray) (i : Nat) (b : ByteArray) : Prop := (readV (sub s i)).2.2.2 = 0 → b = strOfNums (pb (readV (sub s i)))
theorem codeL_enc {r : Int} (h : Lib.validRune r = true) : codeL r = Lib.encodeRuneZ r := by
  have hv : (0 ≤ r ∧ r < 55296) ∨ (57343 < r ∧ r ≤ 1114111) := by simpa [Lib.validRune] using h
  unfold codeL Lib.encodeRuneZ
  rw [if_neg (by rw [h]; decide)]
  by_cases a1 : r < 128
  · rw [if_pos a1, if_pos (by omega)]
  · rw [if_neg a1, if_neg (show ¬ (0 ≤ r ∧ r ≤ 127) by omega)]
    by_cases a2 : r < 2048
    · rw [if_pos a2, if_pos (by omega)]
    · rw [if_neg a2, if_neg (show ¬ (128 ≤ r ∧ r ≤ 2047) by omega)]
      by_cases a3 : r < 65536
      · rw [if_pos a3, if_pos (by omega)]
      · rw [if_neg a3, if_neg (show ¬ ((2048 ≤ r ∧ r < 55296) ∨ (57343 < r ∧ r ≤ 65535)) by omega), if_pos (by omega)]
theorem esc_valid (t : ByteArray) (h : (escV t).2.2.2 = true) (h1 : (escV t).2.1 = false) : Lib.validRune (escV t).1 = true := by
  revert h h1
  unfold escV
  repeat' split
  all_goals simp
theorem enc_same {r : Int} (h0 : 0 ≤ r) (h1 : r ≤ 1114111) (h2 : ¬ (55296 ≤ r ∧ r ≤ 57343)) : encZ r = Lib.encodeRuneZ r := by
  unfold Lib.encodeRuneZ
  by_cases a1 : r < 128
  · rw [encZ_1 a1, if_pos (by omega)]
  · rw [if_neg (by omega)]
    by_cases a2 : r < 2048
    · rw [encZ_2 (by omega) a2, if_pos (by omega)]
    · rw [if_neg (by omega)]
      by_cases a3 : r < 65536
      · rw [encZ_3 (by omega) a3, if_pos (by omega)]
      · rw [encZ_4 (by omega), if_neg (by omega), if_pos (by omega)]
theorem ext_str (s : ByteArray) (i : Nat) (hi : i < s.size) (h0 : 0 ≤ numAt s i) : s.extract i (i + wid s i) = strOfNums (Lib.encodeRuneZ (numAt s i)) := by
  obtain ⟨c1, c2, c3⟩ := code_cut s i hi h0
  rw [← enc_same h0 (numAt_range s i).2 c2]
  apply ba_ext
  rw [strOfNums_data]
  have hwl := wid_le s i hi
  have hl : s.data.toList.length = s.size := by rw [Array.length_toList]; rfl
  apply List.ext_getElem
  · rw [Lib.extract_data]; simp [c1]; omega
  · intro j h1 h2
    have hj : j < (encZ (numAt s i)).length := by simpa using h2
    obtain ⟨d1, d2⟩ := c3 j hj
    have e1 : (bt s (i + j)) = (s.data.toList[i + j]'(by omega)).toNat := bt_eq s (i + j) d1
    have e2 : (encZ (numAt s i)).getD j 0 = (encZ (numAt s i))[j] := by simp [List.getD, List.getElem?_eq_getElem hj]
    rw [e2] at d2
    simp only [Lib.extract_data, List.getElem_map]
    rw [← d2, e1]
    simp

def thRef (s : ByteArray) (i : Nat) : Int × Int × Int :=
  if (readV (sub s i)).2.2.2 = 0 then ((readV (sub s i)).1, i + (readV (sub s i)).2.2.1, 0) else (0, i, (readV (sub s i)).2.2.2)
theorem bp_92 {s : ByteArray} {i : Nat} (hi : i < s.size) (hy : bt s i = 92) : BP s i (strOfNums (escB s i)) := by
  have hf : firstN (sub s i) = 92 := by
    rw [first_sub s i hi, (dec_low s i hi (by omega)).2, hy]; rfl
  have htl : tl (sub s i) = sub s (i + 1) := by rw [tl_eq, sub_sub]
  have hr : readV (sub s i) = (if (escV (sub s (i + 1))).2.2.2 = true then ((escV (sub s (i + 1))).1, (escV (sub s (i + 1))).2.1, (escV (sub s (i + 1))).2.2.1, 0) else (0, false, 0, 12)) := by
    rw [readV, if_pos hf, htl]
  intro hok
  cases hk : (escV (sub s (i + 1))).2.2.2
  · rw [hk, if_neg (by simp)] at hr
    rw [hr] at hok
    simp at hok
  · rw [hk, if_pos rfl] at hr
    rw [hr, pb, escB, if_pos hk]
    cases h2 : (escV (sub s (i + 1))).2.1
    · rw [if_neg (by decide), if_neg (by simp), codeL_enc (esc_valid _ hk h2)]
    · rfl
theorem bp_no {s : ByteArray} {i : Nat} {b : ByteArray} {x1 x3 e : Int} {x2 : Bool} (h : readV (sub s i) = (x1, x2, x3, e)) (he : e ≠ 0) : BP s i b := fun hk => absurd (by rw [h] at hk; exact hk) he
theorem thRef_ok {s : ByteArray} {i : Nat} {x1 x3 : Int} {x2 : Bool} (h : readV (sub s i) = (x1, x2, x3, 0)) : thRef s i = (x1, i + x3, 0) := by
  rw [thRef, h]; simp
theorem thRef_no {s : ByteArray} {i : Nat} {x1 x3 e : Int} {x2 : Bool} (h : readV (sub s i) = (x1, x2, x3, e)) (he : e ≠ 0) : thRef s i = (0, (i : Int), e) := by
  rw [thRef, h]; simp [he]
theorem th_92 {s : ByteArray} {i : Nat} (hi : i < s.size) (hy : bt s i = 92) : thRef s i = escRef s i := by
  have hf : firstN (sub s i) = 92 := by
    rw [first_sub s i hi, (dec_low s i hi (by omega)).2, hy]; rfl
  have htl : tl (sub s i) = sub s (i + 1) := by rw [tl_eq, sub_sub]
  have hr : readV (sub s i) = (if (escV (sub s (i + 1))).2.2.2 = true then ((escV (sub s (i + 1))).1, (escV (sub s (i + 1))).2.1, (escV (sub s (i + 1))).2.2.1, 0) else (0, false, 0, 12)) := by
    rw [readV, if_pos hf, htl]
  cases hok : (escV (sub s (i + 1))).2.2.2
  · rw [hok, if_neg (by simp)] at hr
    rw [thRef_no hr (by simp), escRef, hok, if_neg (by simp)]
  · rw [hok, if_pos rfl] at hr
    rw [thRef_ok hr, escRef, hok, if_pos rfl]

end Go.Proofs.Ytfolcjamefgphaa
