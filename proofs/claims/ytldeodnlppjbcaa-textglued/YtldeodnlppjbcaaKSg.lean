import Derived.Test.YtldeodnlppjbcaaKTo
namespace Go.Proofs.Ytldeodnlppjbcaa
open Go.RowKit
set_option maxRecDepth 100000

/-- the bytes of which signs are made -/
def sgB : ByteArray := ⟨#[33, 36, 37, 38, 40, 41, 42, 43, 44, 45, 46, 47, 58, 59, 60, 61, 62, 63, 64, 91, 93, 94, 123, 124, 125, 126]⟩
def sgI (c : Nat) : Int := Lib.indexByte sgB.data.toList (c : Int).toNat.toUInt8
def sgA (s : ByteArray) : Nat → Bool
  | 0 => true
  | k + 1 => sgA s k && decide (0 ≤ sgI (bt s k))
def isSg (s : ByteArray) : Bool := decide (0 < s.size) && decide (s.size ≤ 3) && sgA s s.size
def mayF (G : List ByteArray) : Nat → Bool
  | 0 => true
  | k + 1 => mayF G k && (isSg (G.getD k ByteArray.empty) && !Lib.containsS (G.take k) (G.getD k ByteArray.empty))
def mayB (G : List ByteArray) : Bool := decide (G.length ≤ 64) && mayF G G.length
theorem sgA_mono (s : ByteArray) : ∀ k n, k ≤ n → sgA s n = true → sgA s k = true
  | k, 0, h, hn => by obtain rfl : k = 0 := by omega
                      rfl
  | k, n + 1, h, hn => by
    simp only [sgA, Bool.and_eq_true] at hn
    rcases Nat.lt_or_ge k (n + 1) with h1 | h1
    · exact sgA_mono s k n (by omega) hn.1
    · obtain rfl : k = n + 1 := by omega
      simp only [sgA, Bool.and_eq_true]; exact hn
theorem sgA_false (s : ByteArray) (k n : Nat) (h : k < n) (h2 : decide (0 ≤ sgI (bt s k)) = false) : sgA s n = false := by
  cases hn : sgA s n with
  | false => rfl
  | true =>
    have := sgA_mono s (k + 1) n h hn
    simp only [sgA, Bool.and_eq_true, h2] at this
    exact absurd this.2 (by simp)
theorem mayF_mono (G : List ByteArray) : ∀ k n, k ≤ n → mayF G n = true → mayF G k = true
  | k, 0, h, hn => by obtain rfl : k = 0 := by omega
                      rfl
  | k, n + 1, h, hn => by
    simp only [mayF, Bool.and_eq_true] at hn
    rcases Nat.lt_or_ge k (n + 1) with h1 | h1
    · exact mayF_mono G k n (by omega) hn.1
    · obtain rfl : k = n + 1 := by omega
      simp only [mayF, Bool.and_eq_true]; exact hn
theorem mayF_false (G : List ByteArray) (k n : Nat) (h : k < n) (h2 : (isSg (G.getD k ByteArray.empty) && !Lib.containsS (G.take k) (G.getD k ByteArray.empty)) = false) : mayF G n = false := by
  cases hn : mayF G n with
  | false => rfl
  | true =>
    have := mayF_mono G (k + 1) n h hn
    rw [mayF, h2] at this
    simp at this
set_option maxHeartbeats 2000000 in
theorem isSign_any (s : ByteArray) (w : World) (hs : s.size ≤ 9223372036854775807) :
    Calls Try.prog 22 #[.string s] w fun e w' => e = .returned (.bool (isSg s)) ∧ w' = w := by
  by_cases h0 : s.size = 0
  · obtain rfl : s = ⟨#[]⟩ := by
      apply ByteArray.ext
      exact Array.eq_empty_of_size_eq_zero h0
    go_enter Try.func22, Try.ntmps22
    go_wp2
    go_ret
    exact ⟨rfl, rfl⟩
  have hne : ¬ s.toList = [] := by
    intro h
    rw [ByteArray.toList_eq] at h
    exact h0 (by rw [Lib.size_eq, h]; rfl)
  have hne2 : s.toList.isEmpty = false := by
    cases hh : s.toList with
    | nil => exact absurd hh hne
    | cons a l => rfl
  by_cases h3 : 3 < s.size
  · have e : isSg s = false := by simp [isSg]; omega
    rw [e]
    have h3I : (3 : Int) < (s.size : Int) := by omega
    go_enter Try.func22, Try.ntmps22
    go_wp2
    go_ret
    exact ⟨rfl, rfl⟩
  have h3I : ¬ (3 : Int) < (s.size : Int) := by omega
  obtain ⟨R, hR⟩ : ∃ R, isSg s = R := ⟨_, rfl⟩
  have HR : Hid (sgA s s.size = R) := by rw [Hid, ← hR]; simp [isSg]; intro _; omega
  rw [hR]
  clear hR
  go_enter Try.func22, Try.ntmps22
  go_wp2_with fail
  go_loopw [13] (fun i wr => ∃ k : Nat, k ≤ s.size ∧ i = .int .i64 k ∧ wr = w ∧ Hid (sgA s k = true)) (fun i _ => s.size - (intOf i).toNat)
  case atStart => exact ⟨0, by omega, rfl, rfl, rfl⟩
  case round =>
    obtain ⟨k, hk, rfl, rfl, HK⟩ := hrel
    by_cases hlt : k < s.size
    · have hltI : (k : Int) < (s.size : Int) := by omega
      have hy := bt_get s k hlt
      have hI : Calls Try.prog 35 #[.string ⟨#[33, 36, 37, 38, 40, 41, 42, 43, 44, 45, 46, 47, 58, 59, 60, 61, 62, 63, 64, 91, 93, 94, 123, 124, 125, 126]⟩, .int .u8 ((bt s k : Nat) : Int)] wr fun e w' => e = .returned (.int .i64 (sgI (bt s k))) ∧ w' = wr := Try.strings_IndexByte sgB _ _
      by_cases hr : 0 ≤ sgI (bt s k)
      · have HS : Hid (sgA s (k + 1) = true) := by rw [Hid, sgA, HK.out]; simp [hr]
        clear HK
        generalize sgI (bt s k) = r at *
        generalize bt s k = y at *
        have hrn : ¬ r < 0 := by omega
        go_wp2_with (first
          | (go_at_call 35; with_reducible refine hI.mono ?_; rintro e wq ⟨rfl, hq⟩; subst wq)
          | fail)
        go_roundw
        case rel => exact ⟨k + 1, by omega, by go_num, trivial, HS⟩
        case measure => simp [intOf]; omega
      · have HS : Hid (R = false) := by rw [Hid, ← HR.out]; exact sgA_false s k s.size hlt (by simp; omega)
        clear HK HR
        generalize sgI (bt s k) = r at *
        generalize bt s k = y at *
        have hrn : r < 0 := by omega
        go_wp2_with (first
          | (go_at_call 35; with_reducible refine hI.mono ?_; rintro e wq ⟨rfl, hq⟩; subst wq)
          | fail)
        go_ret
        exact ⟨by rw [HS.out]; rfl, rfl⟩
    · obtain rfl : k = s.size := by omega
      have HS : Hid (R = true) := by rw [Hid, ← HR.out]; exact HK.out
      clear HK HR
      go_wp2_with fail
      go_ret
      exact ⟨by rw [HS.out]; rfl, rfl⟩
end Go.Proofs.Ytldeodnlppjbcaa
