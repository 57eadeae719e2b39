import Derived.Test.YtgoekampndcinaaDoorFRow
import Derived.Test.YtgoekampndcinaaDoorFPre
namespace Go.Proofs.YtgoekampndcinaaDoor
open Go.RowKit

theorem rwf_le (s : ByteArray) (base most : Nat) : ∀ f i v, v ≤ most → (rwf s base most f i v).1 ≤ most
  | 0, _, _, h => h
  | f + 1, i, v, h => by
    rw [rwf]
    split
    · exact Nat.zero_le _
    · split
      · exact Nat.zero_le _
      · exact rwf_le s base most f _ _ (by omega)
theorem rowV_le (s : ByteArray) (i base most : Nat) : (rowV s i base most).1 ≤ most := by
  unfold rowV
  split
  · exact Nat.zero_le _
  · exact rwf_le s base most _ _ _ (Nat.zero_le _)
def neg3 (x : Nat × Nat × Nat) : Nat × Nat × Nat := ((4294967296 - x.1) % 4294967296, x.2.1, x.2.2)
/-- the word of a text, the place and the error -/
def wordV (s : ByteArray) : Nat × Nat × Nat :=
  if 64 < s.size then (0, 64, 42)
  else if hp s ⟨#[48, 120]⟩ = true then rowV s 2 16 4294967295
  else if hp s ⟨#[48, 98]⟩ = true then rowV s 2 2 4294967295
  else if hp s ⟨#[45]⟩ = true then neg3 (rowV s 1 10 2147483648)
  else rowV s 0 10 4294967295

set_option maxRecDepth 100000 in
set_option maxHeartbeats 4000000 in
theorem word_x (s : ByteArray) (w : World) (hs : s.size ≤ 64) (h1 : hp s ⟨#[48, 120]⟩ = true) :
    Calls Tryd.prog 9 #[.string s] w fun e w' => e = trip (wordV s) ∧ w' = w := by
  have hz : 2 ≤ s.size := by
    have h := h1
    rw [hp2 s 48 120] at h
    exact (of_decide_eq_true h).1
  obtain ⟨x, hx⟩ : ∃ x, rowV s 2 16 4294967295 = x := ⟨_, rfl⟩
  have hle := rowV_le s 2 16 4294967295
  rw [hx] at hle
  obtain ⟨x1, x2, x3⟩ := x
  have HX : Hid (rowV s 2 16 4294967295 = (x1, x2, x3)) := hx
  have hle : x1 ≤ 4294967295 := hle
  clear hx
  have HE : Hid (wordV s = (x1, x2, x3)) := by rw [Hid, wordV, if_neg (by omega), if_pos h1, HX.out]
  have hsI : (s.size : Int) ≤ 64 := by omega
  go_enter Tryd.func9, Tryd.ntmps9
  go_wp2_with (first | (go_at_call 16; refine (hp_any _ _ _).mono ?_; rintro e w' ⟨rfl, hw'⟩; first | rw [h1]; subst hw') | (go_at_call 17; refine (row_any s 2 16 4294967295 _ hs hz (by omega) (by omega) (by omega)).mono ?_; rintro e w' ⟨rfl, hw'⟩; rw [HX.out, trip]; subst hw'))
  refine bodyPost_ret (results_tmp3 rfl _ _ _) rfl ?_
  exact ⟨by rw [HE.out]; rfl, rfl⟩
set_option maxRecDepth 100000 in
set_option maxHeartbeats 4000000 in
theorem word_b (s : ByteArray) (w : World) (hs : s.size ≤ 64) (h1 : hp s ⟨#[48, 120]⟩ = false) (h2 : hp s ⟨#[48, 98]⟩ = true) :
    Calls Tryd.prog 9 #[.string s] w fun e w' => e = trip (wordV s) ∧ w' = w := by
  have hz : 2 ≤ s.size := by
    have h := h2
    rw [hp2 s 48 98] at h
    exact (of_decide_eq_true h).1
  obtain ⟨x, hx⟩ : ∃ x, rowV s 2 2 4294967295 = x := ⟨_, rfl⟩
  have hle := rowV_le s 2 2 4294967295
  rw [hx] at hle
  obtain ⟨x1, x2, x3⟩ := x
  have HX : Hid (rowV s 2 2 4294967295 = (x1, x2, x3)) := hx
  have hle : x1 ≤ 4294967295 := hle
  clear hx
  have HE : Hid (wordV s = (x1, x2, x3)) := by rw [Hid, wordV, if_neg (by omega), if_neg (by simp [h1]), if_pos h2, HX.out]
  have hsI : (s.size : Int) ≤ 64 := by omega
  go_enter Tryd.func9, Tryd.ntmps9
  go_wp2_with (first | (go_at_call 16; refine (hp_any _ _ _).mono ?_; rintro e w' ⟨rfl, hw'⟩; first | rw [h1] | rw [h2]; subst hw') | (go_at_call 17; refine (row_any s 2 2 4294967295 _ hs hz (by omega) (by omega) (by omega)).mono ?_; rintro e w' ⟨rfl, hw'⟩; rw [HX.out, trip]; subst hw'))
  refine bodyPost_ret (results_tmp3 rfl _ _ _) rfl ?_
  exact ⟨by rw [HE.out]; rfl, rfl⟩
set_option maxRecDepth 100000 in
set_option maxHeartbeats 4000000 in
theorem word_m (s : ByteArray) (w : World) (hs : s.size ≤ 64) (h1 : hp s ⟨#[48, 120]⟩ = false) (h2 : hp s ⟨#[48, 98]⟩ = false) (h3 : hp s ⟨#[45]⟩ = true) :
    Calls Tryd.prog 9 #[.string s] w fun e w' => e = trip (wordV s) ∧ w' = w := by
  have hz : 1 ≤ s.size := by
    have h := h3
    rw [hp1 s 45] at h
    exact (of_decide_eq_true h).1
  obtain ⟨x, hx⟩ : ∃ x, rowV s 1 10 2147483648 = x := ⟨_, rfl⟩
  have hle := rowV_le s 1 10 2147483648
  rw [hx] at hle
  obtain ⟨x1, x2, x3⟩ := x
  have HX : Hid (rowV s 1 10 2147483648 = (x1, x2, x3)) := hx
  have hle : x1 ≤ 2147483648 := hle
  clear hx
  have HE : Hid (wordV s = neg3 (x1, x2, x3)) := by rw [Hid, wordV, if_neg (by omega), if_neg (by simp [h1]), if_neg (by simp [h2]), if_pos h3, HX.out]
  have hsI : (s.size : Int) ≤ 64 := by omega
  go_enter Tryd.func9, Tryd.ntmps9
  go_wp2_with (first | (go_at_call 16; refine (hp_any _ _ _).mono ?_; rintro e w' ⟨rfl, hw'⟩; first | rw [h1] | rw [h2] | rw [h3]; subst hw') | (go_at_call 17; refine (row_any s 1 10 2147483648 _ hs hz (by omega) (by omega) (by omega)).mono ?_; rintro e w' ⟨rfl, hw'⟩; rw [HX.out, trip]; subst hw'))
  refine bodyPost_ret (results_tmp3 rfl _ _ _) rfl ?_
  refine ⟨?_, rfl⟩
  rw [HE.out]
  refine trip3 ?_ rfl rfl
  show _ = (((4294967296 - x1) % 4294967296 : Nat) : Int)
  omega
set_option maxRecDepth 100000 in
set_option maxHeartbeats 4000000 in
theorem word_d (s : ByteArray) (w : World) (hs : s.size ≤ 64) (h1 : hp s ⟨#[48, 120]⟩ = false) (h2 : hp s ⟨#[48, 98]⟩ = false) (h3 : hp s ⟨#[45]⟩ = false) :
    Calls Tryd.prog 9 #[.string s] w fun e w' => e = trip (wordV s) ∧ w' = w := by
  have hz : 0 ≤ s.size := Nat.zero_le _
  obtain ⟨x, hx⟩ : ∃ x, rowV s 0 10 4294967295 = x := ⟨_, rfl⟩
  have hle := rowV_le s 0 10 4294967295
  rw [hx] at hle
  obtain ⟨x1, x2, x3⟩ := x
  have HX : Hid (rowV s 0 10 4294967295 = (x1, x2, x3)) := hx
  have hle : x1 ≤ 4294967295 := hle
  clear hx
  have HE : Hid (wordV s = (x1, x2, x3)) := by rw [Hid, wordV, if_neg (by omega), if_neg (by simp [h1]), if_neg (by simp [h2]), if_neg (by simp [h3]), HX.out]
  have hsI : (s.size : Int) ≤ 64 := by omega
  go_enter Tryd.func9, Tryd.ntmps9
  go_wp2_with (first | (go_at_call 16; refine (hp_any _ _ _).mono ?_; rintro e w' ⟨rfl, hw'⟩; first | rw [h1] | rw [h2] | rw [h3]; subst hw') | (go_at_call 17; refine (row_any s 0 10 4294967295 _ hs hz (by omega) (by omega) (by omega)).mono ?_; rintro e w' ⟨rfl, hw'⟩; rw [HX.out, trip]; subst hw'))
  refine bodyPost_ret (results_tmp3 rfl _ _ _) rfl ?_
  exact ⟨by rw [HE.out]; rfl, rfl⟩
set_option maxRecDepth 100000 in
set_option maxHeartbeats 4000000 in
theorem word_any (s : ByteArray) (w : World) :
    Calls Tryd.prog 9 #[.string s] w fun e w' => e = trip (wordV s) ∧ w' = w := by
  by_cases hs : s.size ≤ 64
  · cases h1 : hp s ⟨#[48, 120]⟩ with
    | true => exact word_x s w hs h1
    | false =>
      cases h2 : hp s ⟨#[48, 98]⟩ with
      | true => exact word_b s w hs h1 h2
      | false =>
        cases h3 : hp s ⟨#[45]⟩ with
        | true => exact word_m s w hs h1 h2 h3
        | false => exact word_d s w hs h1 h2 h3
  · have hsI : (64 : Int) < (s.size : Int) := by omega
    have HE : Hid (wordV s = (0, 64, 42)) := by rw [Hid, wordV, if_pos (by omega)]
    go_enter Tryd.func9, Tryd.ntmps9
    go_wp2
    refine bodyPost_ret (results_tmp3 rfl _ _ _) rfl ?_
    exact ⟨by rw [HE.out]; rfl, rfl⟩
end Go.Proofs.YtgoekampndcinaaDoor
