import Derived.Test.YtpndbbepfjocgaaRefCode
namespace Go.Proofs.Ytpndbbepfjocgaa
open Go.RowKit

/-- the bytes of a number's code, none: it has none -/
def codeL (r : Int) : List Int :=
  if Lib.validRune r = false then []
  else if r < 128 then [r]
  else if r < 2048 then [192 + r / 64, 128 + r % 64]
  else if r < 65536 then [224 + r / 4096, 128 + r / 64 % 64, 128 + r % 64]
  else [240 + r / 262144, 128 + r / 4096 % 64, 128 + r / 64 % 64, 128 + r % 64]
theorem ret_sb {a b : List Int} {x y : Bool} (h : a = b) (h' : x = y) : Ending.returned (.tuple #[.string (strOfNums a), .bool x]) = .returned (.tuple #[.string (strOfNums b), .bool y]) := by rw [h, h']

set_option maxRecDepth 100000 in
set_option maxHeartbeats 2000000 in
theorem bcode_no (r : Int) (w : World) (h : Lib.validRune r = false) :
    Calls Try.prog 65 #[.int .i32 r] w fun e w' => e = .returned (.tuple #[.string (strOfNums (codeL r)), .bool (Lib.validRune r)]) ∧ Below w.heap.size w w' := by
  have HC : Hid (codeL r = []) := by rw [Hid, codeL, if_pos h]
  rw [h]
  have hc : r < 0 ∨ 1114111 < r ∨ (55296 ≤ r ∧ r ≤ 57343) := by
    unfold Lib.validRune at h
    have := of_decide_eq_false h
    omega
  rcases hc with a | a | ⟨a, a'⟩
  all_goals
    go_enter Try.func65, Try.ntmps65
    go_wp2
    go_ret2
    exact ⟨by rw [HC.out]; rfl, Below.refl _ _⟩
set_option maxRecDepth 100000 in
set_option maxHeartbeats 2000000 in
theorem bcode_1 (r : Int) (w : World) (h0 : 0 ≤ r) (h1 : r < 128) :
    Calls Try.prog 65 #[.int .i32 r] w fun e w' => e = .returned (.tuple #[.string (strOfNums (codeL r)), .bool (Lib.validRune r)]) ∧ Below w.heap.size w w' := by
  have hv : Lib.validRune r = true := by unfold Lib.validRune; simp; omega
  have HC : Hid (codeL r = [r]) := by rw [Hid, codeL, hv, if_neg (by simp), if_pos h1]
  rw [hv]
  have hcv := conv1
  go_enter Try.func65, Try.ntmps65
  go_wp2
  go_ret2
  exact ⟨ret_sb (by rw [HC.out]) rfl, (Below.refl _ _).alloc (Nat.le_refl _) _⟩
set_option maxRecDepth 100000 in
set_option maxHeartbeats 2000000 in
theorem bcode_2 (r : Int) (w : World) (h0 : 128 ≤ r) (h1 : r < 2048) :
    Calls Try.prog 65 #[.int .i32 r] w fun e w' => e = .returned (.tuple #[.string (strOfNums (codeL r)), .bool (Lib.validRune r)]) ∧ Below w.heap.size w w' := by
  have hv : Lib.validRune r = true := by unfold Lib.validRune; simp; omega
  have HC : Hid (codeL r = [192 + r / 64, 128 + r % 64]) := by rw [Hid, codeL, hv, if_neg (by simp), if_neg (by omega), if_pos h1]
  rw [hv]
  have hcv := conv2
  go_enter Try.func65, Try.ntmps65
  go_wp2
  go_ret2
  exact ⟨ret_sb (by rw [HC.out]) rfl, (Below.refl _ _).alloc (Nat.le_refl _) _⟩
set_option maxRecDepth 100000 in
set_option maxHeartbeats 2000000 in
theorem bcode_3 (r : Int) (w : World) (h0 : 2048 ≤ r) (h1 : r < 65536) (hv : Lib.validRune r = true) :
    Calls Try.prog 65 #[.int .i32 r] w fun e w' => e = .returned (.tuple #[.string (strOfNums (codeL r)), .bool (Lib.validRune r)]) ∧ Below w.heap.size w w' := by
  have hs : r < 55296 ∨ 57343 < r := by unfold Lib.validRune at hv; have := of_decide_eq_true hv; omega
  have HC : Hid (codeL r = [224 + r / 4096, 128 + r / 64 % 64, 128 + r % 64]) := by rw [Hid, codeL, hv, if_neg (by simp), if_neg (by omega), if_neg (by omega), if_pos h1]
  rw [hv]
  have hcv := conv3
  clear hv
  rcases hs with a | a
  all_goals
    go_enter Try.func65, Try.ntmps65
    go_wp2
    go_ret2
    exact ⟨ret_sb (by rw [HC.out]) rfl, (Below.refl _ _).alloc (Nat.le_refl _) _⟩
theorem bcode_any (r : Int) (w : World) (h1 : r < 65536) :
    Calls Try.prog 65 #[.int .i32 r] w fun e w' => e = .returned (.tuple #[.string (strOfNums (codeL r)), .bool (Lib.validRune r)]) ∧ Below w.heap.size w w' := by
  cases hv : Lib.validRune r
  · have := bcode_no r w hv; rw [hv] at this; exact this
  have h0 : 0 ≤ r := by unfold Lib.validRune at hv; have := of_decide_eq_true hv; omega
  rw [← hv]
  by_cases a : r < 128
  · exact bcode_1 r w h0 a
  by_cases b : r < 2048
  · exact bcode_2 r w (by omega) b
  exact bcode_3 r w (by omega) h1 hv
end Go.Proofs.Ytpndbbepfjocgaa
