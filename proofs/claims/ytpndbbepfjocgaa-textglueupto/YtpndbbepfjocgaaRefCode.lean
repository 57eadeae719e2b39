import Derived.Test.YtpndbbepfjocgaaRdMath
import Derived.Test.YtpndbbepfjocgaaLMark
import Derived.OwnWalk
namespace Go.Proofs.Ytpndbbepfjocgaa
open Go.RowKit

theorem conv_lit (w : World) (zs : List Int) (cap : Nat) : (convert 35 9 (.slice (some ⟨w.heap.size, 0, none⟩) zs.length cap)).run Try.prog (w.alloc (.cells (bv zs).toArray 5)) = .ok (.string (strOfNums zs)) (w.alloc (.cells (bv zs).toArray 5)) :=
  run_convert_bytes_arg (P := Try.prog) _ 35 5 Try.underlying35 Try.underlying5 w.heap.size 0 zs.length cap zs rfl (fun i hi => by
    rw [Nat.zero_add, World.cell?_alloc_at _ _ _ _ rfl]
    simp [bv, hi]) 9 Try.underlying9
theorem conv1 (W : World) (a : Int) : (convert 35 9 (.slice (some ⟨W.heap.size, 0, none⟩) 1 1)).run Try.prog (W.alloc (.cells #[.int .u8 a] 5)) = .ok (.string (strOfNums [a])) (W.alloc (.cells #[.int .u8 a] 5)) := conv_lit W [a] 1
theorem conv2 (W : World) (a b : Int) : (convert 35 9 (.slice (some ⟨W.heap.size, 0, none⟩) 2 2)).run Try.prog (W.alloc (.cells #[.int .u8 a, .int .u8 b] 5)) = .ok (.string (strOfNums [a, b])) (W.alloc (.cells #[.int .u8 a, .int .u8 b] 5)) := conv_lit W [a, b] 2
theorem conv3 (W : World) (a b c : Int) : (convert 35 9 (.slice (some ⟨W.heap.size, 0, none⟩) 3 3)).run Try.prog (W.alloc (.cells #[.int .u8 a, .int .u8 b, .int .u8 c] 5)) = .ok (.string (strOfNums [a, b, c])) (W.alloc (.cells #[.int .u8 a, .int .u8 b, .int .u8 c] 5)) := conv_lit W [a, b, c] 3
theorem conv4 (W : World) (a b c d : Int) : (convert 35 9 (.slice (some ⟨W.heap.size, 0, none⟩) 4 4)).run Try.prog (W.alloc (.cells #[.int .u8 a, .int .u8 b, .int .u8 c, .int .u8 d] 5)) = .ok (.string (strOfNums [a, b, c, d])) (W.alloc (.cells #[.int .u8 a, .int .u8 b, .int .u8 c, .int .u8 d] 5)) := conv_lit W [a, b, c, d] 4

set_option maxRecDepth 100000 in
set_option maxHeartbeats 2000000 in
theorem code_no (r : Int) (w : World) (h : Lib.validRune r = false) :
    Calls Try.prog 65 #[.int .i32 r] w fun e w' => (∃ b, e = .returned (.tuple #[.string b, .bool (Lib.validRune r)])) ∧ Below w.heap.size w w' := by
  rw [h]
  have hc : r < 0 ∨ 1114111 < r ∨ (55296 ≤ r ∧ r ≤ 57343) := by
    unfold Lib.validRune at h
    have := of_decide_eq_false h
    omega
  rcases hc with a | a | ⟨a, a'⟩
  all_goals
    go_enter Try.func65, Try.ntmps65
    go_wp2
    go_ret2
    exact ⟨⟨_, rfl⟩, Below.refl _ _⟩
set_option maxRecDepth 100000 in
set_option maxHeartbeats 2000000 in
theorem code_1 (r : Int) (w : World) (h0 : 0 ≤ r) (h1 : r < 128) :
    Calls Try.prog 65 #[.int .i32 r] w fun e w' => (∃ b, e = .returned (.tuple #[.string b, .bool (Lib.validRune r)])) ∧ Below w.heap.size w w' := by
  have hv : Lib.validRune r = true := by unfold Lib.validRune; simp; omega
  rw [hv]
  have hcv := conv1
  go_enter Try.func65, Try.ntmps65
  go_wp2
  go_ret2
  exact ⟨⟨_, rfl⟩, (Below.refl _ _).alloc (Nat.le_refl _) _⟩
set_option maxRecDepth 100000 in
set_option maxHeartbeats 2000000 in
theorem code_2 (r : Int) (w : World) (h0 : 128 ≤ r) (h1 : r < 2048) :
    Calls Try.prog 65 #[.int .i32 r] w fun e w' => (∃ b, e = .returned (.tuple #[.string b, .bool (Lib.validRune r)])) ∧ Below w.heap.size w w' := by
  have hv : Lib.validRune r = true := by unfold Lib.validRune; simp; omega
  rw [hv]
  have hcv := conv2
  go_enter Try.func65, Try.ntmps65
  go_wp2
  go_ret2
  exact ⟨⟨_, rfl⟩, (Below.refl _ _).alloc (Nat.le_refl _) _⟩
set_option maxRecDepth 100000 in
set_option maxHeartbeats 2000000 in
theorem code_3 (r : Int) (w : World) (h0 : 2048 ≤ r) (h1 : r < 65536) (hv : Lib.validRune r = true) :
    Calls Try.prog 65 #[.int .i32 r] w fun e w' => (∃ b, e = .returned (.tuple #[.string b, .bool (Lib.validRune r)])) ∧ Below w.heap.size w w' := by
  have hs : r < 55296 ∨ 57343 < r := by unfold Lib.validRune at hv; have := of_decide_eq_true hv; omega
  rw [hv]
  have hcv := conv3
  clear hv
  rcases hs with a | a
  all_goals
    go_enter Try.func65, Try.ntmps65
    go_wp2
    go_ret2
    exact ⟨⟨_, rfl⟩, (Below.refl _ _).alloc (Nat.le_refl _) _⟩
theorem code_any (r : Int) (w : World) (h1 : r < 65536) :
    Calls Try.prog 65 #[.int .i32 r] w fun e w' => (∃ b, e = .returned (.tuple #[.string b, .bool (Lib.validRune r)])) ∧ Below w.heap.size w w' := by
  cases hv : Lib.validRune r
  · have := code_no r w hv; rw [hv] at this; exact this
  have h0 : 0 ≤ r := by unfold Lib.validRune at hv; have := of_decide_eq_true hv; omega
  rw [← hv]
  by_cases a : r < 128
  · exact code_1 r w h0 a
  by_cases b : r < 2048
  · exact code_2 r w (by omega) b
  exact code_3 r w (by omega) h1 hv
end Go.Proofs.Ytpndbbepfjocgaa
