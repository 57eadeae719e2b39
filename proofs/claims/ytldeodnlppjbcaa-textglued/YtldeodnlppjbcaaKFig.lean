import Derived.Test.YtldeodnlppjbcaaKLiu
namespace Go.Proofs.Ytldeodnlppjbcaa
open Go.RowKit
set_option maxRecDepth 100000

/-- kinds of numbers and bytes -/
def plainL (n : Int) : Bool := (decide (65 ≤ n) && decide (n ≤ 90)) || (decide (97 ≤ n) && decide (n ≤ 122))
def digitL (n : Int) : Bool := decide (48 ≤ n) && decide (n ≤ 57)
def letterL (n : Int) : Bool := plainL n || decide (192 ≤ n)
def pmL (n : Int) : Bool := decide (n = 43) || decide (n = 45)
def figL (n : Int) : Bool := plainL n || digitL n || decide (n = 95) || decide (n = 46)
theorem plain_any (n : Int) (w : World) : Calls Try.prog 38 #[.int .i32 n] w fun e w' => e = .returned (.bool (plainL n)) ∧ w' = w := by
  by_cases a1 : 65 ≤ n
  · by_cases a2 : n ≤ 90
    · have e : plainL n = true := by simp [plainL, a1, a2]
      rw [e]
      go_enter Try.func38, Try.ntmps38
      go_wp2
      go_ret
      exact ⟨rfl, rfl⟩
    · by_cases a3 : 97 ≤ n
      · by_cases a4 : n ≤ 122
        · have e : plainL n = true := by simp [plainL, a3, a4]
          rw [e]
          go_enter Try.func38, Try.ntmps38
          go_wp2
          go_ret
          exact ⟨rfl, rfl⟩
        · have e : plainL n = false := by simp [plainL, a2, a4]
          rw [e]
          go_enter Try.func38, Try.ntmps38
          go_wp2
          go_ret
          exact ⟨rfl, rfl⟩
      · have e : plainL n = false := by simp [plainL, a2, a3]
        rw [e]
        go_enter Try.func38, Try.ntmps38
        go_wp2
        go_ret
        exact ⟨rfl, rfl⟩
  · have a3 : ¬ 97 ≤ n := by omega
    have e : plainL n = false := by simp [plainL, a1, a3]
    rw [e]
    go_enter Try.func38, Try.ntmps38
    go_wp2
    go_ret
    exact ⟨rfl, rfl⟩
theorem digitL_any (n : Int) (w : World) : Calls Try.prog 28 #[.int .i32 n] w fun e w' => e = .returned (.bool (digitL n)) ∧ w' = w := by
  by_cases a1 : 48 ≤ n
  · by_cases a2 : n ≤ 57
    · have e : digitL n = true := by simp [digitL, a1, a2]
      rw [e]
      go_enter Try.func28, Try.ntmps28
      go_wp2
      go_ret
      exact ⟨rfl, rfl⟩
    · have e : digitL n = false := by simp [digitL, a2]
      rw [e]
      go_enter Try.func28, Try.ntmps28
      go_wp2
      go_ret
      exact ⟨rfl, rfl⟩
  · have e : digitL n = false := by simp [digitL, a1]
    rw [e]
    go_enter Try.func28, Try.ntmps28
    go_wp2
    go_ret
    exact ⟨rfl, rfl⟩
theorem letterL_any (n : Int) (w : World) : Calls Try.prog 26 #[.int .i32 n] w fun e w' => e = .returned (.bool (letterL n)) ∧ w' = w := by
  have hP := plain_any n w
  cases hp : plainL n with
  | true =>
    rw [hp] at hP
    have e : letterL n = true := by simp [letterL, hp]
    rw [e]
    go_enter Try.func26, Try.ntmps26
    go_wp2_with (first
      | (go_at_call 38; with_reducible refine hP.mono ?_; rintro e wq ⟨rfl, hq⟩; subst wq)
      | fail)
    go_ret
    exact ⟨rfl, rfl⟩
  | false =>
    rw [hp] at hP
    by_cases a : 192 ≤ n
    · have e : letterL n = true := by simp [letterL, a]
      rw [e]
      go_enter Try.func26, Try.ntmps26
      go_wp2_with (first
        | (go_at_call 38; with_reducible refine hP.mono ?_; rintro e wq ⟨rfl, hq⟩; subst wq)
        | fail)
      go_ret
      exact ⟨rfl, rfl⟩
    · have e : letterL n = false := by simp [letterL, hp, a]
      rw [e]
      go_enter Try.func26, Try.ntmps26
      go_wp2_with (first
        | (go_at_call 38; with_reducible refine hP.mono ?_; rintro e wq ⟨rfl, hq⟩; subst wq)
        | fail)
      go_ret
      exact ⟨by simp [a], rfl⟩
end Go.Proofs.Ytldeodnlppjbcaa
