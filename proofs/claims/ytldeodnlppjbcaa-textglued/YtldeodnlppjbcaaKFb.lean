import Derived.Test.YtldeodnlppjbcaaKFig
import Derived.Test.YtldeodnlppjbcaaShelf
namespace Go.Proofs.Ytldeodnlppjbcaa
open Go.RowKit
set_option maxRecDepth 100000

theorem pm_any (n : Nat) (w : World) : Calls Try.prog 41 #[.int .u8 (n : Int)] w fun e w' => e = .returned (.bool (pmL n)) ∧ w' = w := by
  by_cases a1 : n = 43
  · subst a1
    go_enter Try.func41, Try.ntmps41
    go_wp2
    go_ret
    exact ⟨rfl, rfl⟩
  · by_cases a2 : n = 45
    · subst a2
      go_enter Try.func41, Try.ntmps41
      go_wp2
      go_ret
      exact ⟨rfl, rfl⟩
    · have e : pmL n = false := by simp [pmL]; omega
      have a1I : ¬ (n : Int) = 43 := by omega
      have a2I : ¬ (n : Int) = 45 := by omega
      rw [e]
      go_enter Try.func41, Try.ntmps41
      go_wp2
      go_ret
      exact ⟨by simp [a1I, a2I], rfl⟩
set_option maxHeartbeats 1000000 in
theorem figB_any (n : Nat) (w : World) (hn : n < 256) : Calls Try.prog 40 #[.int .u8 (n : Int)] w fun e w' => e = .returned (.bool (figL n)) ∧ w' = w := by
  have hP := plain_any (n : Int) w
  have hD := digitL_any (n : Int) w
  cases hp : plainL n with
  | true =>
    rw [hp] at hP
    have e : figL n = true := by simp [figL, hp]
    rw [e]
    clear hD e
    go_enter Try.func40, Try.ntmps40
    go_wp2_with (first
      | (go_at_call 38; with_reducible refine hP.mono ?_; rintro e wq ⟨rfl, hq⟩; subst wq)
      | fail)
    go_ret
    exact ⟨rfl, rfl⟩
  | false =>
    rw [hp] at hP
    cases hd : digitL n with
    | true =>
      rw [hd] at hD
      have e : figL n = true := by simp [figL, hd]
      rw [e]
      clear e
      go_enter Try.func40, Try.ntmps40
      go_wp2_with (first
        | (go_at_call 38; with_reducible refine hP.mono ?_; rintro e wq ⟨rfl, hq⟩; subst wq)
        | (go_at_call 28; with_reducible refine hD.mono ?_; rintro e wq ⟨rfl, hq⟩; subst wq)
        | fail)
      go_ret
      exact ⟨rfl, rfl⟩
    | false =>
      rw [hd] at hD
      have e : figL n = ((n : Int) == 95 || (n : Int) == 46) := by simp only [figL, hp, hd, Bool.false_or]; rfl
      rw [e]
      clear e
      go_enter Try.func40, Try.ntmps40
      go_wp2_with (first
        | (go_at_call 38; with_reducible refine hP.mono ?_; rintro e wq ⟨rfl, hq⟩; subst wq)
        | (go_at_call 28; with_reducible refine hD.mono ?_; rintro e wq ⟨rfl, hq⟩; subst wq)
        | fail)
      all_goals go_ret
      all_goals exact ⟨by simp_all, rfl⟩
end Go.Proofs.Ytldeodnlppjbcaa
