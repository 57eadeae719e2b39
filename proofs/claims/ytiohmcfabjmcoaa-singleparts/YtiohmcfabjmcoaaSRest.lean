import Derived.Test.YtiohmcfabjmcoaaSOne
namespace Go.Proofs.Ytiohmcfabjmcoaa
open Go.RowKit

theorem one_any (a : Nat) (w : World) (h : a < 4294967296) :
    Calls Try.prog 17 #[.int .u32 a] w fun e w' => e = .returned (.int .u32 (on a)) ∧ w' = w := by
  unfold on
  by_cases ho : ok a = true
  · rw [if_pos ho]
    go_enter Try.func17, Try.ntmps17
    go_wp2_with (go_at_call 29; refine (lnone_any _ _ h).mono ?_; rw [ho]; rintro e wq ⟨rfl, hq⟩; subst wq)
    go_ret
    exact ⟨rfl, rfl⟩
  · have ho' : ok a = false := by simpa using ho
    rw [if_neg ho]
    go_enter Try.func17, Try.ntmps17
    go_wp2_with (go_at_call 29; refine (lnone_any _ _ h).mono ?_; rw [ho']; rintro e wq ⟨rfl, hq⟩; subst wq)
    go_ret
    exact ⟨rfl, rfl⟩
end Go.Proofs.Ytiohmcfabjmcoaa
