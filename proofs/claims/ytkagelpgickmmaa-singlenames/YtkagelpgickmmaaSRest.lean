import Derived.Test.YtkagelpgickmmaaSOne
namespace Go.Proofs.Ytkagelpgickmmaa
open Go.RowKit

theorem rest_any (a b : Nat) (w : World) (hb : b < 4294967296) :
    Calls Try.prog 19 #[.int .u32 a, .int .u32 b] w fun e w' => e = .returned (.int .u32 (fsum a (tn b))) ∧ ∃ m, w' = w.drewN m := by
  go_enter Try.func19, Try.ntmps19
  go_wp2_with (first
    | (go_at_call 22; refine (turned_any _ _ hb).mono ?_; rintro e wq ⟨rfl, hq⟩; subst wq)
    | (go_at_call 11; refine (sum_any _ _ _).mono ?_; rintro e wq ⟨rfl, m, hq⟩; subst wq))
  go_ret
  exact ⟨rfl, _, rfl⟩

theorem one_any (a : Nat) (w : World) (h : a < 4294967296) :
    Calls Try.prog 18 #[.int .u32 a] w fun e w' => e = .returned (.int .u32 (on a)) ∧ w' = w := by
  unfold on
  by_cases ho : ok a = true
  · rw [if_pos ho]
    go_enter Try.func18, Try.ntmps18
    go_wp2_with (go_at_call 21; refine (lnone_any _ _ h).mono ?_; rw [ho]; rintro e wq ⟨rfl, hq⟩; subst wq)
    go_ret
    exact ⟨rfl, rfl⟩
  · have ho' : ok a = false := by simpa using ho
    rw [if_neg ho]
    go_enter Try.func18, Try.ntmps18
    go_wp2_with (go_at_call 21; refine (lnone_any _ _ h).mono ?_; rw [ho']; rintro e wq ⟨rfl, hq⟩; subst wq)
    go_ret
    exact ⟨rfl, rfl⟩
end Go.Proofs.Ytkagelpgickmmaa
