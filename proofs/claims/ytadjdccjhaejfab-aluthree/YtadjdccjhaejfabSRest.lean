import Derived.Test.YtadjdccjhaejfabSOne
namespace Go.Proofs.Ytadjdccjhaejfab
open Go.RowKit

theorem rest_any (a b : Nat) (w : World) (hb : b < 4294967296) :
    Calls Try.prog 19 #[.int .u32 a, .int .u32 b] w fun e w' => e = .returned (.int .u32 (fsum a (tn b))) ∧ ∃ m, w' = w.drewN m := by
  go_enter Try.func19, Try.ntmps19
  go_wp2_with (first
    | (go_at_call 25; refine (turned_any _ _ hb).mono ?_; rintro e wq ⟨rfl, hq⟩; subst wq)
    | (go_at_call 18; refine (sum_any _ _ _).mono ?_; rintro e wq ⟨rfl, m, hq⟩; subst wq))
  go_ret
  exact ⟨rfl, _, rfl⟩

end Go.Proofs.Ytadjdccjhaejfab
