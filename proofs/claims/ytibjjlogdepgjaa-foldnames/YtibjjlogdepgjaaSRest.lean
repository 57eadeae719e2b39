import Derived.Test.YtibjjlogdepgjaaSOne
namespace Go.Proofs.Ytibjjlogdepgjaa
open Go.RowKit
set_option maxRecDepth 100000

theorem rest_any (a b : Nat) (w : World) (hb : b < 4294967296) :
    Calls Try.prog 48 #[.int .u32 a, .int .u32 b] w fun e w' => e = .returned (.int .u32 (fsum a (tn b))) ∧ ∃ m, w' = w.drewN m := by
  go_enter Try.func48, Try.ntmps48
  go_wp2_with (first
    | (go_at_call 42; refine (turned_any _ _ hb).mono ?_; rintro e wq ⟨rfl, hq⟩; subst wq)
    | (go_at_call 47; refine (sum_any _ _ _).mono ?_; rintro e wq ⟨rfl, m, hq⟩; subst wq))
  go_ret
  exact ⟨rfl, _, rfl⟩

end Go.Proofs.Ytibjjlogdepgjaa
