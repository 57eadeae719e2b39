import Derived.Test.YtghhjebacnodcaaPBase
namespace Go.Proofs.Ytghhjebacnodcaa
open Go.RowKit
theorem part_any (x y : Nat) (w : World) :
    Calls Try.prog 58 #[.float .f64 x, .float .f64 y] w fun e w' => e = .returned (.bool (sm x y)) ∧ w' = w := by
  have h1 := ne_self64 x
  have h2 := ne_self64 y
  unfold sm
  generalize nn x = a at *
  generalize nn y = b at *
  have he : (x == y) = decide ((x : Int) = (y : Int)) := by
    rw [Bool.eq_iff_iff]; simp; omega
  rw [he]
  clear he
  cases a <;> cases b
  all_goals
    go_enter Try.func58, Try.ntmps58
    go_wp2
    go_ret
    exact ⟨rfl, rfl⟩
theorem same_any (a b c d : Nat) (w : World) :
    Calls Try.prog 21 #[.complex .f64 a b, .complex .f64 c d] w fun e w' => e = .returned (.bool (sm a c && sm b d)) ∧ w' = w := by
  have hp := fun x y w => part_any x y w
  generalize sm = S at *
  cases h : S a c
  all_goals
    go_enter Try.func21, Try.ntmps21
    go_wp2_with (first
      | (go_at_call 58; refine (hp _ _ _).mono ?_; (try rw [h]); rintro e wq ⟨rfl, hq⟩; subst wq))
    go_ret
    exact ⟨rfl, rfl⟩
end Go.Proofs.Ytghhjebacnodcaa
