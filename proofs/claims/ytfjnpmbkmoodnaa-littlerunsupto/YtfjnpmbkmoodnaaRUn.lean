import Derived.Test.YtfjnpmbkmoodnaaRRn
namespace Go.Proofs.Ytfjnpmbkmoodnaa
open Go.RowKit Go.WideShapes
set_option maxRecDepth 100000
theorem runsU_any (ao bo : Option Addr) (n m ca cb : Nat) (w : World) (hne : n ≠ m) :
    Calls Try.prog 11 #[.slice ao n ca, .slice bo m cb] w fun e w' => e = .returned (.tuple #[.slice none 0 0, .int .i64 22]) ∧ w' = w := by
  have d0 : ¬ (n : Int) = (m : Int) := by omega
  have d1 : ((n : Int) == (m : Int)) = false := by simp; omega
  go_enter Try.func11, Try.ntmps11
  go_wp2
  go_step3
  go_wp2
  try rw [Exit.noGoto_ret]
  go_ret2
  exact ⟨rfl, rfl⟩
theorem rrunsU_any (ao bo : Option Addr) (n m ca cb : Nat) (w : World) (hne : n ≠ m) :
    Calls Try.prog 10 #[.slice ao n ca, .slice bo m cb] w fun e w' => e = .returned (.tuple #[.slice none 0 0, .int .i64 22]) ∧ w' = w := by
  have d0 : ¬ (n : Int) = (m : Int) := by omega
  have d1 : ((n : Int) == (m : Int)) = false := by simp; omega
  go_enter Try.func10, Try.ntmps10
  go_wp2_with fail
  go_ret2
  exact ⟨rfl, rfl⟩
end Go.Proofs.Ytfjnpmbkmoodnaa
