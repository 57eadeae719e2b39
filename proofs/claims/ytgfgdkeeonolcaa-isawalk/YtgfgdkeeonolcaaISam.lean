import Derived.Test.YtgfgdkeeonolcaaIMat
namespace Go.Proofs.Ytgfgdkeeonolcaa
open Go.RowKit
set_option maxRecDepth 100000

theorem take_nec {xs ys : List (Nat × Nat)} {k : Nat} (h : ¬ xs.getD k (0, 0) = ys.getD k (0, 0)) : ¬ xs = ys := by
  intro e; subst e; exact h rfl
end Go.Proofs.Ytgfgdkeeonolcaa
