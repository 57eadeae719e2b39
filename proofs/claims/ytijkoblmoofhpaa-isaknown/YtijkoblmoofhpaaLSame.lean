import Derived.Test.YtijkoblmoofhpaaLMark
namespace Go.Proofs.Ytijkoblmoofhpaa
open Go.RowKit

theorem take_ne {xs ys : List Int} {k : Nat} (h : xs.getD k 0 ≠ ys.getD k 0) : xs ≠ ys := by
  intro e; subst e; exact h rfl

end Go.Proofs.Ytijkoblmoofhpaa
