import Derived.Test.YtcmfephbhbgoiaaDoorJSm
import Derived.BigQuiet
namespace Go.Proofs.YtcmfephbhbgoiaaDoor
open Go.RowKit
set_option maxRecDepth 100000

theorem take_neg {xs ys : List (Nat × Int)} {k : Nat} (h : ¬ xs.getD k (0, 0) = ys.getD k (0, 0)) : ¬ xs = ys := by
  intro e; subst e; exact h rfl
end Go.Proofs.YtcmfephbhbgoiaaDoor
