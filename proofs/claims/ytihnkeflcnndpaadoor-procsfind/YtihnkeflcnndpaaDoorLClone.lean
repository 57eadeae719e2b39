import Derived.Test.YtihnkeflcnndpaaDoorLMark
import Derived.WideShapes
import Derived.Laws.Cover3
namespace Go.Proofs.YtihnkeflcnndpaaDoor
open Go.RowKit Go.WideShapes

theorem nil_eq (a : Option Addr) (n c : Nat) (w : World) : (binOp .eql 80 (.slice a n c) (.slice none 0 0)).run Tryd.prog w = .ok (.bool a.isNone) w := by
  have e : binOp .eql 80 (.slice a n c) (.slice none 0 0) = (do pure (.bool (← Op.equal 80 (.slice a n c) (.slice none 0 0)))) := rfl
  rw [e, Sem.run_bind, run_equal_slice_nil w _ _ a n c Tryd.underlying80]
  rfl

end Go.Proofs.YtihnkeflcnndpaaDoor
