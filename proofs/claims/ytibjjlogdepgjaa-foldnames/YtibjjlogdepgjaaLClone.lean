import Derived.Test.YtibjjlogdepgjaaLMark
import Derived.WideShapes
import Derived.Laws.Cover3
namespace Go.Proofs.Ytibjjlogdepgjaa
open Go.RowKit Go.WideShapes

theorem nil_eq (a : Option Addr) (n c : Nat) (w : World) : (binOp .eql 40 (.slice a n c) (.slice none 0 0)).run Try.prog w = .ok (.bool a.isNone) w := by
  have e : binOp .eql 40 (.slice a n c) (.slice none 0 0) = (do pure (.bool (← Op.equal 40 (.slice a n c) (.slice none 0 0)))) := rfl
  rw [e, Sem.run_bind, run_equal_slice_nil w _ _ a n c Try.underlying40]
  rfl

end Go.Proofs.Ytibjjlogdepgjaa
