import Derived.Test.YtfolcjamefgphaaRefEsc
import Derived.Test.YtfolcjamefgphaaBCode
namespace Go.Proofs.Ytfolcjamefgphaa
open Go.RowKit

def escB (s : ByteArray) (i : Nat) : List Int :=
  if (escV (sub s (i + 1))).2.2.2 = true then (if (escV (sub s (i + 1))).2.1 = true then [(escV (sub s (i + 1))).1] else codeL (escV (sub s (i + 1))).1) else []
theorem escB_of {s : ByteArray} {i : Nat} {x1 x3 : Int} {x2 : Bool} (h : escV (sub s (i + 1)) = (x1, x2, x3, true)) (h2 : x2 = true := by rfl) : escRef s i = (x1, i + x3, 0) ∧ escB s i = [x1] := by
  subst h2; exact ⟨escRef_of h, by rw [escB, h]; simp⟩
theorem escB_ofF {s : ByteArray} {i : Nat} {x1 x3 : Int} {x2 : Bool} (h : escV (sub s (i + 1)) = (x1, x2, x3, true)) (h2 : x2 = false := by rfl) : escRef s i = (x1, i + x3, 0) ∧ escB s i = codeL x1 := by
  subst h2; exact ⟨escRef_of h, by rw [escB, h]; simp⟩
theorem escB_no {s : ByteArray} {i : Nat} {x1 x3 : Int} {x2 : Bool} (h : escV (sub s (i + 1)) = (x1, x2, x3, false)) : escRef s i = (0, (i : Int), 12) ∧ escB s i = [] :=
  ⟨escRef_no h, by rw [escB, h]; simp⟩

end Go.Proofs.Ytfolcjamefgphaa
