import Derived.Test.YtigiecodobgenaaACat
namespace Go.Proofs.Ytigiecodobgenaa
open Go.RowKit
/-- a word read with its sign -/
def sx (a : Nat) : Int := if a < 2147483648 then a else (a : Int) - 4294967296
theorem wrap32_sx {a : Nat} (h : a < 4294967296) : wrap32 (a : Int) = sx a := by unfold wrap32 sx; split <;> omega
theorem sx_zero {a : Nat} (h : a < 4294967296) : sx a = 0 ↔ a = 0 := by unfold sx; split <;> omega
theorem wrap32_mod (z : Int) : wrap32 z % 4294967296 = z % 4294967296 := by unfold wrap32; omega
theorem divu_le {a b : Nat} (h : a < 4294967296) : (a : Int) / (b : Int) % 4294967296 = (a : Int) / (b : Int) := by
  have := Nat.div_le_self a b
  have e : (a : Int) / (b : Int) = ((a / b : Nat) : Int) := rfl
  rw [e]
  generalize a / b = c at *
  omega
theorem sx_range {a : Nat} (h : a < 4294967296) : -2147483648 ≤ sx a ∧ sx a ≤ 2147483647 := by unfold sx; split <;> omega
end Go.Proofs.Ytigiecodobgenaa
