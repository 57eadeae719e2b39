import Derived.Test.YtghhjebacnodcaaSOps
namespace Go.Proofs.Ytghhjebacnodcaa
open Go.RowKit

def fstand (a b : Nat) : Nat := match Ieee.single.order a b with
  | some .lt => 2
  | some .eq => 3
  | some .gt => 4
  | none => 1
/-- the next above -/
def fab (a : Nat) : Nat := if ok a = false then 2143289344 else if a % 2147483648 = 0 then 1 else if a = 2139095040 then 2139095040 else if 2147483648 ≤ a then a - 1 else a + 1
theorem fab_lt {a : Nat} (h : a < 4294967296) : fab a < 4294967296 := by
  unfold fab; split
  · omega
  · split
    · omega
    · split
      · omega
      · split <;> omega
def fbe (a : Nat) : Nat := if ok a = false then 2143289344 else tn (fab (tn a))
end Go.Proofs.Ytghhjebacnodcaa
