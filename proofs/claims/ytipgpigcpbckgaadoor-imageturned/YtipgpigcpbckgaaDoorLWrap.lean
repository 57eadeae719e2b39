import Derived.Test.YtipgpigcpbckgaaDoorLLives
import Derived.Test.YtipgpigcpbckgaaDoorLWd8
import Derived.Test.YtipgpigcpbckgaaDoorLWd64
namespace Go.Proofs.YtipgpigcpbckgaaDoor
open Go.RowKit
set_option maxRecDepth 100000

def wd (w : Int) : Nat := if w = 1 then 1 else if w = 2 then 2 else if w = 4 then 4 else 8
theorem wd_cases (w : Int) : wd w = 1 ∨ wd w = 2 ∨ wd w = 4 ∨ wd w = 8 := by
  unfold wd
  by_cases h1 : w = 1
  · simp [h1]
  by_cases h2 : w = 2
  · simp [h2]
  by_cases h4 : w = 4
  · simp [h4]
  · simp [h1, h2, h4]
end Go.Proofs.YtipgpigcpbckgaaDoor
