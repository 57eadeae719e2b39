import Derived.Test.YtghhjebacnodcaaSConv
namespace Go.Proofs.Ytghhjebacnodcaa
open Go.RowKit

/-- a whole number as a word -/
def fof (n : Int) : Nat := Ieee.single.write (.number (n < 0) n.natAbs 0)
end Go.Proofs.Ytghhjebacnodcaa
