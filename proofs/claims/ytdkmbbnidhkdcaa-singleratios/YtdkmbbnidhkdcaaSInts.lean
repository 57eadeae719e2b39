import Derived.Test.YtdkmbbnidhkdcaaSConv
namespace Go.Proofs.Ytdkmbbnidhkdcaa
open Go.RowKit

/-- a whole number as a word -/
def fof (n : Int) : Nat := Ieee.single.write (.number (n < 0) n.natAbs 0)
end Go.Proofs.Ytdkmbbnidhkdcaa
