import Derived.Test.YtigiecodobgenaaSOne
namespace Go.Proofs.Ytigiecodobgenaa
open Go.RowKit

end Go.Proofs.Ytigiecodobgenaa
