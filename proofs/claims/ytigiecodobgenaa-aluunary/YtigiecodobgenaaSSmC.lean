import Derived.Test.YtigiecodobgenaaSSmA
namespace Go.Proofs.Ytigiecodobgenaa
open Go.RowKit

abbrev vN : Value := .agg #[.int .u8 1, .bool false, .int .u64 0, .int .i64 0]
abbrev vE (m : Bool) : Value := .agg #[.int .u8 2, .bool m, .int .u64 0, .int .i64 0]
abbrev vF (m : Bool) (n p : Int) : Value := .agg #[.int .u8 3, .bool m, .int .u64 n, .int .i64 p]
end Go.Proofs.Ytigiecodobgenaa
