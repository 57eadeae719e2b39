import Derived.Test.YtfolcjamefgphaaRefCode
namespace Go.Proofs.Ytfolcjamefgphaa
open Go.RowKit

/-- the bytes of a number's code, none: it has none -/
def codeL (r : Int) : List Int :=
  if Lib.validRune r = false then []
  else if r < 128 then [r]
  else if r < 2048 then [192 + r / 64, 128 + r % 64]
  else if r < 65536 then [224 + r / 4096, 128 + r / 64 % 64, 128 + r % 64]
  else [240 + r / 262144, 128 + r / 4096 % 64, 128 + r / 64 % 64, 128 + r % 64]
theorem ret_sb {a b : List Int} {x y : Bool} (h : a = b) (h' : x = y) : Ending.returned (.tuple #[.string (strOfNums a), .bool x]) = .returned (.tuple #[.string (strOfNums b), .bool y]) := by rw [h, h']

end Go.Proofs.Ytfolcjamefgphaa
