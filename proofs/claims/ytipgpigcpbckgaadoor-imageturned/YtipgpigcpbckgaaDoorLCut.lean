import Derived.Test.YtipgpigcpbckgaaDoorLWrap
namespace Go.Proofs.YtipgpigcpbckgaaDoor
open Go.RowKit
set_option maxRecDepth 100000

theorem Tryd.infoQ : (Tryd.prog.info? 42).map (fun i => (i.zero, i.size, i.bytes)) = some (some (.int .u64 0), 1, 8) := by kernel_rfl
def cuts (w : Nat) (xs : List Int) : List Int := xs.map fun x => x % 256 ^ w
theorem own_snocK {w1 : World} {B e : Nat} {k : IntKind} {v' : Value} {L M : List Int} {n : Nat} {x : Int} (hM : M = L ++ [x])
    (h : w1.ownsRow B e 1 v' (n + 1) (bk k L ++ [.int k x])) : w1.ownsRow B e 1 v' (n + 1) (bk k M) := by
  rw [hM, bk_append]; exact h

end Go.Proofs.YtipgpigcpbckgaaDoor
