import Derived.Test.YtiadcajhflhcoaaJLl
import Derived.Test.YtiadcajhflhcoaaJOp
namespace Go.Proofs.Ytiadcajhflhcoaa
open Go.RowKit
set_option maxRecDepth 100000
theorem less_ints (a0 a1 : Option Addr) (c0 c1 : Nat) (z0 z1 : List Int) (w : World) (n0 : z0.length ≤ 140737488351232) (n1 : z1.length ≤ 140737488351232)
    (r0 : ReadsK w .u32 a0 z0 w.heap.size) (r1 : ReadsK w .u32 a1 z1 w.heap.size) (k0 : ∀ z ∈ z0, 0 ≤ z ∧ z < 4294967296) (k1 : ∀ z ∈ z1, 0 ≤ z ∧ z < 4294967296) :
    Calls Try.prog 3 #[.slice a0 z0.length c0, .slice a1 z1.length c1] w fun e w' => e = .returned (.bool true) ∧ Below w.heap.size w w' := by
  have := gate_less a0 a1 c0 c1 (z0.map Int.toNat) (z1.map Int.toNat) w (by simpa using n0) (by simpa using n1) (wrd_of r0 k0) (wrd_of r1 k1) (wrd_lt k0) (wrd_lt k1)
  rw [List.length_map, List.length_map] at this
  exact this
end Go.Proofs.Ytiadcajhflhcoaa
