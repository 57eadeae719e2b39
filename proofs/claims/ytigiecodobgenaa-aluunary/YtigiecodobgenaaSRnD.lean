import Derived.Test.YtigiecodobgenaaSRnC
namespace Go.Proofs.Ytigiecodobgenaa
open Go.RowKit

theorem len5 {zs5 zs : List Nat} (hN : Norm zs5) {R q2 : Nat} (h : nv zs5 = R) (hR : nv zs - q2 = R) (_ : q2 ≤ nv zs) (hW : Words zs) (hl : zs.length ≤ 100) : zs5.length ≤ 1000000 := by
  have := norm_len hN zs.length (by have := nv_lt hW; omega)
  omega
theorem held_lit (m : Bool) (p : Int) (w : World) : Calls Try.prog 47 #[.agg #[.int .i64 24, .int .i64 (-149), .int .i64 104], .bool m, .int .u64 8388608, .int .i64 p] w fun e w' => e = .returned (hdV m 8388608 p) ∧ Below w.heap.size w w' := held_any m 8388608 p w
theorem nat_1 (w : World) : Calls Try.prog 33 #[.int .u64 1] w fun e w' => (∃ v, e = .returned v ∧ NatV w' v 1) ∧ Below w.heap.size w w' := nat_any 1 w (by decide)
theorem len7 {zs7 : List Nat} (hN : Norm zs7) {half D : Nat} (h : nv zs7 = half) (hh : 2 ^ (D - 1) = half) (hD : D ≤ 4001) : zs7.length ≤ 1000000 := by
  have h1 : ∀ k, D - 1 < 32 * k → zs7.length ≤ k := fun k hk => norm_len hN k (by
    rw [h, ← hh, show (4294967296 : Nat) = 2 ^ 32 from rfl, ← Nat.pow_mul]
    exact Nat.pow_lt_pow_right (by decide) hk)
  have := h1 200 (by omega)
  omega
end Go.Proofs.Ytigiecodobgenaa
