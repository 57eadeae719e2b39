import Derived.Test.YtdkmbbnidhkdcaaSRnE
import Derived.Test.YtdkmbbnidhkdcaaSTimes
namespace Go.Proofs.Ytdkmbbnidhkdcaa
open Go.RowKit

theorem dbl_lt {x k : Nat} (h : x < 2 ^ (32 * k)) : x * 2 < 2 ^ (32 * (k + 1)) := by
  have h1 : 2 ^ (32 * k) * 2 ≤ 2 ^ (32 * (k + 1)) := by
    rw [← Nat.pow_succ]; exact Nat.pow_le_pow_right (by decide) (by omega)
  omega
theorem inc_lt {x k : Nat} (h : x < 2 ^ (32 * k)) : x + 1 < 2 ^ (32 * (k + 1)) := by
  have h1 : 2 ^ (32 * k) * 2 ≤ 2 ^ (32 * (k + 1)) := by
    rw [← Nat.pow_succ]; exact Nat.pow_le_pow_right (by decide) (by omega)
  have h2 := Nat.two_pow_pos (32 * k)
  omega
theorem nn_lt {x NN k : Nat} (h : x * 2 + 1 = NN) (hx : x < 2 ^ (32 * k)) : NN < 2 ^ (32 * (k + 1)) := by
  have h1 : 2 ^ (32 * k) * 2 ≤ 2 ^ (32 * (k + 1)) := by
    rw [← Nat.pow_succ]; exact Nat.pow_le_pow_right (by decide) (by omega)
  omega
theorem one_lt (k : Nat) (h : 0 < k) : 1 < 2 ^ (32 * k) := Nat.one_lt_two_pow (by omega)
theorem lenz {zs : List Nat} (_ : Norm zs) (h : nv zs ≠ 0) : ((zs.length : Int) == 0) = false := by
  rw [beq_eq_false_iff_ne]
  intro e
  have : zs.length = 0 := by omega
  rw [List.length_eq_zero_iff.1 this] at h
  exact h rfl
theorem up_1 (v : Value) (x k : Nat) (w : World) (h : NatV w v x) (hx : x < 2 ^ (32 * k)) (hk : k ≤ 1000) :
    Calls Try.prog 33 #[v, .int .i64 1] w fun e w' => (∃ v', e = .returned v' ∧ NatV w' v' (x * 2)) ∧ Below w.heap.size w w' := by
  obtain ⟨ao, cap, zs, rfl, hc, hn', hval, hN, hW, hr⟩ := h
  have := up_any ao cap zs 1 w (by have := len_pow hN hval k hx; omega) (by omega) hr hW
  rw [hval] at this
  exact this
end Go.Proofs.Ytdkmbbnidhkdcaa
