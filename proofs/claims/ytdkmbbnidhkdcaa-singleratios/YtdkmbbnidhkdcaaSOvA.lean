import Derived.Test.YtdkmbbnidhkdcaaSRmA
namespace Go.Proofs.Ytdkmbbnidhkdcaa
open Go.RowKit

theorem size_nv (v : Value) (x k : Nat) (w : World) (h : NatV w v x) (hx : x < 2 ^ (32 * k)) (hk : k ≤ 1000) :
    Calls Try.prog 50 #[v] w fun e w' => e = .returned (.int .i64 (nbits x)) ∧ w' = w := by
  obtain ⟨ao, cap, zs, rfl, hc, hn', hval, hN, hW, hr⟩ := h
  have := size_any ao cap zs w (by have := len_pow hN hval k hx; omega) hr hW hN
  rw [hval] at this
  exact this
theorem bit_nv (v : Value) (x k n : Nat) (w : World) (h : NatV w v x) (hx : x < 2 ^ (32 * k)) (hk : k ≤ 1000) (hn : n ≤ 1000000) :
    Calls Try.prog 54 #[v, .int .i64 n] w fun e w' => e = .returned (.bool (x / 2 ^ n % 2 == 1)) ∧ w' = w := by
  obtain ⟨ao, cap, zs, rfl, hc, hn', hval, hN, hW, hr⟩ := h
  have := bit_any ao cap zs n w (by have := len_pow hN hval k hx; omega) hn hr hW
  rw [hval] at this
  exact this
theorem less_nv (v u : Value) (x y k : Nat) (w : World) (h : NatV w v x) (h' : NatV w u y) (hx : x < 2 ^ (32 * k)) (hk : k ≤ 1000) (hle : y ≤ x) :
    Calls Try.prog 39 #[v, u] w fun e w' => (∃ v', e = .returned v' ∧ NatV w' v' (x - y)) ∧ Below w.heap.size w w' := by
  obtain ⟨ao, cap, zs, rfl, hc, hn', hval, hN, hW, hr⟩ := h
  obtain ⟨ao2, cap2, zs2, rfl, hc2, hn2, hval2, hN2, hW2, hr2⟩ := h'
  have hl2 : zs2.length ≤ zs.length := by
    have h1 : nv zs2 < 4294967296 ^ zs.length := by rw [hval2]; exact Nat.lt_of_le_of_lt hle (by rw [← hval]; exact nv_lt hW)
    exact norm_len hN2 zs.length h1
  have := less_any ao ao2 cap cap2 zs zs2 w (by have := len_pow hN hval k hx; omega) hl2 (by rw [hval, hval2]; exact hle) hr hr2 hW hW2
  rw [hval, hval2] at this
  exact this
theorem NatV.len0 {w : World} {v : Value} {x : Nat} (h : NatV w v x) : ∃ ao l cap, v = .slice ao l cap ∧ (decide (0 < l) = decide (0 < x)) := by
  obtain ⟨ao, cap, zs, rfl, hc, hn', hval, hN, hW, hr⟩ := h
  refine ⟨ao, zs.length, cap, rfl, ?_⟩
  rw [decide_eq_decide]
  constructor
  · intro h
    rcases hN with h0 | h0
    · omega
    · apply Nat.pos_of_ne_zero
      intro hx
      rw [← hval] at hx
      have := norm_len (zs := zs) (Or.inr h0) 0 (by rw [hx]; decide)
      omega
  · intro h
    apply Nat.pos_of_ne_zero
    intro h0
    rw [List.length_eq_zero_iff.1 h0] at hval
    simp [nv] at hval
    omega
/-- a round of a division by bits -/
theorem ov_step (V b i : Nat) (hb : 0 < b) :
    let t := V / 2 ^ (i + 1) % b * 2 + V / 2 ^ i % 2
    (b ≤ t → V / 2 ^ i / b = V / 2 ^ (i + 1) / b * 2 + 1 ∧ V / 2 ^ i % b = t - b) ∧ (t < b → V / 2 ^ i / b = V / 2 ^ (i + 1) / b * 2 ∧ V / 2 ^ i % b = t) := by
  intro t
  have e1 : V / 2 ^ (i + 1) = V / 2 ^ i / 2 := by rw [Nat.pow_succ, Nat.div_div_eq_div_mul]
  have ht : t = V / 2 ^ (i + 1) % b * 2 + V / 2 ^ i % 2 := rfl
  clear_value t
  rw [e1] at ht ⊢
  generalize V / 2 ^ i = U at *
  have h1 := Nat.div_add_mod (U / 2) b
  have h2 := Nat.mod_lt (U / 2) hb
  have h3 := Nat.div_add_mod U 2
  generalize hq : U / 2 / b = q at *
  generalize hr : U / 2 % b = r at *
  have hU : U = b * (q * 2) + t := by
    rw [ht, ← Nat.mul_assoc, ← h3]
    omega
  have htl : t < 2 * b := by omega
  clear h1 h2 h3 ht hq hr e1
  refine ⟨fun h => ?_, fun h => ?_⟩
  · have hU2 : U = b * (q * 2 + 1) + (t - b) := by rw [Nat.mul_add, Nat.mul_one]; omega
    constructor
    · rw [hU2, Nat.mul_add_div hb, Nat.div_eq_of_lt (by omega), Nat.add_zero]
    · rw [hU2, Nat.mul_add_mod, Nat.mod_eq_of_lt (by omega)]
  · constructor
    · rw [hU, Nat.mul_add_div hb, Nat.div_eq_of_lt h, Nat.add_zero]
    · rw [hU, Nat.mul_add_mod, Nat.mod_eq_of_lt h]
end Go.Proofs.Ytdkmbbnidhkdcaa
