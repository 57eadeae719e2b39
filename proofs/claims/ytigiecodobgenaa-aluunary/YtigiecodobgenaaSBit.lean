import Derived.Test.YtigiecodobgenaaSLess
namespace Go.Proofs.Ytigiecodobgenaa
open Go.RowKit

theorem nv_bit {zs : List Nat} (hW : Words zs) (j m : Nat) (hj : j < zs.length) (hm : m < 32) : nv zs / 2 ^ (32 * j + m) % 2 = zs.getD j 0 / 2 ^ m % 2 := by
  have h1 := nv_split zs j hj
  have h2 := nv_lt (words_take hW j)
  rw [show (zs.take j).length = j by simp; omega] at h2
  have e : 2 ^ (32 * j + m) = 4294967296 ^ j * 2 ^ m := by rw [Nat.pow_add, Nat.pow_mul]
  rw [e, ← Nat.div_div_eq_div_mul, h1, Nat.add_mul_div_left _ _ (Nat.pos_of_ne_zero (by intro h; rw [h] at h2; omega)), Nat.div_eq_of_lt h2, Nat.zero_add]
  have e2 : 4294967296 * nv (zs.drop (j + 1)) = 2 ^ m * (2 * (2 ^ (31 - m) * nv (zs.drop (j + 1)))) := by
    rw [← Nat.mul_assoc, ← Nat.mul_assoc, show 2 ^ m * 2 * 2 ^ (31 - m) = 2 ^ (m + 1 + (31 - m)) by rw [Nat.pow_add, Nat.pow_succ], show m + 1 + (31 - m) = 32 by omega]
  rw [e2, Nat.add_mul_div_left _ _ (Nat.pow_pos (by decide))]
  omega
theorem nv_bit_off {zs : List Nat} (hW : Words zs) (n : Nat) (h : zs.length ≤ n / 32) : nv zs / 2 ^ n % 2 = 0 := by
  have h2 := nv_lt hW
  have h3 : 4294967296 ^ zs.length ≤ 2 ^ n := by
    rw [show (4294967296 : Nat) = 2 ^ 32 from rfl, ← Nat.pow_mul]
    exact Nat.pow_le_pow_right (by decide) (by omega)
  rw [Nat.div_eq_of_lt (by omega)]
theorem bit_one (z m : Nat) (h : z < 4294967296) : (bits .and .u32 ((z : Int) / 2 ^ m) 1 == 1) = (z / 2 ^ m % 2 == 1) := by
  have h1 : z / 2 ^ m < 4294967296 := Nat.lt_of_le_of_lt (Nat.div_le_self _ _) h
  have h2 := u32_and_nat (z / 2 ^ m) 1 h1 (by decide)
  rw [Nat.and_one_is_mod] at h2
  have h3 : ((z : Int) / 2 ^ m) = ((z / 2 ^ m : Nat) : Int) := by simp
  rw [h3, show (1 : Int) = ((1 : Nat) : Int) from rfl, h2]
  rw [Bool.eq_iff_iff]
  simp only [beq_iff_eq]
  omega
set_option maxRecDepth 100000 in
set_option maxHeartbeats 1000000 in
theorem bit_any (ao : Option Addr) (cap : Nat) (zs : List Nat) (n : Nat) (w : World) (hl : zs.length ≤ 1000) (hn : n ≤ 1000000) (hr : ReadsU w ao zs w.heap.size) (hW : Words zs) :
    Calls Try.prog 52 #[.slice ao zs.length cap, .int .i64 n] w fun e w' => e = .returned (.bool (nv zs / 2 ^ n % 2 == 1)) ∧ w' = w := by
  obtain ⟨j, hj⟩ : ∃ j, j = n / 32 := ⟨_, rfl⟩
  obtain ⟨m, hm⟩ : ∃ m, m = n % 32 := ⟨_, rfl⟩
  have hnn : n = 32 * j + m := by omega
  have t1 : Int.tdiv (n : Int) 32 = (j : Int) := by rw [Int.tdiv_eq_ediv_of_nonneg (by omega)]; omega
  have t2 : Int.tmod (n : Int) 32 = (m : Int) := by rw [Int.tmod_eq_emod_of_nonneg (by omega)]; omega
  have g0 : decide ((n : Int) < 0) = false := decide_eq_false (by omega)
  have hjb : j ≤ 1000000 := by omega
  by_cases h1 : j < zs.length
  · obtain ⟨z, hz⟩ : ∃ z, zs.getD j 0 = z := ⟨_, rfl⟩
    have zw := words_get hW j
    have hb := nv_bit hW j m h1 (by omega)
    rw [← hnn, hz] at hb
    rw [hz] at zw
    rw [hb]
    obtain ⟨b1, off1, rfl, hbl1, hc1⟩ := hr (by omega)
    have hck1 := hc1 j h1
    rw [hz] at hck1
    have hi1 : (j : Int) < (zs.length : Int) := by omega
    have hi2 : decide ((zs.length : Int) ≤ (j : Int)) = false := decide_eq_false (by omega)
    have hmb : m < 32 := by omega
    clear hc1 hb hz hnn hj hm
    go_enter Try.func52, Try.ntmps52
    go_wp2
    go_ret
    exact ⟨by rw [bit_one z m zw]; rfl, rfl⟩
  · rw [nv_bit_off hW n (by omega)]
    have hi2 : decide ((zs.length : Int) ≤ (j : Int)) = true := decide_eq_true (by omega)
    clear hnn hj hm
    go_enter Try.func52, Try.ntmps52
    go_wp2
    go_ret
    exact ⟨rfl, rfl⟩
end Go.Proofs.Ytigiecodobgenaa
