import Derived.Test.YtkkflgiepfenpaaSFin
import Derived.Laws.Shifts
namespace Go.Proofs.Ytkkflgiepfenpaa
open Go.RowKit

def rdm (a : Nat) : Nat := if a % 2147483648 < 8388608 then a % 2147483648 else 8388608 + a % 8388608
def rdk (a : Nat) : Nat := if a % 2147483648 < 8388608 then 0 else a % 2147483648 / 8388608 - 1
theorem rd_val (a : Nat) : rdm a * 2 ^ rdk a = val (a % 2147483648) ∧ a % 2147483648 = rdk a * 8388608 + rdm a ∧ rdm a < 16777216 ∧ (rdk a = 0 ∨ 8388608 ≤ rdm a) := by
  unfold rdm rdk val
  split
  · refine ⟨by simp, by omega, by omega, Or.inl rfl⟩
  · rename_i h
    refine ⟨?_, by omega, by omega, Or.inr (by omega)⟩
    rw [show a % 2147483648 % 8388608 = a % 8388608 by omega]
theorem read_rd (a : Nat) (h : a % 2147483648 < 2139095040) : Ieee.single.read a = .number (sn a) (rdm a) (-149 + (rdk a : Int)) := by
  rw [read_single]; unfold rdm rdk sn
  split
  · simp
  · rw [show a % 2147483648 % 8388608 = a % 8388608 by omega]
theorem b_exp (n : Nat) (h : n < 512) : bits .and .u32 (n : Int) 255 = ((n % 256 : Nat) : Int) := by
  have := u32_and_nat n 255 (by omega) (by omega)
  rw [show n &&& 255 = n % 256 from Nat.and_two_pow_sub_one_eq_mod n 8] at this
  exact this
theorem b_frac (a : Nat) (h : a < 4294967296) : bits .and .u32 (a : Int) 8388607 = ((a % 8388608 : Nat) : Int) := by
  have := u32_and_nat a 8388607 h (by omega)
  rw [show a &&& 8388607 = a % 8388608 from Nat.and_two_pow_sub_one_eq_mod a 23] at this
  exact this
theorem read_any (a : Nat) (w : World) (h : a < 4294967296) :
    Calls Try.prog 7 #[.int .u32 a] w fun e w' => e = .returned (.tuple #[.int .u64 (rdm a), .int .i64 (-149 + (rdk a : Int))]) ∧ w' = w := by
  have h1 : bits .and .u32 ((a : Int) / 8388608) 255 = ((a / 8388608 % 256 : Nat) : Int) := by
    have := b_exp (a / 8388608) (by omega)
    rwa [Int.natCast_ediv] at this
  have h2 := b_frac a h
  unfold rdm rdk
  by_cases hz : a % 2147483648 < 8388608
  · rw [if_pos hz, if_pos hz]
    rw [show a / 8388608 % 256 = 0 by omega] at h1
    rw [show a % 8388608 = a % 2147483648 by omega] at h2
    go_enter Try.func7, Try.ntmps7
    go_wp2
    go_ret2
    exact ⟨rfl, rfl⟩
  · rw [if_neg hz, if_neg hz]
    obtain ⟨E, hE⟩ : ∃ E, a / 8388608 % 256 = E + 1 := ⟨a / 8388608 % 256 - 1, by omega⟩
    rw [hE] at h1
    have e2 : a % 2147483648 / 8388608 - 1 = E := by omega
    rw [e2]
    have hE' : E < 255 := by omega
    have hF : a % 8388608 < 8388608 := by omega
    generalize a % 8388608 = F at h2 hF
    go_enter Try.func7, Try.ntmps7
    go_wp2
    go_ret2
    exact ⟨by rw [show ((8388608 + F : Nat) : Int) = (F : Int) + 8388608 by omega, show (-149 + (E : Int)) = ((E + 1 : Nat) : Int) - 150 by omega]; rfl, rfl⟩
theorem fin_any (a : Nat) (w : World) (h : a < 4294967296) :
    Calls Try.prog 5 #[.int .u32 a] w fun e w' => e = .returned (.bool (decide (a % 2147483648 < 2139095040))) ∧ w' = w := by
  have hb := b_and a h
  have hd : decide (((a % 2147483648 : Nat) : Int) < 2139095040) = decide (a % 2147483648 < 2139095040) := by
    apply decide_eq_decide.2; omega
  rw [← hd]
  clear hd
  go_enter Try.func5, Try.ntmps5
  go_wp2
  go_ret
  exact ⟨rfl, rfl⟩
theorem shift_any (x n : Nat) (w : World) (h0 : 0 < x) (hx : x < 18446744073709551616) (h : x * 2 ^ n ≤ 4611686018427387904) :
    Calls Try.prog 23 #[.int .u64 x, .int .i64 n] w fun e w' => e = .returned (.int .u64 ((x * 2 ^ n : Nat) : Int)) ∧ w' = w := by
  have hn : n ≤ 62 := by
    apply Nat.le_of_not_lt
    intro hlt
    have h1 : 2 ^ 63 ≤ 2 ^ n := Nat.pow_le_pow_right (by decide) (by omega)
    have h2 : 2 ^ n ≤ x * 2 ^ n := Nat.le_mul_of_pos_left _ h0
    omega
  have hle : x ≤ 4611686018427387904 / 2 ^ n := (Nat.le_div_iff_mul_le (Nat.two_pow_pos _)).2 h
  have g0 : ((x : Int) == 0) = false := by simp; omega
  have g1 : decide ((62 : Int) < (n : Int)) = false := decide_eq_false (by omega)
  have g2 : decide ((4611686018427387904 : Int) / 2 ^ n < (x : Int)) = false := by
    apply decide_eq_false
    have : ((4611686018427387904 / 2 ^ n : Nat) : Int) = (4611686018427387904 : Int) / 2 ^ n := by rw [Int.natCast_ediv]; simp
    omega
  have hw : IntKind.u64.wrap ((x : Int) * 2 ^ n) = ((x * 2 ^ n : Nat) : Int) := by
    have e : (x : Int) * 2 ^ n = ((x * 2 ^ n : Nat) : Int) := by simp
    rw [e]
    show ((x * 2 ^ n : Nat) : Int) % 18446744073709551616 = _
    omega
  go_enter Try.func23, Try.ntmps23
  go_wp2
  go_ret
  exact ⟨by rw [show ((x * 2 ^ n : Nat) : Int) = (x : Int) * 2 ^ n by simp]; rfl, rfl⟩
theorem shift_cap (x n : Nat) (w : World) (h0 : 0 < x) (hx : x < 18446744073709551616) (hn : n < 9223372036854775808) (h : 4611686018427387904 < x * 2 ^ n) :
    Calls Try.prog 23 #[.int .u64 x, .int .i64 n] w fun e w' => e = .returned (.int .u64 4611686018427387904) ∧ w' = w := by
  have g0 : ((x : Int) == 0) = false := by simp; omega
  by_cases h62 : 62 < n
  · have g1 : decide ((62 : Int) < (n : Int)) = true := decide_eq_true (by omega)
    go_enter Try.func23, Try.ntmps23
    go_wp2
    go_ret
    exact ⟨rfl, rfl⟩
  · have g1 : decide ((62 : Int) < (n : Int)) = false := decide_eq_false (by omega)
    have hlt : 4611686018427387904 / 2 ^ n < x := (Nat.div_lt_iff_lt_mul (Nat.two_pow_pos _)).2 h
    have g2 : decide ((4611686018427387904 : Int) / 2 ^ n < (x : Int)) = true := by
      apply decide_eq_true
      have : ((4611686018427387904 / 2 ^ n : Nat) : Int) = (4611686018427387904 : Int) / 2 ^ n := by rw [Int.natCast_ediv]; simp
      omega
    go_enter Try.func23, Try.ntmps23
    go_wp2
    go_ret
    exact ⟨rfl, rfl⟩
end Go.Proofs.Ytkkflgiepfenpaa
