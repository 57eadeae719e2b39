import Derived.Test.YtibjjlogdepgjaaSFin
import Derived.Test.YtibjjlogdepgjaaSNeigh
namespace Go.Proofs.Ytibjjlogdepgjaa
open Go.RowKit
set_option maxRecDepth 100000

def sg (a : Nat) : Bool := decide (2147483648 ≤ a)
def rdm (a : Nat) : Nat := if a % 2147483648 < 8388608 then a % 2147483648 else 8388608 + a % 8388608
def rdk (a : Nat) : Nat := if a % 2147483648 < 8388608 then 0 else a % 2147483648 / 8388608 - 1
theorem read_rd (a : Nat) (h : a % 2147483648 < 2139095040) : Ieee.single.read a = .number (sn a) (rdm a) (-149 + (rdk a : Int)) := by
  rw [read_single]; unfold rdm rdk sn
  split
  · simp
  · rw [show a % 2147483648 % 8388608 = a % 8388608 by omega]
theorem sg_sn (a : Nat) (h : a < 4294967296) : sn a = sg a := by
  unfold sn sg
  rw [Bool.eq_iff_iff]
  simp only [beq_iff_eq, decide_eq_true_eq]
  omega
theorem rd_vali (a : Nat) : rdm a * 2 ^ rdk a = val (a % 2147483648) := by
  unfold rdm rdk val
  split
  · simp
  · rw [show a % 2147483648 % 8388608 = a % 8388608 by omega]
theorem key_sgi (a : Nat) (h : a < 4294967296) : key a = if sg a then -((a % 2147483648 : Nat) : Int) else ((a % 2147483648 : Nat) : Int) := by
  unfold key sg
  by_cases h' : 2147483648 ≤ a
  · rw [if_neg (by omega), decide_eq_true h']; rfl
  · rw [if_pos (by omega), decide_eq_false h']; simp; omega
def tT (a : Nat) : Nat := val (a % 2147483648) / 2 ^ 149
def twV (a : Nat) : Int := if ok a = false then 0 else if 1325400064 ≤ a % 2147483648 then (if sg a then -2147483648 else 2147483647) else if sg a then -(tT a : Int) else (tT a : Int)
theorem two31 : val 1325400064 = 2147483648 * 2 ^ 149 := by decide +kernel
theorem tT_lt (a : Nat) : tT a < 2147483648 ↔ a % 2147483648 < 1325400064 := by
  unfold tT
  rw [Nat.div_lt_iff_lt_mul (Nat.two_pow_pos 149), ← two31, val_lt_iff]
theorem tT_neg (a : Nat) (h : rdk a ≤ 149) : rdm a / 2 ^ (149 - rdk a) = tT a := by
  unfold tT
  rw [← rd_vali a, show (2 : Nat) ^ 149 = 2 ^ (149 - rdk a) * 2 ^ rdk a by rw [← Nat.pow_add]; congr 1; omega]
  rw [Nat.mul_div_mul_right _ _ (Nat.two_pow_pos _)]
theorem tT_pos (a : Nat) (h : 149 ≤ rdk a) : rdm a * 2 ^ (rdk a - 149) = tT a := by
  unfold tT
  rw [← rd_vali a, show (2 : Nat) ^ rdk a = 2 ^ (rdk a - 149) * 2 ^ 149 by rw [← Nat.pow_add]; congr 1; omega, ← Nat.mul_assoc, Nat.mul_div_cancel _ (Nat.two_pow_pos _)]
theorem int_val (a : Nat) (ha : a < 4294967296) (fa : a % 2147483648 < 1325400064) : floatToIntVal .f32 a .i32 = some (if sg a then -(tT a : Int) else (tT a : Int)) := by
  have hT := (tT_lt a).2 fa
  have hint : (FloatKind.f32.decode a).toInt .zero = some (if sg a then -(tT a : Int) else (tT a : Int)) := by
    show (Ieee.single.read a).toInt .zero = _
    rw [read_rd a (by omega)]
    simp only [Ieee.Datum.toInt, Ieee.Datum.integral, cutz_eq]
    have hc : rdm a <<< (-149 + (rdk a : Int)).toNat / 2 ^ (-(-149 + (rdk a : Int))).toNat = tT a := by
      rw [Nat.shiftLeft_eq]
      by_cases hk1 : rdk a ≤ 149
      · rw [show (-149 + (rdk a : Int)).toNat = 0 by omega, show (-(-149 + (rdk a : Int))).toNat = 149 - rdk a by omega, Nat.pow_zero, Nat.mul_one]
        exact tT_neg a hk1
      · rw [show (-149 + (rdk a : Int)).toNat = rdk a - 149 by omega, show (-(-149 + (rdk a : Int))).toNat = 0 by omega, Nat.pow_zero, Nat.div_one]
        exact tT_pos a (by omega)
    rw [hc]
    unfold Ieee.signed
    rw [Nat.shiftLeft_eq, Nat.pow_zero, Nat.mul_one, sg_sn a ha]
  unfold floatToIntVal
  rw [hint]
  show (if IntKind.i32.min ≤ _ ∧ _ ≤ IntKind.i32.max then some _ else none) = some _
  rw [if_pos]
  have h1 : IntKind.i32.min = -2147483648 := rfl
  have h2 : IntKind.i32.max = 2147483647 := rfl
  rw [h1, h2]
  split <;> omega
theorem ptoward_any (a : Nat) (w : World) (ha : a < 4294967296) :
    Calls Try.prog 44 #[.int .u32 a] w fun e w' => e = .returned (.int .i32 (twV a)) ∧ w' = w := by
  unfold twV
  cases oa : ok a with
  | false => rw [if_pos rfl]; exact toward_nan a w oa
  | true =>
    rw [if_neg (by simp)]
    have kw := key_sgi a ha
    have mo := ok_mod oa
    have k1 : key 1325400064 = 1325400064 := rfl
    have k2 : key 3472883712 = -1325400064 := rfl
    have o1 := order_key a 1325400064 ha (by decide) oa (by decide)
    have o2 := order_key a 3472883712 ha (by decide) oa (by decide)
    rw [k1] at o1
    rw [k2] at o2
    simp only [compare, compareOfLessAndEq] at o1 o2
    by_cases hr : 1325400064 ≤ a % 2147483648
    · rw [if_pos hr]
      cases hs : sg a with
      | false =>
        rw [hs] at kw
        simp only [Bool.false_eq_true, if_false] at kw ⊢
        refine toward_max a w oa ?_
        rw [o1, if_neg (by omega)]
        by_cases e : key a = 1325400064
        · right; rw [if_pos e]
        · left; rw [if_neg e]
      | true =>
        rw [hs] at kw
        simp only [if_true] at kw ⊢
        refine toward_min a w oa (by rw [o1, if_pos (by omega)]) ?_
        rw [o2]
        by_cases e : key a < -1325400064
        · left; rw [if_pos e]
        · right; rw [if_neg e, if_pos (by omega)]
    · rw [if_neg hr]
      have kb : -1325400064 < key a ∧ key a < 1325400064 := by rw [kw]; split <;> omega
      exact toward_int a _ w oa (by rw [o1, if_pos kb.2]) (by rw [o2, if_neg (by omega), if_neg (by omega)]) (int_val a ha (by omega))
end Go.Proofs.Ytibjjlogdepgjaa
