import Derived.Test.YtibjjlogdepgjaaRows
import Derived.WalkKit
import Derived.WalkLawsBesides
import Derived.Laws.BitsAllLaws
import Derived.Laws.Externs
import Derived.Deep.QuietTactic
import Derived.BigQuiet
import Derived.WalkSmall
namespace Go.Proofs.Ytibjjlogdepgjaa
open Go.RowKit
set_option maxRecDepth 100000

@[go_sem] theorem call_from32 (n : Int) (w : World) : (callFunc 53 #[.int .u32 n]).run Try.prog w = .ok (.value (.float .f32 n.toNat)) w := by
  rw [run_callFunc_extern (e := Extern.MathFloatBits.float32frombits) Try.func53 (by kernel_rfl) (by kernel_rfl) (by kernel_rfl) (by kernel_rfl)]
  rfl
@[go_sem] theorem call_bits32 (n : Nat) (w : World) : (callFunc 54 #[.float .f32 n]).run Try.prog w = .ok (.value (.int .u32 n)) w := by
  rw [run_callFunc_extern (e := Extern.MathFloatBits.float32bits) Try.func54 (by kernel_rfl) (by kernel_rfl) (by kernel_rfl) (by kernel_rfl)]
  rfl

/-! words: the bits -/
theorem b_and (a : Nat) (h : a < 4294967296) : bits .and .u32 (a : Int) 2147483647 = ((a % 2147483648 : Nat) : Int) := by
  have := u32_and_nat a 2147483647 h (by omega)
  rw [show a &&& 2147483647 = a % 2147483648 from Nat.and_two_pow_sub_one_eq_mod a 31] at this
  exact this
theorem b_andNot (a : Nat) (h : a < 4294967296) : bits .andNot .u32 (a : Int) 2147483648 = ((a % 2147483648 : Nat) : Int) := by
  have := u32_andNot_nat a 2147483648 h (by omega)
  rw [show a &&& (4294967295 - 2147483648) = a % 2147483648 from Nat.and_two_pow_sub_one_eq_mod a 31] at this
  exact this
theorem b_andNot' (a : Nat) (h : a < 4294967296) : bits .andNot .u32 (a : Int) 2147483647 = ((a / 2147483648 * 2147483648 : Nat) : Int) := by
  have := u32_andNot_nat a 2147483647 h (by omega)
  rw [show a &&& (4294967295 - 2147483647) = a / 2147483648 % 2 * 2147483648 from nat_bit 31 a, show a / 2147483648 % 2 = a / 2147483648 by omega] at this
  exact this
theorem b_sign (a : Nat) (h : a < 4294967296) : bits .and .u32 (a : Int) 2147483648 = ((a / 2147483648 * 2147483648 : Nat) : Int) := by
  have := u32_and_nat a 2147483648 h (by omega)
  rw [show a &&& 2147483648 = a / 2147483648 % 2 * 2147483648 from nat_bit 31 a, show a / 2147483648 % 2 = a / 2147483648 by omega] at this
  exact this
/-- a word with its sign turned -/
def tn (a : Nat) : Nat := if a < 2147483648 then a + 2147483648 else a - 2147483648
theorem tn_lt {a : Nat} (h : a < 4294967296) : tn a < 4294967296 := by unfold tn; split <;> omega
theorem b_xor (a : Nat) (h : a < 4294967296) : bits .xor .u32 (a : Int) 2147483648 = ((tn a : Nat) : Int) := by
  have := u32_xor_nat a 2147483648 h (by omega)
  rw [show a ^^^ 2147483648 = tn a from ?_] at this
  · exact this
  have e1 : (a ^^^ 2147483648) % 2 ^ 31 = a % 2 ^ 31 := by
    rw [show 2147483648 = 2 ^ 31 by decide, Nat.xor_mod_two_pow]; simp
  have e2 : (a ^^^ 2147483648) / 2 ^ 31 = (a / 2 ^ 31) ^^^ 1 := by
    rw [show 2147483648 = 2 ^ 31 by decide, ← Nat.shiftRight_eq_div_pow, ← Nat.shiftRight_eq_div_pow, Nat.shiftRight_xor_distrib]; rfl
  have e3 : (a / 2 ^ 31) ^^^ 1 = if a < 2147483648 then 1 else 0 := by
    have : a / 2 ^ 31 = 0 ∨ a / 2 ^ 31 = 1 := by omega
    rcases this with h | h <;> rw [h] <;> split <;> first | rfl | omega
  rw [e3] at e2
  unfold tn
  split <;> rename_i h' <;> simp only [h', if_true, if_false] at e2 <;> omega
theorem b_or (a : Nat) (h : a < 2147483648) : bits .or .u32 (a : Int) 2147483648 = ((a + 2147483648 : Nat) : Int) := by
  have := u32_or_nat a 2147483648 (by omega) (by omega)
  rw [show a ||| 2147483648 = a + 2147483648 from ?_] at this
  · exact this
  rw [Nat.or_comm, nat_join 31 2147483648 a (by decide) (by omega)]; omega

theorem number_any (a : Nat) (w : World) :
    Calls Try.prog 51 #[.int .u32 a] w fun e w' => e = .returned (.float .f32 a) ∧ w' = w := by
  go_enter Try.func51, Try.ntmps51
  go_wp2
  go_ret
  exact ⟨rfl, rfl⟩
/-- is it a number? -/
def ok (x : Nat) : Bool := decide (x % 2147483648 ≤ 2139095040)
theorem read_single (x : Nat) : Ieee.single.read x = if x % 2147483648 < 8388608 then .number (x / 2147483648 % 2 == 1) (x % 2147483648) (-149)
    else if x % 2147483648 < 2139095040 then .number (x / 2147483648 % 2 == 1) (8388608 + x % 2147483648 % 8388608) (-149 + (x % 2147483648 / 8388608 - 1 : Nat))
    else if x % 2147483648 = 2139095040 then .infinity (x / 2147483648 % 2 == 1) else .nan (x / 2147483648 % 2 == 1) (x % 2147483648 - 2139095040) := rfl
theorem order_refl (d : Ieee.Datum) : d.order d = if d.isNaN then none else some .eq := by
  cases d <;> simp [Ieee.Datum.order, Ieee.Datum.isNaN, compare, compareOfLessAndEq]
theorem nan_single (x : Nat) : (Ieee.single.read x).isNaN = !ok x := by
  rw [read_single]; unfold ok
  split
  · rw [decide_eq_true (by omega)]; rfl
  · split
    · rw [decide_eq_true (by omega)]; rfl
    · split
      · rw [decide_eq_true (by omega)]; rfl
      · rw [decide_eq_false (by omega)]; rfl
theorem order_self (x : Nat) : Ieee.single.order x x = if ok x then some .eq else none := by
  show (Ieee.single.read x).order (Ieee.single.read x) = _
  rw [order_refl, nan_single]; cases ok x <;> rfl
/-- the word of a float -/
def wd (x : Nat) : Nat := if ok x then x else 2143289344
theorem sword_any (x : Nat) (w : World) :
    Calls Try.prog 52 #[.float .f32 x] w fun e w' => e = .returned (.int .u32 (wd x)) ∧ w' = w := by
  have ho := order_self x
  by_cases h : ok x = true
  · rw [if_pos h] at ho
    have hb : (FloatKind.f32.format.order x x != some .eq) = false := by show (Ieee.single.order x x != some .eq) = false; rw [ho]; rfl
    have hw : wd x = x := by simp [wd, h]
    rw [hw]
    clear hw ho
    go_enter Try.func52, Try.ntmps52
    go_wp2
    go_ret
    exact ⟨rfl, rfl⟩
  · rw [if_neg h] at ho
    have hb : (FloatKind.f32.format.order x x != some .eq) = true := by show (Ieee.single.order x x != some .eq) = true; rw [ho]; rfl
    have hw : wd x = 2143289344 := by simp [wd, h]
    rw [hw]
    clear hw ho
    go_enter Try.func52, Try.ntmps52
    go_wp2
    go_ret
    exact ⟨rfl, rfl⟩

theorem turned_any (a : Nat) (w : World) (h : a < 4294967296) :
    Calls Try.prog 42 #[.int .u32 a] w fun e w' => e = .returned (.int .u32 (tn a)) ∧ w' = w := by
  have hb := b_xor a h
  go_enter Try.func42, Try.ntmps42
  go_wp2
  go_ret
  exact ⟨rfl, rfl⟩

/-- a word, of no number the one NaN -/
def on (a : Nat) : Nat := if ok a then a else 2143289344
def nanOf (k : FloatKind) (x y : Nat) (w : World) : Nat := Question.cut (.nanBits k x y) (w.tape w.drawn (.nanBits k x y))
theorem run_float_none {P : Program} (op : BinOp) (t : TypeId) (k : FloatKind) (x y : Nat) (w : World) (ho : op = .add ∨ op = .sub ∨ op = .mul ∨ op = .quo) (h : floatBits op k x y = none) :
    (binOp op t (.float k x) (.float k y)).run P w = .ok (.float k (nanOf k x y w)) w.drew := by
  have hf : (Question.nanBits k x y).forced = false := rfl
  rcases ho with rfl | rfl | rfl | rfl <;> simp only [floatBits] at h <;> simp [binOp, Op.floatArith, h, nanOf, hf]
def nan32 (t : Nat) : Nat := (t % 2) * 2 ^ 31 + 0x7f800000 + 1 + (t / 2) % (2 ^ 23 - 1)
theorem nan32_not (t : Nat) : ok (nan32 t) = false := by
  unfold ok nan32
  apply decide_eq_false
  have : (t / 2) % (2 ^ 23 - 1) < 2 ^ 23 - 1 := Nat.mod_lt _ (by decide)
  generalize (t / 2) % (2 ^ 23 - 1) = u at this
  have : t % 2 = 0 ∨ t % 2 = 1 := by omega
  rcases this with h | h <;> rw [h] <;> omega
theorem nanOf_wd (x y : Nat) (w : World) : wd (nanOf .f32 x y w) = 2143289344 := by
  have : ok (nanOf .f32 x y w) = false := nan32_not _
  simp [wd, this]
end Go.Proofs.Ytibjjlogdepgjaa
