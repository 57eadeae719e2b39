import Derived.Test.YthaipahaaajgoaaRows
import Derived.WalkKit
import Derived.WalkLawsBesides
import Derived.Laws.BitsAllLaws
import Derived.Laws.Externs
import Derived.Deep.QuietTactic
import Derived.BigQuiet
import Derived.WalkSmall
namespace Go.Proofs.Ythaipahaaajgoaa
open Go.RowKit

@[go_sem] theorem call_from32 (n : Int) (w : World) : (callFunc 27 #[.int .u32 n]).run Try.prog w = .ok (.value (.float .f32 n.toNat)) w := by
  rw [run_callFunc_extern (e := Extern.MathFloatBits.float32frombits) Try.func27 (by kernel_rfl) (by kernel_rfl) (by kernel_rfl) (by kernel_rfl)]
  rfl
@[go_sem] theorem call_bits32 (n : Nat) (w : World) : (callFunc 26 #[.float .f32 n]).run Try.prog w = .ok (.value (.int .u32 n)) w := by
  rw [run_callFunc_extern (e := Extern.MathFloatBits.float32bits) Try.func26 (by kernel_rfl) (by kernel_rfl) (by kernel_rfl) (by kernel_rfl)]
  rfl

/-! words: the bits -/
theorem b_and (a : Nat) (h : a < 4294967296) : bits .and .u32 (a : Int) 2147483647 = ((a % 2147483648 : Nat) : Int) := by
  have := u32_and_nat a 2147483647 h (by omega)
  rw [show a &&& 2147483647 = a % 2147483648 from Nat.and_two_pow_sub_one_eq_mod a 31] at this
  exact this
theorem b_andNot (a : Nat) (h : a < 4294967296) : bits .andNot .u32 (a : Int) 2147483648 = ((a % 2147483648 : Nat) : Int) := by
  have := u32_andNot_nat a 2147483648 h (by omega)
  rw [show a &&& (4294967295 - 2147483648) = a % 2147483648 from Nat.and_two_pow_sub_one_eq_mod a 31] at this
  exact this
theorem b_andNot' (a : Nat) (h : a < 4294967296) : bits .andNot .u32 (a : Int) 2147483647 = ((a / 2147483648 * 2147483648 : Nat) : Int) := by
  have := u32_andNot_nat a 2147483647 h (by omega)
  rw [show a &&& (4294967295 - 2147483647) = a / 2147483648 % 2 * 2147483648 from nat_bit 31 a, show a / 2147483648 % 2 = a / 2147483648 by omega] at this
  exact this
theorem b_sign (a : Nat) (h : a < 4294967296) : bits .and .u32 (a : Int) 2147483648 = ((a / 2147483648 * 2147483648 : Nat) : Int) := by
  have := u32_and_nat a 2147483648 h (by omega)
  rw [show a &&& 2147483648 = a / 2147483648 % 2 * 2147483648 from nat_bit 31 a, show a / 2147483648 % 2 = a / 2147483648 by omega] at this
  exact this
/-- a word with its sign turned -/
def tn (a : Nat) : Nat := if a < 2147483648 then a + 2147483648 else a - 2147483648
theorem tn_lt {a : Nat} (h : a < 4294967296) : tn a < 4294967296 := by unfold tn; split <;> omega
theorem b_xor (a : Nat) (h : a < 4294967296) : bits .xor .u32 (a : Int) 2147483648 = ((tn a : Nat) : Int) := by
  have := u32_xor_nat a 2147483648 h (by omega)
  rw [show a ^^^ 2147483648 = tn a from ?_] at this
  · exact this
  have e1 : (a ^^^ 2147483648) % 2 ^ 31 = a % 2 ^ 31 := by
    rw [show 2147483648 = 2 ^ 31 by decide, Nat.xor_mod_two_pow]; simp
  have e2 : (a ^^^ 2147483648) / 2 ^ 31 = (a / 2 ^ 31) ^^^ 1 := by
    rw [show 2147483648 = 2 ^ 31 by decide, ← Nat.shiftRight_eq_div_pow, ← Nat.shiftRight_eq_div_pow, Nat.shiftRight_xor_distrib]; rfl
  have e3 : (a / 2 ^ 31) ^^^ 1 = if a < 2147483648 then 1 else 0 := by
    have : a / 2 ^ 31 = 0 ∨ a / 2 ^ 31 = 1 := by omega
    rcases this with h | h <;> rw [h] <;> split <;> first | rfl | omega
  rw [e3] at e2
  unfold tn
  split <;> rename_i h' <;> simp only [h', if_true, if_false] at e2 <;> omega
theorem b_or (a : Nat) (h : a < 2147483648) : bits .or .u32 (a : Int) 2147483648 = ((a + 2147483648 : Nat) : Int) := by
  have := u32_or_nat a 2147483648 (by omega) (by omega)
  rw [show a ||| 2147483648 = a + 2147483648 from ?_] at this
  · exact this
  rw [Nat.or_comm, nat_join 31 2147483648 a (by decide) (by omega)]; omega

theorem number_any (a : Nat) (w : World) :
    Calls Try.prog 20 #[.int .u32 a] w fun e w' => e = .returned (.float .f32 a) ∧ w' = w := by
  go_enter Try.func20, Try.ntmps20
  go_wp2
  go_ret
  exact ⟨rfl, rfl⟩
/-- is it a number? -/
def ok (x : Nat) : Bool := decide (x % 2147483648 ≤ 2139095040)
theorem read_single (x : Nat) : Ieee.single.read x = if x % 2147483648 < 8388608 then .number (x / 2147483648 % 2 == 1) (x % 2147483648) (-149)
    else if x % 2147483648 < 2139095040 then .number (x / 2147483648 % 2 == 1) (8388608 + x % 2147483648 % 8388608) (-149 + (x % 2147483648 / 8388608 - 1 : Nat))
    else if x % 2147483648 = 2139095040 then .infinity (x / 2147483648 % 2 == 1) else .nan (x / 2147483648 % 2 == 1) (x % 2147483648 - 2139095040) := rfl
theorem order_refl (d : Ieee.Datum) : d.order d = if d.isNaN then none else some .eq := by
  cases d <;> simp [Ieee.Datum.order, Ieee.Datum.isNaN, compare, compareOfLessAndEq]
theorem nan_single (x : Nat) : (Ieee.single.read x).isNaN = !ok x := by
  rw [read_single]; unfold ok
  split
  · rw [decide_eq_true (by omega)]; rfl
  · split
    · rw [decide_eq_true (by omega)]; rfl
    · split
      · rw [decide_eq_true (by omega)]; rfl
      · rw [decide_eq_false (by omega)]; rfl
theorem order_self (x : Nat) : Ieee.single.order x x = if ok x then some .eq else none := by
  show (Ieee.single.read x).order (Ieee.single.read x) = _
  rw [order_refl, nan_single]; cases ok x <;> rfl
/-- the word of a float -/
def wd (x : Nat) : Nat := if ok x then x else 2143289344
theorem word_any (x : Nat) (w : World) :
    Calls Try.prog 19 #[.float .f32 x] w fun e w' => e = .returned (.int .u32 (wd x)) ∧ w' = w := by
  have ho := order_self x
  by_cases h : ok x = true
  · rw [if_pos h] at ho
    have hb : (FloatKind.f32.format.order x x != some .eq) = false := by show (Ieee.single.order x x != some .eq) = false; rw [ho]; rfl
    have hw : wd x = x := by simp [wd, h]
    rw [hw]
    clear hw ho
    go_enter Try.func19, Try.ntmps19
    go_wp2
    go_ret
    exact ⟨rfl, rfl⟩
  · rw [if_neg h] at ho
    have hb : (FloatKind.f32.format.order x x != some .eq) = true := by show (Ieee.single.order x x != some .eq) = true; rw [ho]; rfl
    have hw : wd x = 2143289344 := by simp [wd, h]
    rw [hw]
    clear hw ho
    go_enter Try.func19, Try.ntmps19
    go_wp2
    go_ret
    exact ⟨rfl, rfl⟩

theorem turned_any (a : Nat) (w : World) (h : a < 4294967296) :
    Calls Try.prog 21 #[.int .u32 a] w fun e w' => e = .returned (.int .u32 (tn a)) ∧ w' = w := by
  have hb := b_xor a h
  go_enter Try.func21, Try.ntmps21
  go_wp2
  go_ret
  exact ⟨rfl, rfl⟩

/-- a word, of no number the one NaN -/
def on (a : Nat) : Nat := if ok a then a else 2143289344
def nanOf (k : FloatKind) (x y : Nat) (w : World) : Nat := Question.cut (.nanBits k x y) (w.tape w.drawn (.nanBits k x y))
theorem run_float_none {P : Program} (op : BinOp) (t : TypeId) (k : FloatKind) (x y : Nat) (w : World) (ho : op = .add ∨ op = .sub ∨ op = .mul ∨ op = .quo) (h : floatBits op k x y = none) :
    (binOp op t (.float k x) (.float k y)).run P w = .ok (.float k (nanOf k x y w)) w.drew := by
  have hf : (Question.nanBits k x y).forced = false := rfl
  rcases ho with rfl | rfl | rfl | rfl <;> simp only [floatBits] at h <;> simp [binOp, Op.floatArith, h, nanOf, hf]
def nan32 (t : Nat) : Nat := (t % 2) * 2 ^ 31 + 0x7f800000 + 1 + (t / 2) % (2 ^ 23 - 1)
theorem nan32_not (t : Nat) : ok (nan32 t) = false := by
  unfold ok nan32
  apply decide_eq_false
  have : (t / 2) % (2 ^ 23 - 1) < 2 ^ 23 - 1 := Nat.mod_lt _ (by decide)
  generalize (t / 2) % (2 ^ 23 - 1) = u at this
  have : t % 2 = 0 ∨ t % 2 = 1 := by omega
  rcases this with h | h <;> rw [h] <;> omega
theorem nanOf_wd (x y : Nat) (w : World) : wd (nanOf .f32 x y w) = 2143289344 := by
  have : ok (nanOf .f32 x y w) = false := nan32_not _
  simp [wd, this]
end Go.Proofs.Ythaipahaaajgoaa
namespace Go.Proofs.Ythaipahaaajgoaa
open Go.RowKit

theorem word_ok (neg : Bool) (r : Nat) (h : r ≤ 2139095040) : ok (Ieee.single.word neg r) = true := by
  unfold ok Ieee.Format.word
  have e1 : Ieee.single.signWeight = 2147483648 := rfl
  rw [e1]
  apply decide_eq_true
  split <;> omega
theorem write_ok (d : Ieee.Datum) (h : d.isNaN = false) : ok (Ieee.single.write d) = true := by
  have e3 : Ieee.single.infRung = 2139095040 := rfl
  cases d with
  | number neg mag place =>
    show ok (Ieee.single.nearest neg mag place) = true
    unfold Ieee.Format.nearest
    split
    · exact word_ok _ _ (by omega)
    · exact word_ok _ _ (Nat.le_trans (Nat.min_le_right _ _) (Nat.le_of_eq e3))
  | infinity neg => exact word_ok _ _ (Nat.le_of_eq e3)
  | nan neg fr => simp [Ieee.Datum.isNaN] at h
theorem sum_not_nan {d e r : Ieee.Datum} (h : d.sum e = some r) : r.isNaN = false := by
  unfold Ieee.Datum.sum at h
  split at h <;> first | (cases h; done) | (split at h <;> first | (cases h; done) | (cases h; rfl)) | (cases h; rfl)
theorem product_not_nan {d e r : Ieee.Datum} (h : d.product e = some r) : r.isNaN = false := by
  unfold Ieee.Datum.product at h
  split at h <;> first | (cases h; done) | (split at h <;> first | (cases h; done) | (cases h; rfl)) | (cases h; rfl)
theorem quotient_not_nan {n : Nat} {d e r : Ieee.Datum} (h : d.quotient n e = some r) : r.isNaN = false := by
  unfold Ieee.Datum.quotient at h
  split at h <;> first | (cases h; done) | (split at h <;> first | (cases h; done) | (split at h <;> first | (cases h; done) | (cases h; rfl)) | (cases h; rfl)) | (cases h; rfl)
theorem add_ok {a b r : Nat} (h : Ieee.single.add a b = some r) : ok r = true := by
  unfold Ieee.Format.add at h
  cases e : (Ieee.single.read a).sum (Ieee.single.read b) with
  | none => rw [e] at h; cases h
  | some d => rw [e] at h; cases h; exact write_ok _ (sum_not_nan e)
theorem mul_ok {a b r : Nat} (h : Ieee.single.mul a b = some r) : ok r = true := by
  unfold Ieee.Format.mul at h
  cases e : (Ieee.single.read a).product (Ieee.single.read b) with
  | none => rw [e] at h; cases h
  | some d => rw [e] at h; cases h; exact write_ok _ (product_not_nan e)
theorem div_ok {a b r : Nat} (h : Ieee.single.div a b = some r) : ok r = true := by
  unfold Ieee.Format.div at h
  cases e : (Ieee.single.read a).quotient (Ieee.single.fractionBits + 2) (Ieee.single.read b) with
  | none => rw [e] at h; cases h
  | some d => rw [e] at h; cases h; exact write_ok _ (quotient_not_nan e)

def fsum (a b : Nat) : Nat := (Ieee.single.add a b).getD 2143289344
def fmul (a b : Nat) : Nat := (Ieee.single.mul a b).getD 2143289344
def fdiv (a b : Nat) : Nat := (Ieee.single.div a b).getD 2143289344

theorem sum_any (a b : Nat) (w : World) :
    Calls Try.prog 8 #[.int .u32 a, .int .u32 b] w fun e w' => e = .returned (.int .u32 (fsum a b)) ∧ ∃ m, w' = w.drewN m := by
  cases h : Ieee.single.add a b with
  | some r =>
    have e1 : fsum a b = r := by simp [fsum, h]
    have hl := fun (w : World) => run_float_arith (P := Try.prog) w .add 35 .f32 a b r h
    have e2 : wd r = r := by simp [wd, add_ok h]
    rw [e1]
    clear e1
    go_enter Try.func8, Try.ntmps8
    go_wp2_with (first
      | (go_at_call 20; refine (number_any _ _).mono ?_; rintro e wq ⟨rfl, hq⟩; subst wq)
      | (go_at_call 19; refine (word_any _ _).mono ?_; rintro e wq ⟨rfl, hq⟩; subst wq))
    go_ret
    exact ⟨by rw [← e2]; rfl, 0, rfl⟩
  | none =>
    have e1 : fsum a b = 2143289344 := by simp [fsum, h]
    have hl := fun (w : World) => run_float_none (P := Try.prog) .add 35 .f32 a b w (Or.inl rfl) h
    have e2 := nanOf_wd a b w
    rw [e1]
    clear e1
    go_enter Try.func8, Try.ntmps8
    go_wp2_with (first
      | (go_at_call 20; refine (number_any _ _).mono ?_; rintro e wq ⟨rfl, hq⟩; subst wq)
      | (go_at_call 19; refine (word_any _ _).mono ?_; rintro e wq ⟨rfl, hq⟩; subst wq))
    go_ret
    exact ⟨rfl, 1, rfl⟩
theorem prod_any (a b : Nat) (w : World) :
    Calls Try.prog 10 #[.int .u32 a, .int .u32 b] w fun e w' => e = .returned (.int .u32 (fmul a b)) ∧ ∃ m, w' = w.drewN m := by
  cases h : Ieee.single.mul a b with
  | some r =>
    have e1 : fmul a b = r := by simp [fmul, h]
    have hl := fun (w : World) => run_float_arith (P := Try.prog) w .mul 35 .f32 a b r h
    have e2 : wd r = r := by simp [wd, mul_ok h]
    rw [e1]
    clear e1
    go_enter Try.func10, Try.ntmps10
    go_wp2_with (first
      | (go_at_call 20; refine (number_any _ _).mono ?_; rintro e wq ⟨rfl, hq⟩; subst wq)
      | (go_at_call 19; refine (word_any _ _).mono ?_; rintro e wq ⟨rfl, hq⟩; subst wq))
    go_ret
    exact ⟨by rw [← e2]; rfl, 0, rfl⟩
  | none =>
    have e1 : fmul a b = 2143289344 := by simp [fmul, h]
    have hl := fun (w : World) => run_float_none (P := Try.prog) .mul 35 .f32 a b w (Or.inr (Or.inr (Or.inl rfl))) h
    have e2 := nanOf_wd a b w
    rw [e1]
    clear e1
    go_enter Try.func10, Try.ntmps10
    go_wp2_with (first
      | (go_at_call 20; refine (number_any _ _).mono ?_; rintro e wq ⟨rfl, hq⟩; subst wq)
      | (go_at_call 19; refine (word_any _ _).mono ?_; rintro e wq ⟨rfl, hq⟩; subst wq))
    go_ret
    exact ⟨rfl, 1, rfl⟩
theorem ratio_any (a b : Nat) (w : World) :
    Calls Try.prog 11 #[.int .u32 a, .int .u32 b] w fun e w' => e = .returned (.int .u32 (fdiv a b)) ∧ ∃ m, w' = w.drewN m := by
  cases h : Ieee.single.div a b with
  | some r =>
    have e1 : fdiv a b = r := by simp [fdiv, h]
    have hl := fun (w : World) => run_float_arith (P := Try.prog) w .quo 35 .f32 a b r h
    have e2 : wd r = r := by simp [wd, div_ok h]
    rw [e1]
    clear e1
    go_enter Try.func11, Try.ntmps11
    go_wp2_with (first
      | (go_at_call 20; refine (number_any _ _).mono ?_; rintro e wq ⟨rfl, hq⟩; subst wq)
      | (go_at_call 19; refine (word_any _ _).mono ?_; rintro e wq ⟨rfl, hq⟩; subst wq))
    go_ret
    exact ⟨by rw [← e2]; rfl, 0, rfl⟩
  | none =>
    have e1 : fdiv a b = 2143289344 := by simp [fdiv, h]
    have hl := fun (w : World) => run_float_none (P := Try.prog) .quo 35 .f32 a b w (Or.inr (Or.inr (Or.inr rfl))) h
    have e2 := nanOf_wd a b w
    rw [e1]
    clear e1
    go_enter Try.func11, Try.ntmps11
    go_wp2_with (first
      | (go_at_call 20; refine (number_any _ _).mono ?_; rintro e wq ⟨rfl, hq⟩; subst wq)
      | (go_at_call 19; refine (word_any _ _).mono ?_; rintro e wq ⟨rfl, hq⟩; subst wq))
    go_ret
    exact ⟨rfl, 1, rfl⟩
end Go.Proofs.Ythaipahaaajgoaa
namespace Go.Proofs.Ythaipahaaajgoaa
open Go.RowKit

def fstand (a b : Nat) : Nat := match Ieee.single.order a b with
  | some .lt => 2
  | some .eq => 3
  | some .gt => 4
  | none => 1
/-- the next above -/
def fab (a : Nat) : Nat := if ok a = false then 2143289344 else if a % 2147483648 = 0 then 1 else if a = 2139095040 then 2139095040 else if 2147483648 ≤ a then a - 1 else a + 1
theorem fab_lt {a : Nat} (h : a < 4294967296) : fab a < 4294967296 := by
  unfold fab; split
  · omega
  · split
    · omega
    · split
      · omega
      · split <;> omega
def fbe (a : Nat) : Nat := if ok a = false then 2143289344 else tn (fab (tn a))
end Go.Proofs.Ythaipahaaajgoaa
namespace Go.Proofs.Ythaipahaaajgoaa
open Go.RowKit

def nanTo (k : FloatKind) (b : Nat) (w : World) : Nat := Question.cut (.nanConv k b) (w.tape w.drawn (.nanConv k b))
theorem run_conv_nan {P : Program} (src dst : TypeId) (s k : FloatKind) (b : Nat) (w : World) (hs : (P.underlying src).isSome = true) (hd : P.underlying dst = some (.float k)) (hne : s ≠ k) (h : (s.decode b).isNaN = true) :
    (convert src dst (.float s b)).run P w = .ok (.float k (nanTo k b w)) w.drew := by
  obtain ⟨u, hs'⟩ := Option.isSome_iff_exists.1 hs
  have hf : (Question.nanConv k b).forced = false := rfl
  cases hc : s.decode b with
  | number a c d => rw [hc] at h; simp [Ieee.Datum.isNaN] at h
  | infinity a => rw [hc] at h; simp [Ieee.Datum.isNaN] at h
  | nan a c => cases u <;> simp [convert, run_underlying hs', run_underlying hd, Conv.floatToFloat, hne, hc, nanTo, hf]

theorem nanTo32 (b : Nat) (w : World) : wd (nanTo .f32 b w) = 2143289344 := by
  have : ok (nanTo .f32 b w) = false := nan32_not _
  simp [wd, this]
def nan64 (t : Nat) : Nat := (t % 2) * 2 ^ 63 + 0x7ff0000000000000 + 1 + (t / 2) % (2 ^ 52 - 1)
theorem read_double (x : Nat) : Ieee.double.read x = if x % 9223372036854775808 < 4503599627370496 then .number (x / 9223372036854775808 % 2 == 1) (x % 9223372036854775808) (-1074)
    else if x % 9223372036854775808 < 9218868437227405312 then .number (x / 9223372036854775808 % 2 == 1) (4503599627370496 + x % 9223372036854775808 % 4503599627370496) (-1074 + (x % 9223372036854775808 / 4503599627370496 - 1 : Nat))
    else if x % 9223372036854775808 = 9218868437227405312 then .infinity (x / 9223372036854775808 % 2 == 1) else .nan (x / 9223372036854775808 % 2 == 1) (x % 9223372036854775808 - 9218868437227405312) := rfl
theorem nan_double (x : Nat) (h : 9218868437227405312 < x % 9223372036854775808) : (Ieee.double.read x).isNaN = true := by
  rw [read_double, if_neg (by omega), if_neg (by omega), if_neg (by omega)]; rfl
theorem nan64_nan (t : Nat) : (Ieee.double.read (nan64 t)).isNaN = true := by
  apply nan_double
  unfold nan64
  have : (t / 2) % (2 ^ 52 - 1) < 2 ^ 52 - 1 := Nat.mod_lt _ (by decide)
  generalize (t / 2) % (2 ^ 52 - 1) = u at this
  have : t % 2 = 0 ∨ t % 2 = 1 := by omega
  rcases this with h | h <;> rw [h] <;> omega
theorem nanOf64 (x y : Nat) (w : World) : (FloatKind.f64.decode (nanOf .f64 x y w)).isNaN = true := nan64_nan _
theorem nanTo64 (b : Nat) (w : World) : (FloatKind.f64.decode (nanTo .f64 b w)).isNaN = true := nan64_nan _
theorem word_ok64 (neg : Bool) (r : Nat) (h : r ≤ 9218868437227405312) : (Ieee.double.read (Ieee.double.word neg r)).isNaN = false := by
  have e1 : Ieee.double.signWeight = 9223372036854775808 := rfl
  have e2 : Ieee.double.word neg r % 9223372036854775808 = r := by
    unfold Ieee.Format.word; rw [e1]; split <;> omega
  rw [read_double, e2]
  split
  · rfl
  · split
    · rfl
    · rw [if_pos (by omega)]; rfl
theorem write_ok64 (d : Ieee.Datum) (h : d.isNaN = false) : (Ieee.double.read (Ieee.double.write d)).isNaN = false := by
  have e3 : Ieee.double.infRung = 9218868437227405312 := rfl
  cases d with
  | number neg mag place =>
    show (Ieee.double.read (Ieee.double.nearest neg mag place)).isNaN = false
    unfold Ieee.Format.nearest
    split
    · exact word_ok64 _ _ (by omega)
    · exact word_ok64 _ _ (Nat.le_trans (Nat.min_le_right _ _) (Nat.le_of_eq e3))
  | infinity neg => exact word_ok64 _ _ (Nat.le_of_eq e3)
  | nan neg fr => simp [Ieee.Datum.isNaN] at h
theorem sqrt_nan (x : Nat) (h : (Ieee.double.read x).isNaN = true) : Ieee.double.sqrt x = none := by
  unfold Ieee.Format.sqrt
  cases e : Ieee.double.read x with
  | number a b c => rw [e] at h; simp [Ieee.Datum.isNaN] at h
  | infinity a => rw [e] at h; simp [Ieee.Datum.isNaN] at h
  | nan a b => rfl

/-- a word made wide -/
def wide (a : Nat) : Nat := Ieee.double.write (Ieee.single.read a)
/-- 64 bits made narrow -/
def narrow (b : Nat) : Nat := Ieee.single.write (Ieee.double.read b)
/-- what is too great is told apart -/
def wfine (a : Nat) : Bool := match Ieee.single.read a with
  | .number .. => !(Ieee.double.read (wide a)).isInfinity
  | _ => true
def nfine (b : Nat) : Bool := match Ieee.double.read b with
  | .number .. => !(Ieee.single.read (narrow b)).isInfinity
  | _ => true
theorem wide_bits (a : Nat) (ho : ok a = true) (hf : wfine a = true) : floatToFloatBits .f32 a .f64 = some (wide a) := by
  have hn := nan_single a
  unfold floatToFloatBits
  rw [if_neg (by decide)]
  unfold wfine at hf
  unfold wide at hf ⊢
  show (match Ieee.single.read a with | .nan _ _ => none | .infinity s => some (Ieee.double.write (.infinity s)) | .number s m e => if (Ieee.double.read (Ieee.double.write (.number s m e))).isInfinity then none else some (Ieee.double.write (.number s m e))) = _
  cases e : Ieee.single.read a with
  | number s m p => rw [e] at hf; simp only [Bool.not_eq_true'] at hf; simp [hf]
  | infinity s => rfl
  | nan s f => rw [e, ho] at hn; simp [Ieee.Datum.isNaN] at hn
theorem narrow_bits (b : Nat) (ho : (Ieee.double.read b).isNaN = false) (hf : nfine b = true) : floatToFloatBits .f64 b .f32 = some (narrow b) := by
  unfold floatToFloatBits
  rw [if_neg (by decide)]
  unfold nfine at hf
  unfold narrow at hf ⊢
  show (match Ieee.double.read b with | .nan _ _ => none | .infinity s => some (Ieee.single.write (.infinity s)) | .number s m e => if (Ieee.single.read (Ieee.single.write (.number s m e))).isInfinity then none else some (Ieee.single.write (.number s m e))) = _
  cases e : Ieee.double.read b with
  | number s m p => rw [e] at hf; simp only [Bool.not_eq_true'] at hf; simp [hf]
  | infinity s => rfl
  | nan s f => rw [e] at ho; simp [Ieee.Datum.isNaN] at ho

/-- the root -/
def froot (a : Nat) : Nat := if ok a = true then (match Ieee.double.sqrt (wide a) with | none => 2143289344 | some r => narrow r) else 2143289344
def rfine (a : Nat) : Bool := wfine a && (match Ieee.double.sqrt (wide a) with | none => true | some r => nfine r)
theorem root_not_nan {n : Nat} {d r : Ieee.Datum} (h : d.root n = some r) : r.isNaN = false := by
  unfold Ieee.Datum.root at h
  split at h
  · cases h
  · split at h
    · cases h
    · cases h; rfl
  · split at h
    · cases h; rfl
    · split at h
      · cases h
      · cases h; rfl
end Go.Proofs.Ythaipahaaajgoaa
namespace Go.Proofs.Ythaipahaaajgoaa
open Go.RowKit

/-- a whole number as a word -/
def fof (n : Int) : Nat := Ieee.single.write (.number (n < 0) n.natAbs 0)
end Go.Proofs.Ythaipahaaajgoaa
namespace Go.Proofs.Ythaipahaaajgoaa
open Go.RowKit

theorem cut_le (neg : Bool) (n drop : Nat) : Ieee.Toward.even.cut neg n drop ≤ n / 2 ^ drop + 1 := by
  unfold Ieee.Toward.cut
  dsimp only
  have hb : ∀ b : Bool, b.toNat ≤ 1 := by intro b; cases b <;> decide
  refine Nat.add_le_add ?_ (hb _)
  rw [Nat.shiftLeft_eq, Nat.one_mul]
  by_cases h : drop ≤ n.log2 + 2
  · rw [Nat.min_eq_left h]; exact Nat.le_refl _
  · rw [Nat.min_eq_right (by omega)]
    have : n < 2 ^ (n.log2 + 2) := Nat.lt_of_lt_of_le Nat.lt_log2_self (Nat.pow_le_pow_right (by decide) (by omega))
    rw [Nat.div_eq_of_lt this]; exact Nat.zero_le _
theorem nearest_le (f : Ieee.Format) (neg : Bool) (mag : Nat) (place : Int) (K : Nat) (h : place + mag.log2 - f.fractionBits - f.leastPlace ≤ K) :
    ∃ rung, f.nearest neg mag place = f.word neg (min rung f.infRung) ∧ rung ≤ (K + 2) * f.binade := by
  unfold Ieee.Format.nearest
  by_cases hm : mag = 0
  · exact ⟨0, by simp [hm], Nat.zero_le _⟩
  rw [if_neg hm]
  refine ⟨_, rfl, ?_⟩
  generalize hl : max (place + mag.log2 - f.fractionBits) f.leastPlace = last
  have hlt : mag < 2 ^ (mag.log2 + 1) := Nat.lt_log2_self
  generalize mag.log2 = L at h hl hlt
  have h1 : (last - f.leastPlace).toNat ≤ K := by omega
  have h2 : Ieee.Toward.even.cut neg (mag <<< (place - last).toNat) (last - place).toNat ≤ 2 * f.binade := by
    refine Nat.le_trans (cut_le _ _ _) ?_
    refine Nat.succ_le_of_lt ?_
    rw [Nat.shiftLeft_eq]
    have hbin : 2 * f.binade = 2 ^ (f.fractionBits + 1) := by unfold Ieee.Format.binade; rw [Nat.pow_succ, Nat.mul_comm]
    rw [hbin]
    rw [Nat.div_lt_iff_lt_mul (Nat.two_pow_pos _), ← Nat.pow_add]
    refine Nat.lt_of_lt_of_le (Nat.mul_lt_mul_of_pos_right hlt (Nat.two_pow_pos _)) ?_
    rw [← Nat.pow_add]
    exact Nat.pow_le_pow_right (by decide) (by omega)
  calc _ ≤ K * f.binade + 2 * f.binade := Nat.add_le_add (Nat.mul_le_mul_right _ h1) h2
    _ = (K + 2) * f.binade := by rw [Nat.add_mul]

theorem word_mod (neg : Bool) (r : Nat) (h : r < 2147483648) : Ieee.single.word neg r % 2147483648 = r := by
  unfold Ieee.Format.word
  have e1 : Ieee.single.signWeight = 2147483648 := rfl
  rw [e1]; split <;> omega
theorem word_mod64 (neg : Bool) (r : Nat) (h : r < 9223372036854775808) : Ieee.double.word neg r % 9223372036854775808 = r := by
  unfold Ieee.Format.word
  have e1 : Ieee.double.signWeight = 9223372036854775808 := rfl
  rw [e1]; split <;> omega
theorem inf_single (x : Nat) (h : x % 2147483648 < 2139095040) : (Ieee.single.read x).isInfinity = false := by
  rw [read_single]; split
  · rfl
  · rfl
theorem inf_double (x : Nat) (h : x % 9223372036854775808 < 9218868437227405312) : (Ieee.double.read x).isInfinity = false := by
  rw [read_double]; split
  · rfl
  · rfl
theorem log_lt {n k : Nat} (hk : 0 < k) (h : n < 2 ^ k) : n.log2 < k := by
  by_cases h0 : n = 0
  · subst h0; simpa using hk
  · exact (Nat.log2_lt h0).2 h
theorem read_single_log {x : Nat} {s : Bool} {m : Nat} {p : Int} (h : Ieee.single.read x = .number s m p) (K : Nat) (hx : x % 2147483648 ≤ (K + 2) * 8388608) : m < 16777216 ∧ p + m.log2 ≤ K - 125 ∧ -149 ≤ p := by
  rw [read_single] at h
  split at h
  · cases h
    have := log_lt (n := x % 2147483648) (k := 23) (by decide) (by omega)
    omega
  · split at h
    · cases h
      have := log_lt (n := 8388608 + x % 2147483648 % 8388608) (k := 24) (by decide) (by omega)
      omega
    · split at h <;> cases h
theorem read_double_log {x : Nat} {s : Bool} {m : Nat} {p : Int} (h : Ieee.double.read x = .number s m p) (K : Nat) (hx : x % 9223372036854775808 ≤ (K + 2) * 4503599627370496) : m < 9007199254740992 ∧ p + m.log2 ≤ K - 1021 ∧ -1074 ≤ p := by
  rw [read_double] at h
  split at h
  · cases h
    have := log_lt (n := x % 9223372036854775808) (k := 52) (by decide) (by omega)
    omega
  · split at h
    · cases h
      have := log_lt (n := 4503599627370496 + x % 9223372036854775808 % 4503599627370496) (k := 53) (by decide) (by omega)
      omega
    · split at h <;> cases h

theorem double_small (neg : Bool) (mag : Nat) (place : Int) (K : Nat) (hK : K ≤ 2000) (h : place + mag.log2 ≤ K - 1022) :
    (Ieee.double.write (.number neg mag place)) % 9223372036854775808 ≤ (K + 2) * 4503599627370496 ∧ (Ieee.double.read (Ieee.double.write (.number neg mag place))).isInfinity = false := by
  obtain ⟨rung, h1, h2⟩ := nearest_le Ieee.double neg mag place K (by
    have e1 : Ieee.double.leastPlace = -1074 := rfl
    have e2 : (Ieee.double.fractionBits : Int) = 52 := rfl
    rw [e1, e2]; omega)
  have e3 : Ieee.double.infRung = 9218868437227405312 := rfl
  have e4 : Ieee.double.binade = 4503599627370496 := rfl
  rw [e4] at h2
  rw [e3] at h1
  have hlt : rung < 9218868437227405312 := by omega
  rw [Nat.min_eq_left (Nat.le_of_lt hlt)] at h1
  have e5 : Ieee.double.write (.number neg mag place) = Ieee.double.word neg rung := h1
  have e6 := word_mod64 neg rung (by omega)
  rw [e5]
  exact ⟨by rw [e6]; exact h2, inf_double _ (by rw [e6]; exact hlt)⟩
theorem single_small (neg : Bool) (mag : Nat) (place : Int) (K : Nat) (hK : K ≤ 250) (h : place + mag.log2 ≤ K - 126) :
    (Ieee.single.write (.number neg mag place)) % 2147483648 ≤ (K + 2) * 8388608 ∧ (Ieee.single.read (Ieee.single.write (.number neg mag place))).isInfinity = false := by
  obtain ⟨rung, h1, h2⟩ := nearest_le Ieee.single neg mag place K (by
    have e1 : Ieee.single.leastPlace = -149 := rfl
    have e2 : (Ieee.single.fractionBits : Int) = 23 := rfl
    rw [e1, e2]; omega)
  have e3 : Ieee.single.infRung = 2139095040 := rfl
  have e4 : Ieee.single.binade = 8388608 := rfl
  rw [e4] at h2
  rw [e3] at h1
  have hlt : rung < 2139095040 := by omega
  rw [Nat.min_eq_left (Nat.le_of_lt hlt)] at h1
  have e5 : Ieee.single.write (.number neg mag place) = Ieee.single.word neg rung := h1
  have e6 := word_mod neg rung (by omega)
  rw [e5]
  exact ⟨by rw [e6]; exact h2, inf_single _ (by rw [e6]; exact hlt)⟩

theorem wfine_all (a : Nat) : wfine a = true := by
  unfold wfine wide
  cases e : Ieee.single.read a with
  | infinity s => rfl
  | nan s f => rfl
  | number s m p =>
    have h := read_single_log e 254 (by have := Nat.mod_lt a (show 2147483648 > 0 by decide); omega)
    have := (double_small s m p 1152 (by omega) (by omega)).2
    simp [this]
theorem rootFrom_le (n : Nat) : ∀ todo root : Nat, root * root ≤ n → Ieee.Datum.rootFrom n todo root * Ieee.Datum.rootFrom n todo root ≤ n := by
  intro todo
  induction todo with
  | zero => intro root h; exact h
  | succ k ih =>
    intro root h
    unfold Ieee.Datum.rootFrom
    dsimp only
    apply ih
    split
    · assumption
    · exact h
theorem root_log {d : Nat} {m : Nat} {i : Int} {s t : Bool} {M : Nat} {P : Int} (h : (Ieee.Datum.number s m i).root d = some (.number t M P)) (hm : m ≠ 0) : 2 * (P + M.log2) ≤ i + m.log2 + 2 := by
  simp only [Ieee.Datum.root, if_neg hm] at h
  split at h
  · cases h
  · generalize hmo : 2 * d - m.log2 + ((i - (2 * d - m.log2 : Nat)) % 2).toNat = more at h
    simp only [Option.some.injEq, Ieee.Datum.number.injEq] at h
    obtain ⟨-, hM, hP⟩ := h
    generalize hw : Ieee.Datum.rootFrom (m <<< more) ((m <<< more).log2 / 2 + 1) 0 = whole at hM
    have hsq : whole * whole ≤ m <<< more := by rw [← hw]; exact rootFrom_le _ _ _ (by simp)
    rw [Nat.shiftLeft_eq] at hsq hM
    have hlt : m < 2 ^ (m.log2 + 1) := Nat.lt_log2_self
    have hn : whole * whole < 2 ^ (m.log2 + 1 + more) := by
      refine Nat.lt_of_le_of_lt hsq ?_
      rw [Nat.pow_add]
      exact Nat.mul_lt_mul_of_pos_right hlt (Nat.two_pow_pos _)
    generalize m.log2 = L at hn hmo hlt ⊢
    have hwl : whole < 2 ^ ((L + more) / 2 + 1) := by
      apply Nat.lt_of_not_le
      intro hge
      have h2 := Nat.mul_le_mul hge hge
      rw [← Nat.pow_add] at h2
      have h3 : 2 ^ (L + 1 + more) ≤ 2 ^ ((L + more) / 2 + 1 + ((L + more) / 2 + 1)) := Nat.pow_le_pow_right (by decide) (by omega)
      omega
    have hMl : M < 2 ^ ((L + more) / 2 + 2) := by
      rw [← hM, show (L + more) / 2 + 2 = (L + more) / 2 + 1 + 1 by omega, Nat.pow_succ]
      have : (whole * whole != m * 2 ^ more).toNat ≤ 1 := by cases (whole * whole != m * 2 ^ more) <;> decide
      omega
    have := log_lt (by omega) hMl
    omega
theorem rfine_all (a : Nat) : rfine a = true := by
  unfold rfine
  rw [wfine_all, Bool.true_and]
  cases hq : Ieee.double.sqrt (wide a) with
  | none => rfl
  | some r =>
    show nfine r = true
    unfold Ieee.Format.sqrt at hq
    cases er : (Ieee.double.read (wide a)).root (Ieee.double.fractionBits + 2) with
    | none => rw [er] at hq; cases hq
    | some D =>
      rw [er] at hq
      have hr : Ieee.double.write D = r := by simpa using hq
      -- what the wide number is
      have hwide : ∀ s m p, Ieee.double.read (wide a) = .number s m p → p + m.log2 ≤ 131 := by
        intro s m p e
        unfold wide at e
        cases ea : Ieee.single.read a with
        | infinity s' =>
          rw [ea] at e
          exfalso
          have : Ieee.double.read (Ieee.double.write (.infinity s')) = .infinity s' := by cases s' <;> decide +kernel
          rw [this] at e; cases e
        | nan s' f =>
          rw [ea] at e
          exfalso
          have e0 : Ieee.double.write (.nan s' f) = Ieee.double.word s' (9218868437227405312 + f % 4503599627370496) := rfl
          have hf : f % 4503599627370496 < 4503599627370496 := Nat.mod_lt _ (by decide)
          have e1 := word_mod64 s' (9218868437227405312 + f % 4503599627370496) (by omega)
          rw [e0, read_double, e1, if_neg (by omega), if_neg (by omega)] at e
          split at e <;> cases e
        | number s' m' p' =>
          rw [ea] at e
          have h := read_single_log ea 254 (by have := Nat.mod_lt a (show 2147483648 > 0 by decide); omega)
          have h1 := (double_small s' m' p' 1152 (by omega) (by omega)).1
          have := read_double_log e 1152 h1
          omega
      unfold nfine narrow
      cases eR : Ieee.double.read r with
      | infinity s => rfl
      | nan s f => rfl
      | number s m p =>
        have hsm : ∀ q : Int, q + m.log2 ≤ 90 → q = p → (!(Ieee.single.read (Ieee.single.write (.number s m p))).isInfinity) = true := by
          intro q hq' e
          subst e
          have := (single_small s m q 220 (by omega) (by omega)).2
          simp [this]
        refine hsm p ?_ rfl
        cases eW : Ieee.double.read (wide a) with
        | nan s' f => rw [eW] at er; cases er
        | infinity s' =>
          rw [eW] at er
          unfold Ieee.Datum.root at er
          dsimp only at er
          split at er
          · cases er
          · cases er
            exfalso
            rw [← hr] at eR
            have : Ieee.double.read (Ieee.double.write (.infinity s')) = .infinity s' := by cases s' <;> decide +kernel
            rw [this] at eR; cases eR
        | number s' m' i =>
          have hw := hwide s' m' i eW
          rw [eW] at er
          by_cases hm : m' = 0
          · subst hm
            have er' : some (Ieee.Datum.number s' 0 i) = some D := by rw [← er]; rfl
            cases er'
            have hz : Ieee.double.write (.number s' 0 i) = Ieee.double.word s' 0 := rfl
            rw [← hr, hz] at eR
            have h1 := word_mod64 s' 0 (by decide)
            have := read_double_log eR 0 (by rw [h1]; decide)
            omega
          · cases eD : D with
            | nan t f => rw [eD] at er; have := root_not_nan er; simp [Ieee.Datum.isNaN] at this
            | infinity t =>
              rw [eD] at er
              simp only [Ieee.Datum.root, if_neg hm] at er
              split at er <;> cases er
            | number t M P =>
              rw [eD] at er hr
              have hl := root_log er hm
              have h1 := (double_small t M P 1089 (by omega) (by omega)).1
              rw [hr] at h1
              have := read_double_log eR 1089 h1
              omega
end Go.Proofs.Ythaipahaaajgoaa
namespace Go.Proofs.Ythaipahaaajgoaa
open Go.RowKit

theorem read_nan {a : Nat} (h : ok a = false) : (Ieee.single.read a).isNaN = true := by rw [nan_single, h]; rfl
theorem sum_nan_l {d e : Ieee.Datum} (h : d.isNaN = true) : d.sum e = none := by
  cases d <;> first | (simp [Ieee.Datum.isNaN] at h; done) | rfl
theorem sum_nan_r {d e : Ieee.Datum} (h : e.isNaN = true) : d.sum e = none := by
  cases e <;> first | (simp [Ieee.Datum.isNaN] at h; done) | (cases d <;> rfl)
theorem product_nan_l {d e : Ieee.Datum} (h : d.isNaN = true) : d.product e = none := by
  cases d <;> first | (simp [Ieee.Datum.isNaN] at h; done) | rfl
theorem product_nan_r {d e : Ieee.Datum} (h : e.isNaN = true) : d.product e = none := by
  cases e <;> first | (simp [Ieee.Datum.isNaN] at h; done) | (cases d <;> rfl)
theorem quotient_nan_l {n : Nat} {d e : Ieee.Datum} (h : d.isNaN = true) : d.quotient n e = none := by
  cases d <;> first | (simp [Ieee.Datum.isNaN] at h; done) | rfl
theorem quotient_nan_r {n : Nat} {d e : Ieee.Datum} (h : e.isNaN = true) : d.quotient n e = none := by
  cases e <;> first | (simp [Ieee.Datum.isNaN] at h; done) | (cases d <;> rfl)
theorem order_nan_l {d e : Ieee.Datum} (h : d.isNaN = true) : d.order e = none := by
  cases d <;> first | (simp [Ieee.Datum.isNaN] at h; done) | rfl
theorem order_nan_r {d e : Ieee.Datum} (h : e.isNaN = true) : d.order e = none := by
  cases e <;> first | (simp [Ieee.Datum.isNaN] at h; done) | (cases d <;> rfl)
theorem fsum_nan {a b : Nat} (h : ok a = false ∨ ok b = false) : fsum a b = 2143289344 := by
  unfold fsum Ieee.Format.add
  rcases h with h | h
  · rw [sum_nan_l (read_nan h)]; rfl
  · rw [sum_nan_r (read_nan h)]; rfl
theorem fmul_nan {a b : Nat} (h : ok a = false ∨ ok b = false) : fmul a b = 2143289344 := by
  unfold fmul Ieee.Format.mul
  rcases h with h | h
  · rw [product_nan_l (read_nan h)]; rfl
  · rw [product_nan_r (read_nan h)]; rfl
theorem fdiv_nan {a b : Nat} (h : ok a = false ∨ ok b = false) : fdiv a b = 2143289344 := by
  unfold fdiv Ieee.Format.div
  rcases h with h | h
  · rw [quotient_nan_l (read_nan h)]; rfl
  · rw [quotient_nan_r (read_nan h)]; rfl
theorem fstand_nan {a b : Nat} (h : ok a = false ∨ ok b = false) : fstand a b = 1 := by
  unfold fstand Ieee.Format.order
  rcases h with h | h
  · rw [order_nan_l (read_nan h)]
  · rw [order_nan_r (read_nan h)]
theorem froot_nan {a : Nat} (h : ok a = false) : froot a = 2143289344 := by simp [froot, h]
/-- the one NaN, or a number -/
def cln (a : Nat) : Prop := a = 2143289344 ∨ ok a = true
theorem fsum_cln (a b : Nat) : cln (fsum a b) := by
  unfold fsum
  cases h : Ieee.single.add a b with
  | none => exact Or.inl rfl
  | some r => exact Or.inr (add_ok h)
theorem fmul_cln (a b : Nat) : cln (fmul a b) := by
  unfold fmul
  cases h : Ieee.single.mul a b with
  | none => exact Or.inl rfl
  | some r => exact Or.inr (mul_ok h)
theorem fdiv_cln (a b : Nat) : cln (fdiv a b) := by
  unfold fdiv
  cases h : Ieee.single.div a b with
  | none => exact Or.inl rfl
  | some r => exact Or.inr (div_ok h)
theorem sqrt_ok64 {x r : Nat} (h : Ieee.double.sqrt x = some r) : (Ieee.double.read r).isNaN = false := by
  unfold Ieee.Format.sqrt at h
  cases e : (Ieee.double.read x).root (Ieee.double.fractionBits + 2) with
  | none => rw [e] at h; cases h
  | some d => rw [e] at h; cases h; exact write_ok64 _ (root_not_nan e)
theorem froot_cln (a : Nat) : cln (froot a) := by
  unfold froot
  split
  · cases h : Ieee.double.sqrt (wide a) with
    | none => exact Or.inl rfl
    | some r => exact Or.inr (write_ok _ (sqrt_ok64 h))
  · exact Or.inl rfl
theorem word_lt32 (neg : Bool) (r : Nat) (h : r ≤ 2139095040) : Ieee.single.word neg r < 4294967296 := by
  unfold Ieee.Format.word
  have e1 : Ieee.single.signWeight = 2147483648 := rfl
  rw [e1]; split <;> omega
theorem write_lt32 (d : Ieee.Datum) : Ieee.single.write d < 4294967296 := Ieee.single.write_lt d
theorem fsum_lt (a b : Nat) : fsum a b < 4294967296 := by
  unfold fsum
  cases h : Ieee.single.add a b with
  | none => decide
  | some r => exact Ieee.single.add_lt h
theorem fmul_lt (a b : Nat) : fmul a b < 4294967296 := by
  unfold fmul
  cases h : Ieee.single.mul a b with
  | none => decide
  | some r => exact Ieee.single.mul_lt h
theorem fdiv_lt (a b : Nat) : fdiv a b < 4294967296 := by
  unfold fdiv
  cases h : Ieee.single.div a b with
  | none => decide
  | some r => exact Ieee.single.div_lt h
theorem froot_lt (a : Nat) : froot a < 4294967296 := by
  unfold froot
  split
  · cases h : Ieee.double.sqrt (wide a) with
    | none => decide
    | some r => exact write_lt32 _
  · decide
theorem fab_cln {a : Nat} (h : a < 4294967296) : cln (fab a) := by
  unfold fab
  by_cases ho : ok a = false
  · rw [if_pos ho]; exact Or.inl rfl
  have ho' : ok a = true := by simpa using ho
  have hm : a % 2147483648 ≤ 2139095040 := by simpa [ok] using ho'
  rw [if_neg ho]
  refine Or.inr ?_
  have hk : ∀ x : Nat, x % 2147483648 ≤ 2139095040 → ok x = true := fun x hx => by simpa [ok] using hx
  split
  · decide
  · split
    · decide
    · split
      · apply hk; omega
      · apply hk; omega
theorem ok_tn (a : Nat) (h : a < 4294967296) : ok (tn a) = ok a := by
  unfold ok tn
  congr 1
  split <;> rw [show ∀ x y : Nat, x = y → (x ≤ 2139095040) = (y ≤ 2139095040) from fun _ _ e => by rw [e]] <;> omega
theorem fbe_cln {a : Nat} (h : a < 4294967296) : cln (fbe a) := by
  unfold fbe
  by_cases ho : ok a = false
  · rw [if_pos ho]; exact Or.inl rfl
  rw [if_neg ho]
  refine Or.inr ?_
  rw [ok_tn _ (fab_lt (tn_lt h))]
  rcases fab_cln (tn_lt h) with e | e
  · exfalso
    have ho' : ok a = true := by simpa using ho
    have ht := ok_tn a h
    rw [ho'] at ht
    unfold fab at e
    rw [ht] at e
    have hm : tn a % 2147483648 ≤ 2139095040 := by simpa [ok] using ht
    have := tn_lt h
    simp only [Bool.true_eq_false, if_false] at e
    split at e
    · omega
    · split at e
      · omega
      · split at e <;> omega
  · exact e
theorem fbe_lt {a : Nat} (h : a < 4294967296) : fbe a < 4294967296 := by
  unfold fbe; split
  · decide
  · exact tn_lt (fab_lt (tn_lt h))

theorem on_lt {a : Nat} (h : a < 4294967296) : on a < 4294967296 := by unfold on; split <;> omega
end Go.Proofs.Ythaipahaaajgoaa
namespace Go.Proofs.Ythaipahaaajgoaa
open Go.RowKit

/-- a size, in steps of the least number -/
def val (r : Nat) : Nat := if r < 8388608 then r else (8388608 + r % 8388608) * 2 ^ (r / 8388608 - 1)
theorem val_succ (r : Nat) : val r < val (r + 1) := by
  unfold val
  by_cases h1 : r + 1 < 8388608
  · rw [if_pos (by omega), if_pos h1]; omega
  by_cases h2 : r < 8388608
  · have : r = 8388607 := by omega
    subst this
    decide
  rw [if_neg h2, if_neg h1]
  by_cases h3 : r % 8388608 + 1 < 8388608
  · rw [show (r + 1) / 8388608 = r / 8388608 by omega, show (r + 1) % 8388608 = r % 8388608 + 1 by omega]
    exact Nat.mul_lt_mul_of_pos_right (by omega) (Nat.two_pow_pos _)
  · rw [show (r + 1) / 8388608 = r / 8388608 + 1 by omega, show (r + 1) % 8388608 = 0 by omega]
    have hq : r / 8388608 + 1 - 1 = r / 8388608 - 1 + 1 := by omega
    rw [hq, Nat.pow_succ, Nat.mul_comm (2 ^ _) 2, ← Nat.mul_assoc]
    exact Nat.mul_lt_mul_of_pos_right (by omega) (Nat.two_pow_pos _)
theorem val_lt {r s : Nat} (h : r < s) : val r < val s := by
  obtain ⟨k, rfl⟩ : ∃ k, s = r + 1 + k := ⟨s - (r + 1), by omega⟩
  clear h
  induction k with
  | zero => exact val_succ r
  | succ k ih => exact Nat.lt_trans ih (val_succ _)
theorem val_lt_iff (r s : Nat) : val r < val s ↔ r < s := by
  refine ⟨fun h => ?_, val_lt⟩
  apply Nat.lt_of_not_le
  intro hge
  rcases Nat.lt_or_eq_of_le hge with h' | h'
  · have := val_lt h'; omega
  · subst h'; omega
theorem val_inj {r s : Nat} (h : val r = val s) : r = s := by
  rcases Nat.lt_trichotomy r s with h' | h' | h'
  · have := val_lt h'; omega
  · exact h'
  · have := val_lt h'; omega

/-- the place in the order -/
def key (a : Nat) : Int := if a < 2147483648 then (a : Int) else -((a % 2147483648 : Nat) : Int)
def sval (a : Nat) : Int := if a / 2147483648 % 2 == 1 then -((val (a % 2147483648) : Nat) : Int) else ((val (a % 2147483648) : Nat) : Int)
theorem cmp_iff {x y x' y' : Int} (h1 : x < y ↔ x' < y') (h2 : x = y ↔ x' = y') : compare x y = compare x' y' := by
  simp only [compare, compareOfLessAndEq]
  by_cases a : x < y
  · rw [if_pos a, if_pos (h1.1 a)]
  · rw [if_neg a, if_neg (fun h => a (h1.2 h))]
    by_cases b : x = y
    · rw [if_pos b, if_pos (h2.1 b)]
    · rw [if_neg b, if_neg (fun h => b (h2.2 h))]
theorem key_neg {a : Nat} (h : 2147483648 ≤ a) : key a = -((a % 2147483648 : Nat) : Int) := by unfold key; rw [if_neg (by omega)]
theorem key_pos {a : Nat} (h : a < 2147483648) : key a = (a : Int) := by unfold key; rw [if_pos h]
theorem sval_neg {a : Nat} (h : 2147483648 ≤ a) (h' : a < 4294967296) : sval a = -((val (a % 2147483648) : Nat) : Int) := by
  unfold sval; rw [show a / 2147483648 % 2 = 1 by omega]; rfl
theorem sval_pos {a : Nat} (h : a < 2147483648) : sval a = ((val (a % 2147483648) : Nat) : Int) := by
  unfold sval; rw [show a / 2147483648 % 2 = 0 by omega]; rfl
theorem sval_key (a b : Nat) (ha : a < 4294967296) (hb : b < 4294967296) : (sval a < sval b ↔ key a < key b) ∧ (sval a = sval b ↔ key a = key b) := by
  have m1 := val_lt_iff (a % 2147483648) (b % 2147483648)
  have m2 := val_lt_iff (b % 2147483648) (a % 2147483648)
  have m3 : val (a % 2147483648) = val (b % 2147483648) ↔ a % 2147483648 = b % 2147483648 := ⟨val_inj, fun h => by rw [h]⟩
  have z0 : val 0 = 0 := rfl
  have m4 := val_lt_iff 0 (a % 2147483648)
  have m5 := val_lt_iff 0 (b % 2147483648)
  rw [z0] at m4 m5
  by_cases h1 : 2147483648 ≤ a <;> by_cases h2 : 2147483648 ≤ b
  · rw [sval_neg h1 ha, sval_neg h2 hb, key_neg h1, key_neg h2]; omega
  · rw [sval_neg h1 ha, sval_pos (by omega), key_neg h1, key_pos (by omega)]; omega
  · rw [sval_pos (by omega), sval_neg h2 hb, key_pos (by omega), key_neg h2]; omega
  · rw [sval_pos (by omega), sval_pos (by omega), key_pos (by omega), key_pos (by omega)]; omega

/-- a finite word, as sign, mantissa and place -/
theorem read_fin (a : Nat) (h : a % 2147483648 < 2139095040) : ∃ m : Nat, ∃ k : Nat, Ieee.single.read a = .number (a / 2147483648 % 2 == 1) m (-149 + (k : Int)) ∧ m * 2 ^ k = val (a % 2147483648) ∧ m < 16777216 ∧ k ≤ 253 ∧ (m < 8388608 → k = 0) := by
  rw [read_single]
  unfold val
  split
  · exact ⟨a % 2147483648, 0, by simp, by simp, by omega, by omega, fun _ => rfl⟩
  · exact ⟨_, _, rfl, rfl, by omega, by omega, fun h => by omega⟩
theorem signed_mul (s : Bool) (m u k : Nat) : Ieee.signed s m u * (2 ^ k : Nat) = Ieee.signed s m (u + k) := by
  unfold Ieee.signed
  simp only [Nat.shiftLeft_eq, Nat.pow_add]
  cases s <;> simp [Int.natCast_mul, Int.neg_mul, Int.mul_assoc]
theorem signed_val (s : Bool) (m k : Nat) : Ieee.signed s m k = if s then -((m * 2 ^ k : Nat) : Int) else ((m * 2 ^ k : Nat) : Int) := by
  unfold Ieee.signed
  rw [Nat.shiftLeft_eq]
theorem order_fin (a b : Nat) (ha : a % 2147483648 < 2139095040) (hb : b % 2147483648 < 2139095040) : Ieee.single.order a b = some (compare (sval a) (sval b)) := by
  obtain ⟨m, k, e1, v1, -⟩ := read_fin a ha
  obtain ⟨n, l, e2, v2, -⟩ := read_fin b hb
  unfold Ieee.Format.order
  rw [e1, e2]
  simp only [Ieee.Datum.order]
  congr 1
  unfold sval
  rw [← v1, ← v2, ← signed_val, ← signed_val]
  generalize hq : min k l = q
  have h1 : (-149 + (k : Int) - min (-149 + (k : Int)) (-149 + (l : Int))).toNat = k - q := by omega
  have h2 : (-149 + (l : Int) - min (-149 + (k : Int)) (-149 + (l : Int))).toNat = l - q := by omega
  rw [h1, h2]
  have s1 := signed_mul (a / 2147483648 % 2 == 1) m (k - q) q
  have s2 := signed_mul (b / 2147483648 % 2 == 1) n (l - q) q
  rw [show k - q + q = k by omega] at s1
  rw [show l - q + q = l by omega] at s2
  rw [← s1, ← s2]
  have hp : (0 : Int) < (2 ^ q : Nat) := by have := Nat.two_pow_pos q; omega
  generalize ((2 ^ q : Nat) : Int) = c at hp
  refine cmp_iff ⟨fun h => Int.mul_lt_mul_of_pos_right h hp, fun h => Int.lt_of_mul_lt_mul_right h (Int.le_of_lt hp)⟩ ⟨fun h => by rw [h], fun h => Int.eq_of_mul_eq_mul_right (Int.ne_of_gt hp) h⟩
theorem order_key (a b : Nat) (ha : a < 4294967296) (hb : b < 4294967296) (oa : ok a = true) (ob : ok b = true) : Ieee.single.order a b = some (compare (key a) (key b)) := by
  have ha' : a % 2147483648 ≤ 2139095040 := by simpa [ok] using oa
  have hb' : b % 2147483648 ≤ 2139095040 := by simpa [ok] using ob
  have hinf : ∀ x : Nat, x % 2147483648 = 2139095040 → Ieee.single.read x = .infinity (x / 2147483648 % 2 == 1) := by
    intro x hx
    rw [read_single, if_neg (by omega), if_neg (by omega), if_pos hx]
  by_cases fa : a % 2147483648 < 2139095040 <;> by_cases fb : b % 2147483648 < 2139095040
  · rw [order_fin a b fa fb]
    have := sval_key a b ha hb
    rw [cmp_iff this.1 this.2]
  · obtain ⟨m, k, e1, -⟩ := read_fin a fa
    have e2 := hinf b (by omega)
    unfold Ieee.Format.order
    rw [e1, e2]
    simp only [Ieee.Datum.order]
    congr 1
    have : b = 2139095040 ∨ b = 4286578688 := by omega
    rcases this with rfl | rfl
    · have : key a < key 2139095040 := by unfold key; split <;> split <;> omega
      simp [compare, compareOfLessAndEq, this]
    · have : key 4286578688 < key a := by unfold key; split <;> split <;> omega
      rw [show (4286578688 / 2147483648 % 2 == 1) = true from rfl]
      simp only [if_true, compare, compareOfLessAndEq]
      rw [if_neg (by omega), if_neg (by omega)]
  · obtain ⟨m, k, e1, -⟩ := read_fin b fb
    have e2 := hinf a (by omega)
    unfold Ieee.Format.order
    rw [e1, e2]
    simp only [Ieee.Datum.order]
    congr 1
    have : a = 2139095040 ∨ a = 4286578688 := by omega
    rcases this with rfl | rfl
    · have : key b < key 2139095040 := by unfold key; split <;> split <;> omega
      rw [show (2139095040 / 2147483648 % 2 == 1) = false from rfl]
      simp only [Bool.false_eq_true, if_false, compare, compareOfLessAndEq]
      rw [if_neg (by omega), if_neg (by omega)]
    · have : key 4286578688 < key b := by unfold key; split <;> split <;> omega
      rw [show (4286578688 / 2147483648 % 2 == 1) = true from rfl]
      simp only [if_true, compare, compareOfLessAndEq]
      rw [if_pos this]
  · have e1 := hinf a (by omega)
    have e2 := hinf b (by omega)
    unfold Ieee.Format.order
    rw [e1, e2]
    have h1 : a = 2139095040 ∨ a = 4286578688 := by omega
    have h2 : b = 2139095040 ∨ b = 4286578688 := by omega
    rcases h1 with rfl | rfl <;> rcases h2 with rfl | rfl <;> decide +kernel
theorem fstand_key (a b : Nat) (ha : a < 4294967296) (hb : b < 4294967296) (oa : ok a = true) (ob : ok b = true) : fstand a b = if key a < key b then 2 else if key a = key b then 3 else 4 := by
  unfold fstand
  rw [order_key a b ha hb oa ob]
  simp only [compare, compareOfLessAndEq]
  by_cases h1 : key a < key b
  · rw [if_pos h1, if_pos h1]
  · rw [if_neg h1, if_neg h1]
    by_cases h2 : key a = key b
    · rw [if_pos h2, if_pos h2]
    · rw [if_neg h2, if_neg h2]
end Go.Proofs.Ythaipahaaajgoaa
namespace Go.Proofs.Ythaipahaaajgoaa
open Go.RowKit

theorem ok_mod {a : Nat} (h : ok a = true) : a % 2147483648 ≤ 2139095040 := by simpa [ok] using h
theorem mod_ok {a : Nat} (h : a % 2147483648 ≤ 2139095040) : ok a = true := by simpa [ok] using h
theorem tn_key {a : Nat} (h : a < 4294967296) : key (tn a) = - key a := by
  unfold tn
  split
  · rename_i h'
    rw [key_neg (by omega), key_pos h']; omega
  · rename_i h'
    rw [key_pos (by omega), key_neg (by omega)]; omega
theorem key_inj {a b : Nat} (ha : a < 4294967296) (hb : b < 4294967296) (h : key a = key b) : a = b ∨ a % 2147483648 = 0 ∧ b % 2147483648 = 0 := by
  by_cases h1 : 2147483648 ≤ a <;> by_cases h2 : 2147483648 ≤ b
  · rw [key_neg h1, key_neg h2] at h; omega
  · rw [key_neg h1, key_pos (by omega)] at h; omega
  · rw [key_pos (by omega), key_neg h2] at h; omega
  · rw [key_pos (by omega), key_pos (by omega)] at h; omega
theorem fab_key {a : Nat} (ha : a < 4294967296) (oa : ok a = true) (hi : a ≠ 2139095040) : ok (fab a) = true ∧ key (fab a) = key a + 1 := by
  have hm := ok_mod oa
  unfold fab
  rw [if_neg (by simp [oa])]
  by_cases hz : a % 2147483648 = 0
  · rw [if_pos hz]
    have : a = 0 ∨ a = 2147483648 := by omega
    rcases this with rfl | rfl <;> decide +kernel
  rw [if_neg hz, if_neg hi]
  by_cases hs : 2147483648 ≤ a
  · rw [if_pos hs]
    refine ⟨mod_ok (by omega), ?_⟩
    rw [key_neg hs, key_neg (by omega)]; omega
  · rw [if_neg hs]
    refine ⟨mod_ok (by omega), ?_⟩
    rw [key_pos (by omega), key_pos (by omega)]; omega
theorem fbe_key {a : Nat} (ha : a < 4294967296) (oa : ok a = true) (hi : a ≠ 4286578688) : ok (fbe a) = true ∧ key (fbe a) = key a - 1 := by
  unfold fbe
  rw [if_neg (by simp [oa])]
  have h1 := tn_lt ha
  have ot : ok (tn a) = true := by rw [ok_tn a ha, oa]
  have hi' : tn a ≠ 2139095040 := by unfold tn; split <;> omega
  obtain ⟨o2, k2⟩ := fab_key h1 ot hi'
  have h2 := fab_lt h1
  refine ⟨by rw [ok_tn _ h2, o2], ?_⟩
  rw [tn_key h2, k2, tn_key ha]; omega
theorem key_bound {a : Nat} (ha : a < 4294967296) (oa : ok a = true) : -2139095040 ≤ key a ∧ key a ≤ 2139095040 := by
  have := ok_mod oa
  by_cases h : 2147483648 ≤ a
  · rw [key_neg h]; omega
  · rw [key_pos (by omega)]; omega

end Go.Proofs.Ythaipahaaajgoaa
namespace Go.Proofs.Ythaipahaaajgoaa
open Go.RowKit

/-! to the nearest whole number, of two the even one -/
def rne (n g : Nat) : Nat := n / g + (if g < 2 * (n % g) ∨ (g = 2 * (n % g) ∧ n / g % 2 = 1) then 1 else 0)
theorem rne_up (n g : Nat) (hg : 0 < g) : 2 * n ≤ (2 * rne n g + 1) * g ∧ (2 * n = (2 * rne n g + 1) * g → rne n g % 2 = 0) := by
  have h1 := Nat.div_add_mod n g
  have h2 := Nat.mod_lt n hg
  unfold rne
  generalize n / g = t at *
  generalize n % g = s at *
  rw [Nat.add_mul, Nat.mul_assoc, Nat.one_mul, Nat.add_mul, Nat.mul_comm t g]
  split
  · simp only [Nat.one_mul]
    omega
  · simp only [Nat.zero_mul, Nat.add_zero]
    omega
theorem rne_dn (n g : Nat) (hg : 0 < g) : 2 * rne n g * g ≤ 2 * n + g ∧ (2 * rne n g * g = 2 * n + g → rne n g % 2 = 0) := by
  have h1 := Nat.div_add_mod n g
  have h2 := Nat.mod_lt n hg
  unfold rne
  generalize n / g = t at *
  generalize n % g = s at *
  rw [Nat.mul_assoc, Nat.add_mul, Nat.mul_comm t g]
  split
  · simp only [Nat.one_mul]
    omega
  · simp only [Nat.zero_mul, Nat.add_zero]
    omega
theorem rne_ge (n g : Nat) : n / g ≤ rne n g := by unfold rne; omega
theorem rne_le (n g : Nat) : rne n g ≤ n / g + 1 := by unfold rne; split <;> omega
theorem cut_eq (neg : Bool) (n drop : Nat) : Ieee.Toward.even.cut neg n drop = rne n (2 ^ drop) := by
  unfold Ieee.Toward.cut rne
  dsimp only
  rw [Nat.shiftLeft_eq, Nat.one_mul]
  by_cases h : drop ≤ n.log2 + 2
  · rw [Nat.min_eq_left h]
    congr 1
    generalize 2 ^ drop = g
    by_cases a : g < 2 * (n % g)
    · rw [if_pos (Or.inl a), decide_eq_true a]; rfl
    · by_cases b : g = 2 * (n % g) ∧ n / g % 2 = 1
      · rw [if_pos (Or.inr b), decide_eq_false a]
        have e1 : (g == 2 * (n % g)) = true := by rw [← b.1]; exact beq_self_eq_true g
        rw [e1, b.2]; rfl
      · rw [if_neg (fun h => h.elim a b), decide_eq_false a]
        have : (g == 2 * (n % g) && n / g % 2 == 1) = false := by
          rw [← Bool.not_eq_true]
          intro hh
          rw [Bool.and_eq_true, beq_iff_eq, beq_iff_eq] at hh
          exact b hh
        rw [this]; rfl
  · rw [Nat.min_eq_right (by omega)]
    have h1 : n < 2 ^ (n.log2 + 1) := Nat.lt_log2_self
    have h2 : 2 ^ (n.log2 + 2) = 2 * 2 ^ (n.log2 + 1) := by rw [Nat.pow_succ, Nat.mul_comm]
    have h3 : 2 ^ (n.log2 + 2) ≤ 2 ^ drop := Nat.pow_le_pow_right (by decide) (by omega)
    have h4 : n < 2 ^ (n.log2 + 2) := by omega
    have h5 : n < 2 ^ drop := by omega
    rw [Nat.div_eq_of_lt h4, Nat.mod_eq_of_lt h4, Nat.div_eq_of_lt h5, Nat.mod_eq_of_lt h5, if_neg (by omega)]
    rw [decide_eq_false (by omega), show (2 ^ (n.log2 + 2) == 2 * n) = false by simp; omega]
    rfl

/-! the rungs' sizes -/
def vl (B r : Nat) : Nat := if r < B then r else (B + r % B) * 2 ^ (r / B - 1)
theorem vl_at (B : Nat) (hB : 0 < B) (q k : Nat) (h : q = 0 ∨ B ≤ k) (hk : k ≤ 2 * B) : vl B (q * B + k) = k * 2 ^ q := by
  unfold vl
  by_cases h1 : k < B
  · have : q = 0 := by omega
    subst this
    rw [Nat.zero_mul, Nat.zero_add, if_pos h1]; simp
  · obtain ⟨j, rfl⟩ : ∃ j, k = B + j := ⟨k - B, by omega⟩
    have e : q * B + (B + j) = B * (q + 1) + j := by rw [Nat.mul_add, Nat.mul_comm]; omega
    rw [e, if_neg (by have := Nat.le_mul_of_pos_right B (show 0 < q + 1 by omega); omega)]
    by_cases h2 : j < B
    · rw [Nat.mul_add_mod, Nat.mod_eq_of_lt h2, Nat.mul_add_div hB, Nat.div_eq_of_lt h2]
      simp
    · have : j = B := by omega
      subst this
      rw [show j * (q + 1) + j = j * (q + 2) by rw [Nat.mul_add, Nat.mul_add]; omega, Nat.mul_mod_right, Nat.mul_div_cancel_left _ hB]
      rw [show q + 2 - 1 = q + 1 by omega, Nat.pow_succ]
      simp only [Nat.add_zero]
      rw [← Nat.two_mul, Nat.mul_comm 2 j, Nat.mul_assoc, Nat.mul_comm (2 ^ q) 2]
theorem rung_form (B : Nat) (hB : 0 < B) (r : Nat) : ∃ q k, r = q * B + k ∧ (q = 0 ∨ B ≤ k) ∧ k < 2 * B := by
  by_cases h : r < B
  · exact ⟨0, r, by simp, Or.inl rfl, by omega⟩
  · refine ⟨r / B - 1, B + r % B, ?_, Or.inr (Nat.le_add_right _ _), by have := Nat.mod_lt r hB; omega⟩
    have h1 := Nat.div_add_mod r B
    have h2 : 1 ≤ r / B := (Nat.le_div_iff_mul_le hB).2 (by omega)
    obtain ⟨t, ht⟩ : ∃ t, r / B = t + 1 := ⟨r / B - 1, by omega⟩
    rw [ht] at h1 ⊢
    rw [Nat.mul_add, Nat.mul_comm] at h1
    simp only [Nat.add_sub_cancel]
    omega
theorem vl_succ (B : Nat) (hB : 0 < B) (r : Nat) : vl B r < vl B (r + 1) := by
  obtain ⟨q, k, rfl, h1, h2⟩ := rung_form B hB r
  rw [vl_at B hB q k h1 (by omega), Nat.add_assoc, vl_at B hB q (k + 1) (by omega) (by omega)]
  exact Nat.mul_lt_mul_of_pos_right (by omega) (Nat.two_pow_pos _)
theorem vl_lt (B : Nat) (hB : 0 < B) {r s : Nat} (h : r < s) : vl B r < vl B s := by
  obtain ⟨k, rfl⟩ : ∃ k, s = r + 1 + k := ⟨s - (r + 1), by omega⟩
  clear h
  induction k with
  | zero => exact vl_succ B hB r
  | succ k ih => exact Nat.lt_trans ih (vl_succ B hB _)
theorem vl_le (B : Nat) (hB : 0 < B) {r s : Nat} (h : r ≤ s) : vl B r ≤ vl B s := by
  rcases Nat.lt_or_eq_of_le h with h' | h'
  · exact Nat.le_of_lt (vl_lt B hB h')
  · rw [h']; exact Nat.le_refl _

/-- the rung nearest to N, which counts in 2^-d of the least step -/
def Near (B d N r : Nat) : Prop :=
  (2 * N ≤ (vl B r + vl B (r + 1)) * 2 ^ d ∧ (2 * N = (vl B r + vl B (r + 1)) * 2 ^ d → r % 2 = 0)) ∧
  ∀ r', r' + 1 = r → (vl B r' + vl B r) * 2 ^ d ≤ 2 * N ∧ ((vl B r' + vl B r) * 2 ^ d = 2 * N → r % 2 = 0)
theorem Near.mono {B d N N' r r' : Nat} (hB : 0 < B) (h : Near B d N r) (h' : Near B d N' r') (hN : N ≤ N') : r ≤ r' := by
  apply Nat.le_of_not_lt
  intro hlt
  obtain ⟨t, rfl⟩ : ∃ t, r = t + 1 := ⟨r - 1, by omega⟩
  obtain ⟨h1, h2⟩ := h.2 t rfl
  obtain ⟨h3, h4⟩ := h'.1
  have hp := Nat.two_pow_pos d
  by_cases e : r' = t
  · subst e
    have e1 := h2 (by omega)
    have e2 := h4 (by omega)
    omega
  · have a1 := vl_lt B hB (show r' < t by omega)
    have a2 := vl_lt B hB (show r' + 1 < t + 1 by omega)
    have := Nat.mul_lt_mul_of_pos_right (show vl B r' + vl B (r' + 1) < vl B t + vl B (t + 1) by omega) hp
    omega
theorem Near.unique {B d N r r' : Nat} (hB : 0 < B) (h : Near B d N r) (h' : Near B d N r') : r = r' :=
  Nat.le_antisymm (h.mono hB h' (Nat.le_refl _)) (h'.mono hB h (Nat.le_refl _))
theorem near_self (B d r : Nat) (hB : 0 < B) : Near B d (vl B r * 2 ^ d) r := by
  have hp := Nat.two_pow_pos d
  refine ⟨?_, fun t ht => ?_⟩
  · have := Nat.mul_lt_mul_of_pos_right (vl_succ B hB r) hp
    rw [Nat.add_mul]
    exact ⟨by omega, fun e => by omega⟩
  · subst ht
    have := Nat.mul_lt_mul_of_pos_right (vl_succ B hB t) hp
    rw [Nat.add_mul]
    exact ⟨by omega, fun e => by omega⟩

/-! the rung that Ieee takes -/
def lastOf (f : Ieee.Format) (mag : Nat) (place : Int) : Int := max (place + mag.log2 - f.fractionBits) f.leastPlace
def rg (f : Ieee.Format) (mag : Nat) (place : Int) : Nat :=
  if mag = 0 then 0 else (lastOf f mag place - f.leastPlace).toNat * f.binade + rne (mag <<< (place - lastOf f mag place).toNat) (2 ^ (lastOf f mag place - place).toNat)
theorem nearest_rg (f : Ieee.Format) (neg : Bool) (mag : Nat) (place : Int) : f.nearest neg mag place = f.word neg (min (rg f mag place) f.infRung) := by
  unfold Ieee.Format.nearest rg
  split
  · rw [Nat.zero_min]
  · dsimp only
    rw [cut_eq]; rfl
theorem near_kept (p q d n g N k : Nat) (hg : 0 < g) (hN : N * g = n * 2 ^ (q + d)) (hk : k = rne n g) (hlo : q = 0 ∨ 2 ^ p ≤ n / g) (hhi : n / g < 2 * 2 ^ p) (hp : 0 < p) :
    Near (2 ^ p) d N (q * 2 ^ p + k) := by
  have hB := Nat.two_pow_pos p
  have hup := rne_up n g hg
  have hdn := rne_dn n g hg
  have hge := rne_ge n g
  have hle := rne_le n g
  rw [← hk] at hup hdn hge hle
  have hkB : k ≤ 2 * 2 ^ p := by omega
  have hkl : q = 0 ∨ 2 ^ p ≤ k := by omega
  have hpq := Nat.two_pow_pos (q + d)
  have hv := vl_at (2 ^ p) hB q k hkl hkB
  have hpar : (q * 2 ^ p + k) % 2 = k % 2 := by
    obtain ⟨p', rfl⟩ : ∃ p', p = p' + 1 := ⟨p - 1, by omega⟩
    rw [Nat.pow_succ, ← Nat.mul_assoc]; omega
  -- what is held against the middles
  have up2 : 2 * N ≤ (2 * k + 1) * 2 ^ (q + d) ∧ (2 * N = (2 * k + 1) * 2 ^ (q + d) → k % 2 = 0) := by
    have e : (2 * N) * g = (2 * n) * 2 ^ (q + d) := by rw [Nat.mul_assoc, hN, Nat.mul_assoc]
    have e2 : (2 * k + 1) * 2 ^ (q + d) * g = (2 * k + 1) * g * 2 ^ (q + d) := by rw [Nat.mul_assoc, Nat.mul_comm (2 ^ (q + d)) g, ← Nat.mul_assoc]
    refine ⟨?_, fun h => hup.2 ?_⟩
    · refine Nat.le_of_mul_le_mul_right (c := g) ?_ hg
      rw [e, e2]
      exact Nat.mul_le_mul_right _ hup.1
    · have : (2 * N) * g = (2 * k + 1) * 2 ^ (q + d) * g := by rw [h]
      rw [e, e2] at this
      exact Nat.eq_of_mul_eq_mul_right hpq this
  have dn2 : 2 * k * 2 ^ (q + d) ≤ 2 * N + 2 ^ (q + d) ∧ (2 * k * 2 ^ (q + d) = 2 * N + 2 ^ (q + d) → k % 2 = 0) := by
    have e : (2 * N + 2 ^ (q + d)) * g = (2 * n + g) * 2 ^ (q + d) := by
      rw [Nat.add_mul, Nat.mul_assoc, hN, Nat.add_mul, Nat.mul_assoc, Nat.mul_comm g]
    have e2 : 2 * k * 2 ^ (q + d) * g = 2 * k * g * 2 ^ (q + d) := by rw [Nat.mul_assoc, Nat.mul_comm (2 ^ (q + d)) g, ← Nat.mul_assoc]
    refine ⟨?_, fun h => hdn.2 ?_⟩
    · refine Nat.le_of_mul_le_mul_right (c := g) ?_ hg
      rw [e, e2]
      exact Nat.mul_le_mul_right _ hdn.1
    · have : 2 * k * 2 ^ (q + d) * g = (2 * N + 2 ^ (q + d)) * g := by rw [h]
      rw [e, e2] at this
      exact Nat.eq_of_mul_eq_mul_right hpq this
  have hpd := Nat.two_pow_pos d
  have hpqd : 2 ^ (q + d) = 2 ^ q * 2 ^ d := Nat.pow_add _ _ _
  refine ⟨?_, fun t ht => ?_⟩
  · rw [hv, hpar]
    by_cases hk2 : k < 2 * 2 ^ p
    · have hv1 := vl_at (2 ^ p) hB q (k + 1) (by omega) (by omega)
      rw [Nat.add_assoc, hv1]
      have e : (k * 2 ^ q + (k + 1) * 2 ^ q) * 2 ^ d = (2 * k + 1) * 2 ^ (q + d) := by
        rw [← Nat.add_mul, hpqd, Nat.mul_assoc]; congr 1; omega
      rw [e]
      exact up2
    · have hv1 := vl_lt (2 ^ p) hB (show q * 2 ^ p + k < q * 2 ^ p + k + 1 by omega)
      -- one step of twice the width
      have hk3 : k = 2 * 2 ^ p := by omega
      have hv2 := vl_at (2 ^ p) hB (q + 1) (2 ^ p + 1) (Or.inr (by omega)) (by omega)
      have e0 : q * 2 ^ p + k + 1 = (q + 1) * 2 ^ p + (2 ^ p + 1) := by rw [hk3, Nat.add_mul]; omega
      rw [e0, hv2]
      have e : (k * 2 ^ q + (2 ^ p + 1) * 2 ^ (q + 1)) * 2 ^ d = (2 * k + 2) * 2 ^ (q + d) := by
        rw [Nat.pow_succ, Nat.mul_comm (2 ^ q) 2, ← Nat.mul_assoc, ← Nat.add_mul, hpqd, Nat.mul_assoc]; congr 1; omega
      rw [e]
      have : (2 * k + 1) * 2 ^ (q + d) < (2 * k + 2) * 2 ^ (q + d) := Nat.mul_lt_mul_of_pos_right (by omega) hpq
      exact ⟨by omega, fun h => by omega⟩
  · rw [hv, hpar]
    by_cases hq : q = 0 ∨ 2 ^ p + 1 ≤ k
    · have hk0 : 1 ≤ k := by rcases hq with rfl | h; omega; omega
      have hv1 := vl_at (2 ^ p) hB q (k - 1) (by omega) (by omega)
      have e0 : t = q * 2 ^ p + (k - 1) := by omega
      rw [e0, hv1]
      obtain ⟨j, rfl⟩ : ∃ j, k = j + 1 := ⟨k - 1, by omega⟩
      simp only [Nat.add_sub_cancel]
      have e : (j * 2 ^ q + (j + 1) * 2 ^ q) * 2 ^ d = (2 * j + 1) * 2 ^ (q + d) := by
        rw [← Nat.add_mul, hpqd, Nat.mul_assoc]; congr 1; omega
      rw [e]
      have e1 : 2 * (j + 1) * 2 ^ (q + d) = (2 * j + 1) * 2 ^ (q + d) + 2 ^ (q + d) := by
        rw [show 2 * (j + 1) = (2 * j + 1) + 1 by omega, Nat.add_mul (2 * j + 1) 1, Nat.one_mul]
      rw [e1] at dn2
      exact ⟨by omega, fun h => dn2.2 (by omega)⟩
    · have hkp : k = 2 ^ p := by omega
      have hq0 : 0 < q := by omega
      obtain ⟨q', rfl⟩ : ∃ q', q = q' + 1 := ⟨q - 1, by omega⟩
      have hnk : 2 ^ p ≤ n / g := by omega
      have hng : k * g ≤ n := by rw [hkp]; exact (Nat.le_div_iff_mul_le hg).1 hnk
      have hNk : k * 2 ^ (q' + 1 + d) ≤ N := by
        refine Nat.le_of_mul_le_mul_right (c := g) ?_ hg
        rw [hN, Nat.mul_assoc, Nat.mul_comm (2 ^ (q' + 1 + d)) g, ← Nat.mul_assoc]
        exact Nat.mul_le_mul_right _ hng
      have hvt := vl_lt (2 ^ p) hB (show t < (q' + 1) * 2 ^ p + k by omega)
      rw [hv] at hvt
      have : (vl (2 ^ p) t + k * 2 ^ (q' + 1)) * 2 ^ d < (k * 2 ^ (q' + 1) + k * 2 ^ (q' + 1)) * 2 ^ d := Nat.mul_lt_mul_of_pos_right (by omega) hpd
      have e : (k * 2 ^ (q' + 1) + k * 2 ^ (q' + 1)) * 2 ^ d = 2 * (k * 2 ^ (q' + 1 + d)) := by
        rw [hpqd, ← Nat.two_mul, Nat.mul_assoc, Nat.mul_assoc]
      rw [e] at this
      exact ⟨by omega, fun h => by omega⟩
theorem rg_near (f : Ieee.Format) (hp : 0 < f.fractionBits) (mag : Nat) (place : Int) (d : Nat) (hd : f.leastPlace ≤ place + d) :
    Near f.binade d (mag * 2 ^ (place - f.leastPlace + d).toNat) (rg f mag place) := by
  have hB : 0 < f.binade := Nat.two_pow_pos _
  unfold rg
  by_cases hm : mag = 0
  · rw [if_pos hm, hm, Nat.zero_mul]
    have := near_self f.binade d 0 hB
    rwa [show vl f.binade 0 = 0 by unfold vl; rw [if_pos hB], Nat.zero_mul] at this
  rw [if_neg hm]
  have hlt : mag < 2 ^ (mag.log2 + 1) := Nat.lt_log2_self
  have hge : 2 ^ mag.log2 ≤ mag := Nat.log2_self_le hm
  have hl : lastOf f mag place = max (place + mag.log2 - f.fractionBits) f.leastPlace := rfl
  generalize lastOf f mag place = last at hl ⊢
  generalize mag.log2 = L at *
  refine near_kept f.fractionBits (last - f.leastPlace).toNat d (mag <<< (place - last).toNat) (2 ^ (last - place).toNat) _ _ (Nat.two_pow_pos _) ?_ rfl ?_ ?_ hp
  · rw [Nat.shiftLeft_eq, Nat.mul_assoc, Nat.mul_assoc, ← Nat.pow_add, ← Nat.pow_add]
    congr 2
    omega
  · by_cases hq : (last - f.leastPlace).toNat = 0
    · exact Or.inl hq
    · refine Or.inr ?_
      rw [Nat.le_div_iff_mul_le (Nat.two_pow_pos _), ← Nat.pow_add, Nat.shiftLeft_eq]
      refine Nat.le_trans ?_ (Nat.mul_le_mul_right _ hge)
      rw [← Nat.pow_add]
      exact Nat.pow_le_pow_right (by decide) (by omega)
  · rw [Nat.div_lt_iff_lt_mul (Nat.two_pow_pos _), Nat.shiftLeft_eq, Nat.mul_comm 2, ← Nat.pow_succ, ← Nat.pow_add]
    refine Nat.lt_of_lt_of_le (Nat.mul_lt_mul_of_pos_right hlt (Nat.two_pow_pos _)) ?_
    rw [← Nat.pow_add]
    exact Nat.pow_le_pow_right (by decide) (by omega)
end Go.Proofs.Ythaipahaaajgoaa
namespace Go.Proofs.Ythaipahaaajgoaa
open Go.RowKit

theorem val_vl (r : Nat) : val r = vl 8388608 r := rfl
theorem key_word (neg : Bool) (r : Nat) (h : r < 2147483648) : key (Ieee.single.word neg r) = if neg then -(r : Int) else (r : Int) := by
  have e1 : Ieee.single.signWeight = 2147483648 := rfl
  unfold Ieee.Format.word
  rw [e1]
  cases neg
  · simp only [Bool.false_eq_true, if_false]; exact key_pos h
  · simp only [if_true]; rw [key_neg (by omega)]; omega
theorem nearest_word (neg : Bool) (mag : Nat) (place : Int) : Ieee.single.write (.number neg mag place) = Ieee.single.word neg (min (rg Ieee.single mag place) 2139095040) := nearest_rg _ _ _ _
theorem natAbs_mul_pow (x : Int) (q : Nat) : x.natAbs * 2 ^ q = (x * (2 ^ q : Nat)).natAbs := by
  rw [Int.natAbs_mul, Int.natAbs_natCast]
def sn (a : Nat) : Bool := a / 2147483648 % 2 == 1
theorem fsum_fin (a b : Nat) (ha : a % 2147483648 < 2139095040) (hb : b % 2147483648 < 2139095040) :
    ∃ neg r, fsum a b = Ieee.single.word neg (min r 2139095040) ∧ Near 8388608 0 (sval a + sval b).natAbs r ∧ (sval a + sval b ≠ 0 → neg = decide (sval a + sval b < 0)) ∧ (sval a + sval b = 0 → neg = (sn a && sn b)) := by
  obtain ⟨m, k, e1, v1, -⟩ := read_fin a ha
  obtain ⟨n, l, e2, v2, -⟩ := read_fin b hb
  have h0 : Ieee.single.add a b = ((Ieee.single.read a).sum (Ieee.single.read b)).map Ieee.single.write := rfl
  rw [e1, e2] at h0
  simp only [Ieee.Datum.sum, Option.map_some] at h0
  generalize hq : min k l = q
  have h1 : (-149 + (k : Int) - min (-149 + (k : Int)) (-149 + (l : Int))).toNat = k - q := by omega
  have h2 : (-149 + (l : Int) - min (-149 + (k : Int)) (-149 + (l : Int))).toNat = l - q := by omega
  have h3 : min (-149 + (k : Int)) (-149 + (l : Int)) = -149 + (q : Int) := by omega
  rw [h1, h2, h3] at h0
  have s1 := signed_mul (a / 2147483648 % 2 == 1) m (k - q) q
  have s2 := signed_mul (b / 2147483648 % 2 == 1) n (l - q) q
  rw [show k - q + q = k by omega, signed_val (a / 2147483648 % 2 == 1) m k, v1] at s1
  rw [show l - q + q = l by omega, signed_val (b / 2147483648 % 2 == 1) n l, v2] at s2
  have a1 : Ieee.signed (a / 2147483648 % 2 == 1) m (k - q) * (2 ^ q : Nat) = sval a := s1
  have a2 : Ieee.signed (b / 2147483648 % 2 == 1) n (l - q) * (2 ^ q : Nat) = sval b := s2
  generalize Ieee.signed (a / 2147483648 % 2 == 1) m (k - q) = x at h0 a1
  generalize Ieee.signed (b / 2147483648 % 2 == 1) n (l - q) = y at h0 a2
  have hxy : (x + y) * (2 ^ q : Nat) = sval a + sval b := by rw [Int.add_mul, a1, a2]
  have hp : (0 : Int) < (2 ^ q : Nat) := by have := Nat.two_pow_pos q; omega
  have hf : fsum a b = Ieee.single.write (.number (if x + y = 0 then sn a && sn b else decide (x + y < 0)) (x + y).natAbs (-149 + (q : Int))) := by
    unfold fsum; rw [h0]; rfl
  rw [nearest_word] at hf
  have hnr := rg_near Ieee.single (by decide) (x + y).natAbs (-149 + (q : Int)) 0 (by show (-149 : Int) ≤ _; omega)
  have e5 : (-149 + (q : Int) - Ieee.single.leastPlace + (0 : Nat)).toNat = q := by
    rw [show Ieee.single.leastPlace = -149 from rfl]; omega
  rw [e5, natAbs_mul_pow, hxy] at hnr
  refine ⟨_, _, hf, hnr, fun hne => ?_, fun he => ?_⟩
  · have hxn : x + y ≠ 0 := fun h => hne (by rw [← hxy, h, Int.zero_mul])
    rw [if_neg hxn]
    apply decide_eq_decide.2
    rw [← hxy]
    constructor
    · intro h; exact Int.mul_neg_of_neg_of_pos h hp
    · intro h
      apply Int.lt_of_not_ge
      intro hge
      have := Int.mul_nonneg hge (Int.le_of_lt hp)
      omega
  · have hxn : x + y = 0 := by
      rw [← hxy] at he
      rcases Int.mul_eq_zero.1 he with h | h
      · exact h
      · omega
    rw [if_pos hxn]
theorem fmul_fin (a b : Nat) (ha : a % 2147483648 < 2139095040) (hb : b % 2147483648 < 2139095040) :
    ∃ r, fmul a b = Ieee.single.word (sn a ^^ sn b) (min r 2139095040) ∧ Near 8388608 149 (val (a % 2147483648) * val (b % 2147483648)) r := by
  obtain ⟨m, k, e1, v1, -⟩ := read_fin a ha
  obtain ⟨n, l, e2, v2, -⟩ := read_fin b hb
  have h0 : Ieee.single.mul a b = ((Ieee.single.read a).product (Ieee.single.read b)).map Ieee.single.write := rfl
  rw [e1, e2] at h0
  simp only [Ieee.Datum.product, Option.map_some] at h0
  have hf : fmul a b = Ieee.single.write (.number (sn a ^^ sn b) (m * n) (-149 + (k : Int) + (-149 + (l : Int)))) := by
    unfold fmul; rw [h0]; rfl
  rw [nearest_word] at hf
  have hnr := rg_near Ieee.single (by decide) (m * n) (-149 + (k : Int) + (-149 + (l : Int))) 149 (by show (-149 : Int) ≤ _; omega)
  have e5 : (-149 + (k : Int) + (-149 + (l : Int)) - Ieee.single.leastPlace + (149 : Nat)).toNat = k + l := by
    rw [show Ieee.single.leastPlace = -149 from rfl]; omega
  rw [e5, Nat.pow_add, Nat.mul_assoc, ← Nat.mul_assoc n, Nat.mul_comm n, Nat.mul_assoc (2 ^ k), ← Nat.mul_assoc m, v1, v2] at hnr
  exact ⟨_, hf, hnr⟩
theorem fof_near (n : Int) : ∃ r, fof n = Ieee.single.word (decide (n < 0)) (min r 2139095040) ∧ Near 8388608 0 (n.natAbs * 2 ^ 149) r := by
  have hnr := rg_near Ieee.single (by decide) n.natAbs 0 0 (by show (-149 : Int) ≤ _; omega)
  have e5 : ((0 : Int) - Ieee.single.leastPlace + (0 : Nat)).toNat = 149 := rfl
  rw [e5] at hnr
  exact ⟨_, nearest_word _ _ _, hnr⟩
/-- small whole numbers times a power are rungs -/
theorem rung_of (m k : Nat) (hm : m ≤ 16777216) (hk : 23 ≤ k) (hk2 : k ≤ 200) : ∃ r, vl 8388608 r = m * 2 ^ k ∧ r < 2139095040 := by
  by_cases h0 : m = 0
  · exact ⟨0, by subst h0; simp [vl], by decide⟩
  have hlt : m < 2 ^ (m.log2 + 1) := Nat.lt_log2_self
  have hge : 2 ^ m.log2 ≤ m := Nat.log2_self_le h0
  have hL := log_lt (n := m) (k := 25) (by decide) (by omega)
  generalize m.log2 = L at *
  by_cases h1 : L ≤ 23
  · obtain ⟨j, hj⟩ : ∃ j, j = 23 - L := ⟨_, rfl⟩
    have e1 : (8388608 : Nat) ≤ m * 2 ^ j := by
      have : 2 ^ (L + j) ≤ m * 2 ^ j := by rw [Nat.pow_add]; exact Nat.mul_le_mul_right _ hge
      rw [show L + j = 23 by omega] at this; exact this
    have e2 : m * 2 ^ j < 2 * 8388608 := by
      have : m * 2 ^ j < 2 ^ (L + 1 + j) := by rw [Nat.pow_add]; exact Nat.mul_lt_mul_of_pos_right hlt (Nat.two_pow_pos _)
      rw [show L + 1 + j = 24 by omega] at this; exact this
    refine ⟨(k - j) * 8388608 + m * 2 ^ j, ?_, by omega⟩
    rw [vl_at 8388608 (by decide) (k - j) (m * 2 ^ j) (Or.inr e1) (by omega), Nat.mul_assoc, ← Nat.pow_add]
    congr 2; omega
  · have hL24 : L = 24 := by omega
    subst hL24
    have : m = 16777216 := by omega
    subst this
    refine ⟨k * 8388608 + 2 * 8388608, ?_, by omega⟩
    rw [vl_at 8388608 (by decide) k (2 * 8388608) (Or.inr (by omega)) (by omega)]
/-- a whole number of at most 2^24 in size is exact -/
theorem fof_exact (n : Int) (hn : n.natAbs ≤ 16777216) : ∃ r, fof n = Ieee.single.word (decide (n < 0)) r ∧ val r = n.natAbs * 2 ^ 149 ∧ r < 2139095040 := by
  obtain ⟨r, e, hr⟩ := fof_near n
  obtain ⟨r0, v0, l0⟩ := rung_of n.natAbs 149 hn (by omega) (by omega)
  have := near_self 8388608 0 r0 (by decide)
  rw [Nat.pow_zero, Nat.mul_one, v0] at this
  have := hr.unique (by decide) this
  subst this
  exact ⟨r, by rw [e, Nat.min_eq_left (Nat.le_of_lt l0)], v0, l0⟩
theorem word_facts (neg : Bool) (r : Nat) (h : r < 2147483648) : Ieee.single.word neg r < 4294967296 ∧ Ieee.single.word neg r % 2147483648 = r ∧ sn (Ieee.single.word neg r) = neg ∧ sval (Ieee.single.word neg r) = if neg then -((val r : Nat) : Int) else ((val r : Nat) : Int) := by
  have hm := word_mod neg r h
  have hs : sn (Ieee.single.word neg r) = neg := by
    have e1 : Ieee.single.signWeight = 2147483648 := rfl
    unfold sn Ieee.Format.word
    rw [e1]
    cases neg
    · simp only [Bool.false_eq_true, if_false]; rw [show r / 2147483648 % 2 = 0 by omega]; rfl
    · simp only [if_true]; rw [show (2147483648 + r) / 2147483648 % 2 = 1 by omega]; rfl
  refine ⟨?_, hm, hs, ?_⟩
  · have e1 : Ieee.single.signWeight = 2147483648 := rfl
    unfold Ieee.Format.word
    rw [e1]
    split <;> omega
  · unfold sval
    rw [hm]
    have : (Ieee.single.word neg r / 2147483648 % 2 == 1) = neg := hs
    rw [this]
theorem cutz_eq (neg : Bool) (n drop : Nat) : Ieee.Toward.zero.cut neg n drop = n / 2 ^ drop := by
  unfold Ieee.Toward.cut
  dsimp only
  rw [Nat.shiftLeft_eq, Nat.one_mul]
  by_cases h : drop ≤ n.log2 + 2
  · rw [Nat.min_eq_left h]; rfl
  · rw [Nat.min_eq_right (by omega)]
    have h1 : n < 2 ^ (n.log2 + 2) := Nat.lt_of_lt_of_le Nat.lt_log2_self (Nat.pow_le_pow_right (by decide) (by omega))
    have h3 : 2 ^ (n.log2 + 2) ≤ 2 ^ drop := Nat.pow_le_pow_right (by decide) (by omega)
    rw [Nat.div_eq_of_lt h1, Nat.div_eq_of_lt (by omega)]; rfl
theorem fof_lt (n : Int) : fof n < 4294967296 := write_lt32 _
end Go.Proofs.Ythaipahaaajgoaa
