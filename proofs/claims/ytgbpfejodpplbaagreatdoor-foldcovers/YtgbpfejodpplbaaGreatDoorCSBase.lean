import Derived.Test.YtgbpfejodpplbaaGreatDoorRows
import Derived.WalkKit
import Derived.WalkLawsBesides
import Derived.Laws.BitsAllLaws
import Derived.Laws.Externs
import Derived.Deep.QuietTactic
import Derived.BigQuiet
import Derived.WalkSmall
namespace Go.Proofs.YtgbpfejodpplbaaGreatDoor
open Go.RowKit
set_option maxRecDepth 100000

@[go_sem] theorem call_from32 (n : Int) (w : World) : (callFunc 123 #[.int .u32 n]).run Tryz.prog w = .ok (.value (.float .f32 n.toNat)) w := by
  rw [run_callFunc_extern (e := Extern.MathFloatBits.float32frombits) Tryz.func123 (by kernel_rfl) (by kernel_rfl) (by kernel_rfl) (by kernel_rfl)]
  rfl
@[go_sem] theorem call_bits32 (n : Nat) (w : World) : (callFunc 124 #[.float .f32 n]).run Tryz.prog w = .ok (.value (.int .u32 n)) w := by
  rw [run_callFunc_extern (e := Extern.MathFloatBits.float32bits) Tryz.func124 (by kernel_rfl) (by kernel_rfl) (by kernel_rfl) (by kernel_rfl)]
  rfl

/-! words: the bits -/
theorem b_and (a : Nat) (h : a < 4294967296) : bits .and .u32 (a : Int) 2147483647 = ((a % 2147483648 : Nat) : Int) := by
  have := u32_and_nat a 2147483647 h (by omega)
  rw [show a &&& 2147483647 = a % 2147483648 from Nat.and_two_pow_sub_one_eq_mod a 31] at this
  exact this
theorem b_andNot (a : Nat) (h : a < 4294967296) : bits .andNot .u32 (a : Int) 2147483648 = ((a % 2147483648 : Nat) : Int) := by
  have := u32_andNot_nat a 2147483648 h (by omega)
  rw [show a &&& (4294967295 - 2147483648) = a % 2147483648 from Nat.and_two_pow_sub_one_eq_mod a 31] at this
  exact this
theorem b_andNot' (a : Nat) (h : a < 4294967296) : bits .andNot .u32 (a : Int) 2147483647 = ((a / 2147483648 * 2147483648 : Nat) : Int) := by
  have := u32_andNot_nat a 2147483647 h (by omega)
  rw [show a &&& (4294967295 - 2147483647) = a / 2147483648 % 2 * 2147483648 from nat_bit 31 a, show a / 2147483648 % 2 = a / 2147483648 by omega] at this
  exact this
theorem b_sign (a : Nat) (h : a < 4294967296) : bits .and .u32 (a : Int) 2147483648 = ((a / 2147483648 * 2147483648 : Nat) : Int) := by
  have := u32_and_nat a 2147483648 h (by omega)
  rw [show a &&& 2147483648 = a / 2147483648 % 2 * 2147483648 from nat_bit 31 a, show a / 2147483648 % 2 = a / 2147483648 by omega] at this
  exact this
/-- a word with its sign turned -/
def tn (a : Nat) : Nat := if a < 2147483648 then a + 2147483648 else a - 2147483648
theorem tn_lt {a : Nat} (h : a < 4294967296) : tn a < 4294967296 := by unfold tn; split <;> omega
theorem b_xor (a : Nat) (h : a < 4294967296) : bits .xor .u32 (a : Int) 2147483648 = ((tn a : Nat) : Int) := by
  have := u32_xor_nat a 2147483648 h (by omega)
  rw [show a ^^^ 2147483648 = tn a from ?_] at this
  · exact this
  have e1 : (a ^^^ 2147483648) % 2 ^ 31 = a % 2 ^ 31 := by
    rw [show 2147483648 = 2 ^ 31 by decide, Nat.xor_mod_two_pow]; simp
  have e2 : (a ^^^ 2147483648) / 2 ^ 31 = (a / 2 ^ 31) ^^^ 1 := by
    rw [show 2147483648 = 2 ^ 31 by decide, ← Nat.shiftRight_eq_div_pow, ← Nat.shiftRight_eq_div_pow, Nat.shiftRight_xor_distrib]; rfl
  have e3 : (a / 2 ^ 31) ^^^ 1 = if a < 2147483648 then 1 else 0 := by
    have : a / 2 ^ 31 = 0 ∨ a / 2 ^ 31 = 1 := by omega
    rcases this with h | h <;> rw [h] <;> split <;> first | rfl | omega
  rw [e3] at e2
  unfold tn
  split <;> rename_i h' <;> simp only [h', if_true, if_false] at e2 <;> omega
theorem b_or (a : Nat) (h : a < 2147483648) : bits .or .u32 (a : Int) 2147483648 = ((a + 2147483648 : Nat) : Int) := by
  have := u32_or_nat a 2147483648 (by omega) (by omega)
  rw [show a ||| 2147483648 = a + 2147483648 from ?_] at this
  · exact this
  rw [Nat.or_comm, nat_join 31 2147483648 a (by decide) (by omega)]; omega

theorem number_any (a : Nat) (w : World) :
    Calls Tryz.prog 121 #[.int .u32 a] w fun e w' => e = .returned (.float .f32 a) ∧ w' = w := by
  go_enter Tryz.func121, Tryz.ntmps121
  go_wp2
  go_ret
  exact ⟨rfl, rfl⟩
/-- is it a number? -/
def ok (x : Nat) : Bool := decide (x % 2147483648 ≤ 2139095040)
theorem read_single (x : Nat) : Ieee.single.read x = if x % 2147483648 < 8388608 then .number (x / 2147483648 % 2 == 1) (x % 2147483648) (-149)
    else if x % 2147483648 < 2139095040 then .number (x / 2147483648 % 2 == 1) (8388608 + x % 2147483648 % 8388608) (-149 + (x % 2147483648 / 8388608 - 1 : Nat))
    else if x % 2147483648 = 2139095040 then .infinity (x / 2147483648 % 2 == 1) else .nan (x / 2147483648 % 2 == 1) (x % 2147483648 - 2139095040) := rfl
theorem order_refl (d : Ieee.Datum) : d.order d = if d.isNaN then none else some .eq := by
  cases d <;> simp [Ieee.Datum.order, Ieee.Datum.isNaN, compare, compareOfLessAndEq]
theorem nan_single (x : Nat) : (Ieee.single.read x).isNaN = !ok x := by
  rw [read_single]; unfold ok
  split
  · rw [decide_eq_true (by omega)]; rfl
  · split
    · rw [decide_eq_true (by omega)]; rfl
    · split
      · rw [decide_eq_true (by omega)]; rfl
      · rw [decide_eq_false (by omega)]; rfl
theorem order_self (x : Nat) : Ieee.single.order x x = if ok x then some .eq else none := by
  show (Ieee.single.read x).order (Ieee.single.read x) = _
  rw [order_refl, nan_single]; cases ok x <;> rfl
/-- the word of a float -/
def wd (x : Nat) : Nat := if ok x then x else 2143289344
theorem sword_any (x : Nat) (w : World) :
    Calls Tryz.prog 122 #[.float .f32 x] w fun e w' => e = .returned (.int .u32 (wd x)) ∧ w' = w := by
  have ho := order_self x
  by_cases h : ok x = true
  · rw [if_pos h] at ho
    have hb : (FloatKind.f32.format.order x x != some .eq) = false := by show (Ieee.single.order x x != some .eq) = false; rw [ho]; rfl
    have hw : wd x = x := by simp [wd, h]
    rw [hw]
    clear hw ho
    go_enter Tryz.func122, Tryz.ntmps122
    go_wp2
    go_ret
    exact ⟨rfl, rfl⟩
  · rw [if_neg h] at ho
    have hb : (FloatKind.f32.format.order x x != some .eq) = true := by show (Ieee.single.order x x != some .eq) = true; rw [ho]; rfl
    have hw : wd x = 2143289344 := by simp [wd, h]
    rw [hw]
    clear hw ho
    go_enter Tryz.func122, Tryz.ntmps122
    go_wp2
    go_ret
    exact ⟨rfl, rfl⟩

theorem turned_any (a : Nat) (w : World) (h : a < 4294967296) :
    Calls Tryz.prog 112 #[.int .u32 a] w fun e w' => e = .returned (.int .u32 (tn a)) ∧ w' = w := by
  have hb := b_xor a h
  go_enter Tryz.func112, Tryz.ntmps112
  go_wp2
  go_ret
  exact ⟨rfl, rfl⟩

/-- a word, of no number the one NaN -/
def on (a : Nat) : Nat := if ok a then a else 2143289344
def nanOf (k : FloatKind) (x y : Nat) (w : World) : Nat := Question.cut (.nanBits k x y) (w.tape w.drawn (.nanBits k x y))
theorem run_float_none {P : Program} (op : BinOp) (t : TypeId) (k : FloatKind) (x y : Nat) (w : World) (ho : op = .add ∨ op = .sub ∨ op = .mul ∨ op = .quo) (h : floatBits op k x y = none) :
    (binOp op t (.float k x) (.float k y)).run P w = .ok (.float k (nanOf k x y w)) w.drew := by
  have hf : (Question.nanBits k x y).forced = false := rfl
  rcases ho with rfl | rfl | rfl | rfl <;> simp only [floatBits] at h <;> simp [binOp, Op.floatArith, h, nanOf, hf]
def nan32 (t : Nat) : Nat := (t % 2) * 2 ^ 31 + 0x7f800000 + 1 + (t / 2) % (2 ^ 23 - 1)
theorem nan32_not (t : Nat) : ok (nan32 t) = false := by
  unfold ok nan32
  apply decide_eq_false
  have : (t / 2) % (2 ^ 23 - 1) < 2 ^ 23 - 1 := Nat.mod_lt _ (by decide)
  generalize (t / 2) % (2 ^ 23 - 1) = u at this
  have : t % 2 = 0 ∨ t % 2 = 1 := by omega
  rcases this with h | h <;> rw [h] <;> omega
theorem nanOf_wd (x y : Nat) (w : World) : wd (nanOf .f32 x y w) = 2143289344 := by
  have : ok (nanOf .f32 x y w) = false := nan32_not _
  simp [wd, this]
end Go.Proofs.YtgbpfejodpplbaaGreatDoor
namespace Go.Proofs.YtgbpfejodpplbaaGreatDoor
open Go.RowKit
set_option maxRecDepth 100000

theorem word_ok (neg : Bool) (r : Nat) (h : r ≤ 2139095040) : ok (Ieee.single.word neg r) = true := by
  unfold ok Ieee.Format.word
  have e1 : Ieee.single.signWeight = 2147483648 := rfl
  rw [e1]
  apply decide_eq_true
  split <;> omega
theorem write_ok (d : Ieee.Datum) (h : d.isNaN = false) : ok (Ieee.single.write d) = true := by
  have e3 : Ieee.single.infRung = 2139095040 := rfl
  cases d with
  | number neg mag place =>
    show ok (Ieee.single.nearest neg mag place) = true
    unfold Ieee.Format.nearest
    split
    · exact word_ok _ _ (by omega)
    · exact word_ok _ _ (Nat.le_trans (Nat.min_le_right _ _) (Nat.le_of_eq e3))
  | infinity neg => exact word_ok _ _ (Nat.le_of_eq e3)
  | nan neg fr => simp [Ieee.Datum.isNaN] at h
theorem sum_not_nan {d e r : Ieee.Datum} (h : d.sum e = some r) : r.isNaN = false := by
  unfold Ieee.Datum.sum at h
  split at h <;> first | (cases h; done) | (split at h <;> first | (cases h; done) | (cases h; rfl)) | (cases h; rfl)
theorem product_not_nan {d e r : Ieee.Datum} (h : d.product e = some r) : r.isNaN = false := by
  unfold Ieee.Datum.product at h
  split at h <;> first | (cases h; done) | (split at h <;> first | (cases h; done) | (cases h; rfl)) | (cases h; rfl)
theorem quotient_not_nan {n : Nat} {d e r : Ieee.Datum} (h : d.quotient n e = some r) : r.isNaN = false := by
  unfold Ieee.Datum.quotient at h
  split at h <;> first | (cases h; done) | (split at h <;> first | (cases h; done) | (split at h <;> first | (cases h; done) | (cases h; rfl)) | (cases h; rfl)) | (cases h; rfl)
theorem add_ok {a b r : Nat} (h : Ieee.single.add a b = some r) : ok r = true := by
  unfold Ieee.Format.add at h
  cases e : (Ieee.single.read a).sum (Ieee.single.read b) with
  | none => rw [e] at h; cases h
  | some d => rw [e] at h; cases h; exact write_ok _ (sum_not_nan e)
theorem mul_ok {a b r : Nat} (h : Ieee.single.mul a b = some r) : ok r = true := by
  unfold Ieee.Format.mul at h
  cases e : (Ieee.single.read a).product (Ieee.single.read b) with
  | none => rw [e] at h; cases h
  | some d => rw [e] at h; cases h; exact write_ok _ (product_not_nan e)
theorem div_ok {a b r : Nat} (h : Ieee.single.div a b = some r) : ok r = true := by
  unfold Ieee.Format.div at h
  cases e : (Ieee.single.read a).quotient (Ieee.single.fractionBits + 2) (Ieee.single.read b) with
  | none => rw [e] at h; cases h
  | some d => rw [e] at h; cases h; exact write_ok _ (quotient_not_nan e)

def fsum (a b : Nat) : Nat := (Ieee.single.add a b).getD 2143289344
def fmul (a b : Nat) : Nat := (Ieee.single.mul a b).getD 2143289344
def fdiv (a b : Nat) : Nat := (Ieee.single.div a b).getD 2143289344

theorem sum_any (a b : Nat) (w : World) :
    Calls Tryz.prog 117 #[.int .u32 a, .int .u32 b] w fun e w' => e = .returned (.int .u32 (fsum a b)) ∧ ∃ m, w' = w.drewN m := by
  cases h : Ieee.single.add a b with
  | some r =>
    have e1 : fsum a b = r := by simp [fsum, h]
    have hl := fun (w : World) => run_float_arith (P := Tryz.prog) w .add 205 .f32 a b r h
    have e2 : wd r = r := by simp [wd, add_ok h]
    rw [e1]
    clear e1
    go_enter Tryz.func117, Tryz.ntmps117
    go_wp2_with (first
      | (go_at_call 121; refine (number_any _ _).mono ?_; rintro e wq ⟨rfl, hq⟩; subst wq)
      | (go_at_call 122; refine (sword_any _ _).mono ?_; rintro e wq ⟨rfl, hq⟩; subst wq))
    go_ret
    exact ⟨by rw [← e2]; rfl, 0, rfl⟩
  | none =>
    have e1 : fsum a b = 2143289344 := by simp [fsum, h]
    have hl := fun (w : World) => run_float_none (P := Tryz.prog) .add 205 .f32 a b w (Or.inl rfl) h
    have e2 := nanOf_wd a b w
    rw [e1]
    clear e1
    go_enter Tryz.func117, Tryz.ntmps117
    go_wp2_with (first
      | (go_at_call 121; refine (number_any _ _).mono ?_; rintro e wq ⟨rfl, hq⟩; subst wq)
      | (go_at_call 122; refine (sword_any _ _).mono ?_; rintro e wq ⟨rfl, hq⟩; subst wq))
    go_ret
    exact ⟨rfl, 1, rfl⟩
theorem prod_any (a b : Nat) (w : World) :
    Calls Tryz.prog 119 #[.int .u32 a, .int .u32 b] w fun e w' => e = .returned (.int .u32 (fmul a b)) ∧ ∃ m, w' = w.drewN m := by
  cases h : Ieee.single.mul a b with
  | some r =>
    have e1 : fmul a b = r := by simp [fmul, h]
    have hl := fun (w : World) => run_float_arith (P := Tryz.prog) w .mul 205 .f32 a b r h
    have e2 : wd r = r := by simp [wd, mul_ok h]
    rw [e1]
    clear e1
    go_enter Tryz.func119, Tryz.ntmps119
    go_wp2_with (first
      | (go_at_call 121; refine (number_any _ _).mono ?_; rintro e wq ⟨rfl, hq⟩; subst wq)
      | (go_at_call 122; refine (sword_any _ _).mono ?_; rintro e wq ⟨rfl, hq⟩; subst wq))
    go_ret
    exact ⟨by rw [← e2]; rfl, 0, rfl⟩
  | none =>
    have e1 : fmul a b = 2143289344 := by simp [fmul, h]
    have hl := fun (w : World) => run_float_none (P := Tryz.prog) .mul 205 .f32 a b w (Or.inr (Or.inr (Or.inl rfl))) h
    have e2 := nanOf_wd a b w
    rw [e1]
    clear e1
    go_enter Tryz.func119, Tryz.ntmps119
    go_wp2_with (first
      | (go_at_call 121; refine (number_any _ _).mono ?_; rintro e wq ⟨rfl, hq⟩; subst wq)
      | (go_at_call 122; refine (sword_any _ _).mono ?_; rintro e wq ⟨rfl, hq⟩; subst wq))
    go_ret
    exact ⟨rfl, 1, rfl⟩
theorem ratio_any (a b : Nat) (w : World) :
    Calls Tryz.prog 120 #[.int .u32 a, .int .u32 b] w fun e w' => e = .returned (.int .u32 (fdiv a b)) ∧ ∃ m, w' = w.drewN m := by
  cases h : Ieee.single.div a b with
  | some r =>
    have e1 : fdiv a b = r := by simp [fdiv, h]
    have hl := fun (w : World) => run_float_arith (P := Tryz.prog) w .quo 205 .f32 a b r h
    have e2 : wd r = r := by simp [wd, div_ok h]
    rw [e1]
    clear e1
    go_enter Tryz.func120, Tryz.ntmps120
    go_wp2_with (first
      | (go_at_call 121; refine (number_any _ _).mono ?_; rintro e wq ⟨rfl, hq⟩; subst wq)
      | (go_at_call 122; refine (sword_any _ _).mono ?_; rintro e wq ⟨rfl, hq⟩; subst wq))
    go_ret
    exact ⟨by rw [← e2]; rfl, 0, rfl⟩
  | none =>
    have e1 : fdiv a b = 2143289344 := by simp [fdiv, h]
    have hl := fun (w : World) => run_float_none (P := Tryz.prog) .quo 205 .f32 a b w (Or.inr (Or.inr (Or.inr rfl))) h
    have e2 := nanOf_wd a b w
    rw [e1]
    clear e1
    go_enter Tryz.func120, Tryz.ntmps120
    go_wp2_with (first
      | (go_at_call 121; refine (number_any _ _).mono ?_; rintro e wq ⟨rfl, hq⟩; subst wq)
      | (go_at_call 122; refine (sword_any _ _).mono ?_; rintro e wq ⟨rfl, hq⟩; subst wq))
    go_ret
    exact ⟨rfl, 1, rfl⟩
end Go.Proofs.YtgbpfejodpplbaaGreatDoor
namespace Go.Proofs.YtgbpfejodpplbaaGreatDoor
open Go.RowKit
set_option maxRecDepth 100000

def fstand (a b : Nat) : Nat := match Ieee.single.order a b with
  | some .lt => 2
  | some .eq => 3
  | some .gt => 4
  | none => 1
theorem stand_any (a b : Nat) (w : World) :
    Calls Tryz.prog 111 #[.int .u32 a, .int .u32 b] w fun e w' => e = .returned (.int .u8 (fstand a b)) ∧ w' = w := by
  have e0 : FloatKind.f32.format.order a b = Ieee.single.order a b := rfl
  unfold fstand
  cases h : Ieee.single.order a b with
  | none =>
    have h1 : (FloatKind.f32.format.order a b == some .lt) = false := by rw [e0, h]; rfl
    have h2 : (FloatKind.f32.format.order a b == some .eq) = false := by rw [e0, h]; rfl
    have h3 : (FloatKind.f32.format.order a b == some .gt) = false := by rw [e0, h]; rfl
    clear e0 h
    go_enter Tryz.func111, Tryz.ntmps111
    go_wp2_with (go_at_call 121; refine (number_any _ _).mono ?_; rintro e wq ⟨rfl, hq⟩; subst wq)
    go_ret
    exact ⟨rfl, rfl⟩
  | some o =>
    cases o with
    | lt =>
      have h1 : (FloatKind.f32.format.order a b == some .lt) = true := by rw [e0, h]; rfl
      clear e0 h
      go_enter Tryz.func111, Tryz.ntmps111
      go_wp2_with (go_at_call 121; refine (number_any _ _).mono ?_; rintro e wq ⟨rfl, hq⟩; subst wq)
      go_ret
      exact ⟨rfl, rfl⟩
    | eq =>
      have h1 : (FloatKind.f32.format.order a b == some .lt) = false := by rw [e0, h]; rfl
      have h2 : (FloatKind.f32.format.order a b == some .eq) = true := by rw [e0, h]; rfl
      clear e0 h
      go_enter Tryz.func111, Tryz.ntmps111
      go_wp2_with (go_at_call 121; refine (number_any _ _).mono ?_; rintro e wq ⟨rfl, hq⟩; subst wq)
      go_ret
      exact ⟨rfl, rfl⟩
    | gt =>
      have h1 : (FloatKind.f32.format.order a b == some .lt) = false := by rw [e0, h]; rfl
      have h2 : (FloatKind.f32.format.order a b == some .eq) = false := by rw [e0, h]; rfl
      have h3 : (FloatKind.f32.format.order a b == some .gt) = true := by rw [e0, h]; rfl
      clear e0 h
      go_enter Tryz.func111, Tryz.ntmps111
      go_wp2_with (go_at_call 121; refine (number_any _ _).mono ?_; rintro e wq ⟨rfl, hq⟩; subst wq)
      go_ret
      exact ⟨rfl, rfl⟩

/-- the next above -/
def fab (a : Nat) : Nat := if ok a = false then 2143289344 else if a % 2147483648 = 0 then 1 else if a = 2139095040 then 2139095040 else if 2147483648 ≤ a then a - 1 else a + 1
theorem fab_lt {a : Nat} (h : a < 4294967296) : fab a < 4294967296 := by
  unfold fab; split
  · omega
  · split
    · omega
    · split
      · omega
      · split <;> omega
def fbe (a : Nat) : Nat := if ok a = false then 2143289344 else tn (fab (tn a))
end Go.Proofs.YtgbpfejodpplbaaGreatDoor
namespace Go.Proofs.YtgbpfejodpplbaaGreatDoor
open Go.RowKit
set_option maxRecDepth 100000

def nanTo (k : FloatKind) (b : Nat) (w : World) : Nat := Question.cut (.nanConv k b) (w.tape w.drawn (.nanConv k b))
theorem run_conv_nan {P : Program} (src dst : TypeId) (s k : FloatKind) (b : Nat) (w : World) (hs : (P.underlying src).isSome = true) (hd : P.underlying dst = some (.float k)) (hne : s ≠ k) (h : (s.decode b).isNaN = true) :
    (convert src dst (.float s b)).run P w = .ok (.float k (nanTo k b w)) w.drew := by
  obtain ⟨u, hs'⟩ := Option.isSome_iff_exists.1 hs
  have hf : (Question.nanConv k b).forced = false := rfl
  cases hc : s.decode b with
  | number a c d => rw [hc] at h; simp [Ieee.Datum.isNaN] at h
  | infinity a => rw [hc] at h; simp [Ieee.Datum.isNaN] at h
  | nan a c => cases u <;> simp [convert, run_underlying hs', run_underlying hd, Conv.floatToFloat, hne, hc, nanTo, hf]

theorem nanTo32 (b : Nat) (w : World) : wd (nanTo .f32 b w) = 2143289344 := by
  have : ok (nanTo .f32 b w) = false := nan32_not _
  simp [wd, this]
def nan64 (t : Nat) : Nat := (t % 2) * 2 ^ 63 + 0x7ff0000000000000 + 1 + (t / 2) % (2 ^ 52 - 1)
theorem read_double (x : Nat) : Ieee.double.read x = if x % 9223372036854775808 < 4503599627370496 then .number (x / 9223372036854775808 % 2 == 1) (x % 9223372036854775808) (-1074)
    else if x % 9223372036854775808 < 9218868437227405312 then .number (x / 9223372036854775808 % 2 == 1) (4503599627370496 + x % 9223372036854775808 % 4503599627370496) (-1074 + (x % 9223372036854775808 / 4503599627370496 - 1 : Nat))
    else if x % 9223372036854775808 = 9218868437227405312 then .infinity (x / 9223372036854775808 % 2 == 1) else .nan (x / 9223372036854775808 % 2 == 1) (x % 9223372036854775808 - 9218868437227405312) := rfl
theorem nan_double (x : Nat) (h : 9218868437227405312 < x % 9223372036854775808) : (Ieee.double.read x).isNaN = true := by
  rw [read_double, if_neg (by omega), if_neg (by omega), if_neg (by omega)]; rfl
theorem nan64_nan (t : Nat) : (Ieee.double.read (nan64 t)).isNaN = true := by
  apply nan_double
  unfold nan64
  have : (t / 2) % (2 ^ 52 - 1) < 2 ^ 52 - 1 := Nat.mod_lt _ (by decide)
  generalize (t / 2) % (2 ^ 52 - 1) = u at this
  have : t % 2 = 0 ∨ t % 2 = 1 := by omega
  rcases this with h | h <;> rw [h] <;> omega
theorem nanOf64 (x y : Nat) (w : World) : (FloatKind.f64.decode (nanOf .f64 x y w)).isNaN = true := nan64_nan _
theorem nanTo64 (b : Nat) (w : World) : (FloatKind.f64.decode (nanTo .f64 b w)).isNaN = true := nan64_nan _
theorem word_ok64 (neg : Bool) (r : Nat) (h : r ≤ 9218868437227405312) : (Ieee.double.read (Ieee.double.word neg r)).isNaN = false := by
  have e1 : Ieee.double.signWeight = 9223372036854775808 := rfl
  have e2 : Ieee.double.word neg r % 9223372036854775808 = r := by
    unfold Ieee.Format.word; rw [e1]; split <;> omega
  rw [read_double, e2]
  split
  · rfl
  · split
    · rfl
    · rw [if_pos (by omega)]; rfl
theorem write_ok64 (d : Ieee.Datum) (h : d.isNaN = false) : (Ieee.double.read (Ieee.double.write d)).isNaN = false := by
  have e3 : Ieee.double.infRung = 9218868437227405312 := rfl
  cases d with
  | number neg mag place =>
    show (Ieee.double.read (Ieee.double.nearest neg mag place)).isNaN = false
    unfold Ieee.Format.nearest
    split
    · exact word_ok64 _ _ (by omega)
    · exact word_ok64 _ _ (Nat.le_trans (Nat.min_le_right _ _) (Nat.le_of_eq e3))
  | infinity neg => exact word_ok64 _ _ (Nat.le_of_eq e3)
  | nan neg fr => simp [Ieee.Datum.isNaN] at h
theorem sqrt_nan (x : Nat) (h : (Ieee.double.read x).isNaN = true) : Ieee.double.sqrt x = none := by
  unfold Ieee.Format.sqrt
  cases e : Ieee.double.read x with
  | number a b c => rw [e] at h; simp [Ieee.Datum.isNaN] at h
  | infinity a => rw [e] at h; simp [Ieee.Datum.isNaN] at h
  | nan a b => rfl

/-- a word made wide -/
def wide (a : Nat) : Nat := Ieee.double.write (Ieee.single.read a)
/-- 64 bits made narrow -/
def narrow (b : Nat) : Nat := Ieee.single.write (Ieee.double.read b)
/-- what is too great is told apart -/
def wfine (a : Nat) : Bool := match Ieee.single.read a with
  | .number .. => !(Ieee.double.read (wide a)).isInfinity
  | _ => true
def nfine (b : Nat) : Bool := match Ieee.double.read b with
  | .number .. => !(Ieee.single.read (narrow b)).isInfinity
  | _ => true
theorem wide_bits (a : Nat) (ho : ok a = true) (hf : wfine a = true) : floatToFloatBits .f32 a .f64 = some (wide a) := by
  have hn := nan_single a
  unfold floatToFloatBits
  rw [if_neg (by decide)]
  unfold wfine at hf
  unfold wide at hf ⊢
  show (match Ieee.single.read a with | .nan _ _ => none | .infinity s => some (Ieee.double.write (.infinity s)) | .number s m e => if (Ieee.double.read (Ieee.double.write (.number s m e))).isInfinity then none else some (Ieee.double.write (.number s m e))) = _
  cases e : Ieee.single.read a with
  | number s m p => rw [e] at hf; simp only [Bool.not_eq_true'] at hf; simp [hf]
  | infinity s => rfl
  | nan s f => rw [e, ho] at hn; simp [Ieee.Datum.isNaN] at hn
theorem narrow_bits (b : Nat) (ho : (Ieee.double.read b).isNaN = false) (hf : nfine b = true) : floatToFloatBits .f64 b .f32 = some (narrow b) := by
  unfold floatToFloatBits
  rw [if_neg (by decide)]
  unfold nfine at hf
  unfold narrow at hf ⊢
  show (match Ieee.double.read b with | .nan _ _ => none | .infinity s => some (Ieee.single.write (.infinity s)) | .number s m e => if (Ieee.single.read (Ieee.single.write (.number s m e))).isInfinity then none else some (Ieee.single.write (.number s m e))) = _
  cases e : Ieee.double.read b with
  | number s m p => rw [e] at hf; simp only [Bool.not_eq_true'] at hf; simp [hf]
  | infinity s => rfl
  | nan s f => rw [e] at ho; simp [Ieee.Datum.isNaN] at ho

/-- the root -/
def froot (a : Nat) : Nat := if ok a = true then (match Ieee.double.sqrt (wide a) with | none => 2143289344 | some r => narrow r) else 2143289344
def rfine (a : Nat) : Bool := wfine a && (match Ieee.double.sqrt (wide a) with | none => true | some r => nfine r)
theorem root_not_nan {n : Nat} {d r : Ieee.Datum} (h : d.root n = some r) : r.isNaN = false := by
  unfold Ieee.Datum.root at h
  split at h
  · cases h
  · split at h
    · cases h
    · cases h; rfl
  · split at h
    · cases h; rfl
    · split at h
      · cases h
      · cases h; rfl
end Go.Proofs.YtgbpfejodpplbaaGreatDoor
