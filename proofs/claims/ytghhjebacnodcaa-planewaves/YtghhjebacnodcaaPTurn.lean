import Derived.Test.YtghhjebacnodcaaPSame
namespace Go.Proofs.Ytghhjebacnodcaa
open Go.RowKit
theorem i64_and3 (n : Int) : bits .and .i64 n 3 = n % 4 := by
  show IntKind.i64.wrap ((BitVec.ofInt 64 n &&& BitVec.ofInt 64 3).toNat : Int) = n % 4
  rw [BitVec.toNat_and, show (BitVec.ofInt 64 3).toNat = 2 ^ 2 - 1 from by decide, Nat.and_two_pow_sub_one_eq_mod, BitVec.toNat_ofInt]
  have h : ((n % (2 ^ 64 : Nat)).toNat % 2 ^ 2 : Nat) = (n % 4).toNat := by omega
  rw [h]
  have : IntKind.i64.wrap ((n % 4).toNat : Int) = ((n % 4).toNat : Int) := by
    simp [IntKind.wrap, IntKind.bits, IntKind.signed]; omega
  rw [this]; omega
abbrev ng (x : Nat) : Nat := Op.negFloat .f64 x
theorem ng_eq (x : Nat) (h : x < 18446744073709551616) : ng x = if x < 9223372036854775808 then x + 9223372036854775808 else x - 9223372036854775808 := by
  show x ^^^ 9223372036854775808 = _
  have e1 : (x ^^^ 9223372036854775808) % 2 ^ 63 = x % 2 ^ 63 := by
    rw [show 9223372036854775808 = 2 ^ 63 by decide, Nat.xor_mod_two_pow]; simp
  have e2 : (x ^^^ 9223372036854775808) / 2 ^ 63 = (x / 2 ^ 63) ^^^ 1 := by
    rw [show 9223372036854775808 = 2 ^ 63 by decide, ← Nat.shiftRight_eq_div_pow, ← Nat.shiftRight_eq_div_pow, Nat.shiftRight_xor_distrib]; rfl
  have e3 : (x / 2 ^ 63) ^^^ 1 = if x < 9223372036854775808 then 1 else 0 := by
    have : x / 2 ^ 63 = 0 ∨ x / 2 ^ 63 = 1 := by omega
    rcases this with h | h <;> rw [h] <;> split <;> first | rfl | omega
  rw [e3] at e2
  split <;> rename_i h' <;> simp only [h', if_true, if_false] at e2 <;> omega
theorem ng_lt {x : Nat} (h : x < 18446744073709551616) : ng x < 18446744073709551616 := by rw [ng_eq x h]; split <;> omega
theorem ng_ng {x : Nat} (h : x < 18446744073709551616) : ng (ng x) = x := by
  rw [ng_eq _ (ng_lt h), ng_eq x h]; split <;> split <;> omega
/-- turned by quarters -/
def tur (q : Int) (a b : Nat) : Nat × Nat := if q % 4 = 1 then (ng b, a) else if q % 4 = 2 then (ng a, ng b) else if q % 4 = 3 then (b, ng a) else (a, b)
theorem turn_any (a b : Nat) (q : Int) (w : World) :
    Calls Try.prog 22 #[.complex .f64 a b, .int .i64 q] w fun e w' => e = .returned (.complex .f64 (tur q a b).1 (tur q a b).2) ∧ w' = w := by
  have hb := i64_and3 q
  have hc : q % 4 = 0 ∨ q % 4 = 1 ∨ q % 4 = 2 ∨ q % 4 = 3 := by omega
  unfold tur
  rcases hc with h | h | h | h <;> rw [h] at hb <;> simp only [h]
  all_goals
    clear h
    go_enter Try.func22, Try.ntmps22
    go_wp2
    go_ret
    exact ⟨rfl, rfl⟩
theorem tur_tur (p q : Int) (a b : Nat) (ha : a < 18446744073709551616) (hb : b < 18446744073709551616) : tur q (tur p a b).1 (tur p a b).2 = tur (p + q) a b := by
  have h1 : p % 4 = 0 ∨ p % 4 = 1 ∨ p % 4 = 2 ∨ p % 4 = 3 := by omega
  have h2 : q % 4 = 0 ∨ q % 4 = 1 ∨ q % 4 = 2 ∨ q % 4 = 3 := by omega
  have e1 := ng_ng ha
  have e2 := ng_ng hb
  have h3 : (p + q) % 4 = (p % 4 + q % 4) % 4 := by omega
  unfold tur
  rw [h3]
  rcases h1 with h | h | h | h <;> rcases h2 with h' | h' | h' | h' <;> rw [h, h'] <;> simp [e1, e2]
theorem add_comm64 (x y : Nat) : floatBits .add .f64 x y = floatBits .add .f64 y x := by
  show ((Ieee.double.read x).sum (Ieee.double.read y)).map _ = ((Ieee.double.read y).sum (Ieee.double.read x)).map _
  congr 1
  generalize Ieee.double.read x = d
  generalize Ieee.double.read y = e
  cases d <;> cases e <;> simp only [Ieee.Datum.sum]
  · rename_i s m i t n j
    rw [Int.min_comm i j, Int.add_comm, Bool.and_comm]
  · rename_i s t
    by_cases h : s = t
    · rw [if_pos h, if_pos h.symm, h]
    · rw [if_neg h, if_neg (fun h' => h h'.symm)]
theorem mul_comm64 (x y : Nat) : floatBits .mul .f64 x y = floatBits .mul .f64 y x := by
  show ((Ieee.double.read x).product (Ieee.double.read y)).map _ = ((Ieee.double.read y).product (Ieee.double.read x)).map _
  congr 1
  generalize Ieee.double.read x = d
  generalize Ieee.double.read y = e
  cases d <;> cases e <;> simp only [Ieee.Datum.product]
  · rename_i s m i t n j
    rw [Bool.xor_comm, Nat.mul_comm, Int.add_comm]
  · rename_i s t
    rw [Bool.xor_comm]
/-! the same, or no number -/
theorem nn_nan (x y : Nat) (w : World) : nn (nanOf .f64 x y w) = true := nanOf64 x y w
theorem sm_iff (x y : Nat) : sm x y = true ↔ (nn x = true ∧ nn y = true) ∨ x = y := by
  simp [sm]
theorem fv_none {op : BinOp} {x y : Nat} (h : floatBits op .f64 x y = none) (w : World) : nn (fv op x y w) = true := by
  unfold fv; rw [h]; exact nn_nan _ _ _
theorem fv_sm {op : BinOp} {x y x' y' : Nat} (h : floatBits op .f64 x y = floatBits op .f64 x' y') (w w' : World) : sm (fv op x y w) (fv op x' y' w') = true := by
  rw [sm_iff]
  cases e : floatBits op .f64 x y with
  | none => exact Or.inl ⟨fv_none e _, fv_none (h ▸ e) _⟩
  | some r =>
    right
    have e' : floatBits op .f64 x' y' = some r := by rw [← h]; exact e
    simp only [fv, e, e', Option.getD_some]
theorem add_nan {x y : Nat} (h : nn x = true ∨ nn y = true) : floatBits .add .f64 x y = none := by
  show ((Ieee.double.read x).sum (Ieee.double.read y)).map _ = none
  rcases h with h | h
  · rw [sum_nan_l h]; rfl
  · rw [sum_nan_r h]; rfl
theorem opp_nan (d : Ieee.Datum) : d.opposite.isNaN = d.isNaN := by cases d <;> rfl
theorem sub_nan {x y : Nat} (h : nn x = true ∨ nn y = true) : floatBits .sub .f64 x y = none := by
  show ((Ieee.double.read x).sum (Ieee.double.read y).opposite).map _ = none
  rcases h with h | h
  · rw [sum_nan_l h]; rfl
  · rw [sum_nan_r (by rw [opp_nan]; exact h)]; rfl
/-- what is made of the same is the same -/
theorem add_sm {x y x' y' : Nat} (hx : sm x x' = true) (hy : sm y y' = true) : floatBits .add .f64 x y = floatBits .add .f64 x' y' := by
  rw [sm_iff] at hx hy
  rcases hx with ⟨h1, h2⟩ | rfl
  · rw [add_nan (Or.inl h1), add_nan (Or.inl h2)]
  · rcases hy with ⟨h1, h2⟩ | rfl
    · rw [add_nan (Or.inr h1), add_nan (Or.inr h2)]
    · rfl
theorem sub_sm {x y x' y' : Nat} (hx : sm x x' = true) (hy : sm y y' = true) : floatBits .sub .f64 x y = floatBits .sub .f64 x' y' := by
  rw [sm_iff] at hx hy
  rcases hx with ⟨h1, h2⟩ | rfl
  · rw [sub_nan (Or.inl h1), sub_nan (Or.inl h2)]
  · rcases hy with ⟨h1, h2⟩ | rfl
    · rw [sub_nan (Or.inr h1), sub_nan (Or.inr h2)]
    · rfl
end Go.Proofs.Ytghhjebacnodcaa
