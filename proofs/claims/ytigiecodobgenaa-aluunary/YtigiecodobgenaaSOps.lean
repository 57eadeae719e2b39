import Derived.Test.YtigiecodobgenaaSBase
namespace Go.Proofs.Ytigiecodobgenaa
open Go.RowKit

theorem word_ok (neg : Bool) (r : Nat) (h : r ≤ 2139095040) : ok (Ieee.single.word neg r) = true := by
  unfold ok Ieee.Format.word
  have e1 : Ieee.single.signWeight = 2147483648 := rfl
  rw [e1]
  apply decide_eq_true
  split <;> omega
theorem write_ok (d : Ieee.Datum) (h : d.isNaN = false) : ok (Ieee.single.write d) = true := by
  have e3 : Ieee.single.infRung = 2139095040 := rfl
  cases d with
  | number neg mag place =>
    show ok (Ieee.single.nearest neg mag place) = true
    unfold Ieee.Format.nearest
    split
    · exact word_ok _ _ (by omega)
    · exact word_ok _ _ (Nat.le_trans (Nat.min_le_right _ _) (Nat.le_of_eq e3))
  | infinity neg => exact word_ok _ _ (Nat.le_of_eq e3)
  | nan neg fr => simp [Ieee.Datum.isNaN] at h
theorem sum_not_nan {d e r : Ieee.Datum} (h : d.sum e = some r) : r.isNaN = false := by
  unfold Ieee.Datum.sum at h
  split at h <;> first | (cases h; done) | (split at h <;> first | (cases h; done) | (cases h; rfl)) | (cases h; rfl)
theorem product_not_nan {d e r : Ieee.Datum} (h : d.product e = some r) : r.isNaN = false := by
  unfold Ieee.Datum.product at h
  split at h <;> first | (cases h; done) | (split at h <;> first | (cases h; done) | (cases h; rfl)) | (cases h; rfl)
theorem quotient_not_nan {n : Nat} {d e r : Ieee.Datum} (h : d.quotient n e = some r) : r.isNaN = false := by
  unfold Ieee.Datum.quotient at h
  split at h <;> first | (cases h; done) | (split at h <;> first | (cases h; done) | (split at h <;> first | (cases h; done) | (cases h; rfl)) | (cases h; rfl)) | (cases h; rfl)
theorem add_ok {a b r : Nat} (h : Ieee.single.add a b = some r) : ok r = true := by
  unfold Ieee.Format.add at h
  cases e : (Ieee.single.read a).sum (Ieee.single.read b) with
  | none => rw [e] at h; cases h
  | some d => rw [e] at h; cases h; exact write_ok _ (sum_not_nan e)
theorem mul_ok {a b r : Nat} (h : Ieee.single.mul a b = some r) : ok r = true := by
  unfold Ieee.Format.mul at h
  cases e : (Ieee.single.read a).product (Ieee.single.read b) with
  | none => rw [e] at h; cases h
  | some d => rw [e] at h; cases h; exact write_ok _ (product_not_nan e)
theorem div_ok {a b r : Nat} (h : Ieee.single.div a b = some r) : ok r = true := by
  unfold Ieee.Format.div at h
  cases e : (Ieee.single.read a).quotient (Ieee.single.fractionBits + 2) (Ieee.single.read b) with
  | none => rw [e] at h; cases h
  | some d => rw [e] at h; cases h; exact write_ok _ (quotient_not_nan e)

def fsum (a b : Nat) : Nat := (Ieee.single.add a b).getD 2143289344
def fmul (a b : Nat) : Nat := (Ieee.single.mul a b).getD 2143289344
def fdiv (a b : Nat) : Nat := (Ieee.single.div a b).getD 2143289344

end Go.Proofs.Ytigiecodobgenaa
