import Derived.Test.YtibjjlogdepgjaaSBase
namespace Go.Proofs.Ytibjjlogdepgjaa
open Go.RowKit
set_option maxRecDepth 100000

theorem word_ok (neg : Bool) (r : Nat) (h : r ≤ 2139095040) : ok (Ieee.single.word neg r) = true := by
  unfold ok Ieee.Format.word
  have e1 : Ieee.single.signWeight = 2147483648 := rfl
  rw [e1]
  apply decide_eq_true
  split <;> omega
theorem write_ok (d : Ieee.Datum) (h : d.isNaN = false) : ok (Ieee.single.write d) = true := by
  have e3 : Ieee.single.infRung = 2139095040 := rfl
  cases d with
  | number neg mag place =>
    show ok (Ieee.single.nearest neg mag place) = true
    unfold Ieee.Format.nearest
    split
    · exact word_ok _ _ (by omega)
    · exact word_ok _ _ (Nat.le_trans (Nat.min_le_right _ _) (Nat.le_of_eq e3))
  | infinity neg => exact word_ok _ _ (Nat.le_of_eq e3)
  | nan neg fr => simp [Ieee.Datum.isNaN] at h
theorem sum_not_nan {d e r : Ieee.Datum} (h : d.sum e = some r) : r.isNaN = false := by
  unfold Ieee.Datum.sum at h
  split at h <;> first | (cases h; done) | (split at h <;> first | (cases h; done) | (cases h; rfl)) | (cases h; rfl)
theorem product_not_nan {d e r : Ieee.Datum} (h : d.product e = some r) : r.isNaN = false := by
  unfold Ieee.Datum.product at h
  split at h <;> first | (cases h; done) | (split at h <;> first | (cases h; done) | (cases h; rfl)) | (cases h; rfl)
theorem quotient_not_nan {n : Nat} {d e r : Ieee.Datum} (h : d.quotient n e = some r) : r.isNaN = false := by
  unfold Ieee.Datum.quotient at h
  split at h <;> first | (cases h; done) | (split at h <;> first | (cases h; done) | (split at h <;> first | (cases h; done) | (cases h; rfl)) | (cases h; rfl)) | (cases h; rfl)
theorem add_ok {a b r : Nat} (h : Ieee.single.add a b = some r) : ok r = true := by
  unfold Ieee.Format.add at h
  cases e : (Ieee.single.read a).sum (Ieee.single.read b) with
  | none => rw [e] at h; cases h
  | some d => rw [e] at h; cases h; exact write_ok _ (sum_not_nan e)
theorem mul_ok {a b r : Nat} (h : Ieee.single.mul a b = some r) : ok r = true := by
  unfold Ieee.Format.mul at h
  cases e : (Ieee.single.read a).product (Ieee.single.read b) with
  | none => rw [e] at h; cases h
  | some d => rw [e] at h; cases h; exact write_ok _ (product_not_nan e)
theorem div_ok {a b r : Nat} (h : Ieee.single.div a b = some r) : ok r = true := by
  unfold Ieee.Format.div at h
  cases e : (Ieee.single.read a).quotient (Ieee.single.fractionBits + 2) (Ieee.single.read b) with
  | none => rw [e] at h; cases h
  | some d => rw [e] at h; cases h; exact write_ok _ (quotient_not_nan e)

def fsum (a b : Nat) : Nat := (Ieee.single.add a b).getD 2143289344
def fmul (a b : Nat) : Nat := (Ieee.single.mul a b).getD 2143289344
def fdiv (a b : Nat) : Nat := (Ieee.single.div a b).getD 2143289344

theorem sum_any (a b : Nat) (w : World) :
    Calls Try.prog 47 #[.int .u32 a, .int .u32 b] w fun e w' => e = .returned (.int .u32 (fsum a b)) ∧ ∃ m, w' = w.drewN m := by
  cases h : Ieee.single.add a b with
  | some r =>
    have e1 : fsum a b = r := by simp [fsum, h]
    have hl := fun (w : World) => run_float_arith (P := Try.prog) w .add 111 .f32 a b r h
    have e2 : wd r = r := by simp [wd, add_ok h]
    rw [e1]
    clear e1
    go_enter Try.func47, Try.ntmps47
    go_wp2_with (first
      | (go_at_call 51; refine (number_any _ _).mono ?_; rintro e wq ⟨rfl, hq⟩; subst wq)
      | (go_at_call 52; refine (sword_any _ _).mono ?_; rintro e wq ⟨rfl, hq⟩; subst wq))
    go_ret
    exact ⟨by rw [← e2]; rfl, 0, rfl⟩
  | none =>
    have e1 : fsum a b = 2143289344 := by simp [fsum, h]
    have hl := fun (w : World) => run_float_none (P := Try.prog) .add 111 .f32 a b w (Or.inl rfl) h
    have e2 := nanOf_wd a b w
    rw [e1]
    clear e1
    go_enter Try.func47, Try.ntmps47
    go_wp2_with (first
      | (go_at_call 51; refine (number_any _ _).mono ?_; rintro e wq ⟨rfl, hq⟩; subst wq)
      | (go_at_call 52; refine (sword_any _ _).mono ?_; rintro e wq ⟨rfl, hq⟩; subst wq))
    go_ret
    exact ⟨rfl, 1, rfl⟩
theorem prod_any (a b : Nat) (w : World) :
    Calls Try.prog 49 #[.int .u32 a, .int .u32 b] w fun e w' => e = .returned (.int .u32 (fmul a b)) ∧ ∃ m, w' = w.drewN m := by
  cases h : Ieee.single.mul a b with
  | some r =>
    have e1 : fmul a b = r := by simp [fmul, h]
    have hl := fun (w : World) => run_float_arith (P := Try.prog) w .mul 111 .f32 a b r h
    have e2 : wd r = r := by simp [wd, mul_ok h]
    rw [e1]
    clear e1
    go_enter Try.func49, Try.ntmps49
    go_wp2_with (first
      | (go_at_call 51; refine (number_any _ _).mono ?_; rintro e wq ⟨rfl, hq⟩; subst wq)
      | (go_at_call 52; refine (sword_any _ _).mono ?_; rintro e wq ⟨rfl, hq⟩; subst wq))
    go_ret
    exact ⟨by rw [← e2]; rfl, 0, rfl⟩
  | none =>
    have e1 : fmul a b = 2143289344 := by simp [fmul, h]
    have hl := fun (w : World) => run_float_none (P := Try.prog) .mul 111 .f32 a b w (Or.inr (Or.inr (Or.inl rfl))) h
    have e2 := nanOf_wd a b w
    rw [e1]
    clear e1
    go_enter Try.func49, Try.ntmps49
    go_wp2_with (first
      | (go_at_call 51; refine (number_any _ _).mono ?_; rintro e wq ⟨rfl, hq⟩; subst wq)
      | (go_at_call 52; refine (sword_any _ _).mono ?_; rintro e wq ⟨rfl, hq⟩; subst wq))
    go_ret
    exact ⟨rfl, 1, rfl⟩
theorem ratio_any (a b : Nat) (w : World) :
    Calls Try.prog 50 #[.int .u32 a, .int .u32 b] w fun e w' => e = .returned (.int .u32 (fdiv a b)) ∧ ∃ m, w' = w.drewN m := by
  cases h : Ieee.single.div a b with
  | some r =>
    have e1 : fdiv a b = r := by simp [fdiv, h]
    have hl := fun (w : World) => run_float_arith (P := Try.prog) w .quo 111 .f32 a b r h
    have e2 : wd r = r := by simp [wd, div_ok h]
    rw [e1]
    clear e1
    go_enter Try.func50, Try.ntmps50
    go_wp2_with (first
      | (go_at_call 51; refine (number_any _ _).mono ?_; rintro e wq ⟨rfl, hq⟩; subst wq)
      | (go_at_call 52; refine (sword_any _ _).mono ?_; rintro e wq ⟨rfl, hq⟩; subst wq))
    go_ret
    exact ⟨by rw [← e2]; rfl, 0, rfl⟩
  | none =>
    have e1 : fdiv a b = 2143289344 := by simp [fdiv, h]
    have hl := fun (w : World) => run_float_none (P := Try.prog) .quo 111 .f32 a b w (Or.inr (Or.inr (Or.inr rfl))) h
    have e2 := nanOf_wd a b w
    rw [e1]
    clear e1
    go_enter Try.func50, Try.ntmps50
    go_wp2_with (first
      | (go_at_call 51; refine (number_any _ _).mono ?_; rintro e wq ⟨rfl, hq⟩; subst wq)
      | (go_at_call 52; refine (sword_any _ _).mono ?_; rintro e wq ⟨rfl, hq⟩; subst wq))
    go_ret
    exact ⟨rfl, 1, rfl⟩
end Go.Proofs.Ytibjjlogdepgjaa
