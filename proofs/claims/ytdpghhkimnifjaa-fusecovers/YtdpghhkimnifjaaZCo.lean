import Derived.Test.YtdpghhkimnifjaaZTo
import Derived.Test.YtdpghhkimnifjaaZRo
import Derived.Test.YtdpghhkimnifjaaCZAw
namespace Go.Proofs.Ytdpghhkimnifjaa
open Go.RowKit Go.WideShapes Go.Shelf
set_option maxRecDepth 100000
attribute [local go_sem] Oper.semAt_some

def lnS : List Fz → Nat
  | [] => 0
  | f :: r => f.len + lnS r
theorem lnS_app (A : List Fz) (f : Fz) : lnS (A ++ [f]) = lnS A + f.len := by
  induction A with
  | nil => simp [lnS]
  | cons g A ih => simp [lnS, ih]; omega
theorem fkV_at (L : List (Nat × Nat)) (at_ k : Nat) : (fkV L at_ k).1.len = 0 ∨ (fkV L at_ k).1.at_ = at_ := by
  unfold fkV fitV
  split
  · exact .inl rfl
  · exact .inr rfl
theorem bst_at (L : List (Nat × Nat)) (at_ : Nat) : ∀ k, (bst L at_ k).len = 0 ∨ (bst L at_ k).at_ = at_
  | 0 => .inl rfl
  | k + 1 => by
    unfold bst
    split
    · exact fkV_at L at_ (k + 1)
    · exact bst_at L at_ k
theorem thS_pre : ∀ (n : Nat) (R : List (Nat × Nat)) (at_ : Nat) (pre : List Fz) (x : Fz), Wfc R → pre ++ [x] <+: thS n R at_ → x.at_ = at_ + lnS pre ∧ 1 ≤ x.len ∧ lnS pre + x.len ≤ R.length ∧ pre.length ≤ lnS pre
  | 0, _, _, pre, x, _, h => by have := List.IsPrefix.length_le h; simp [thS] at this
  | n + 1, [], _, pre, x, _, h => by have := List.IsPrefix.length_le h; simp [thS] at this
  | n + 1, p :: R, at_, pre, x, hwf, h => by
    by_cases he : erV p.1 p.2 = 0
    · rw [thS_step n p R at_ he] at h
      have hp := bst_pos (R := R) he at_ 14
      have hl := bst_le hwf at_ 15
      have ha : (bst (p :: R) at_ 15).at_ = at_ := (bst_at (p :: R) at_ 15).resolve_left (by change 1 ≤ (bst (p :: R) at_ 15).len at hp; omega)
      change 1 ≤ (bst (p :: R) at_ 15).len at hp
      generalize bst (p :: R) at_ 15 = f at *
      cases pre with
      | nil =>
        obtain ⟨t, ht⟩ := h
        injection ht with h1 _
        subst h1
        exact ⟨by simp [lnS, ha], hp, by simpa [lnS] using hl, Nat.le_refl _⟩
      | cons g pre =>
        rw [List.cons_append, List.cons_prefix_cons] at h
        obtain ⟨rfl, h⟩ := h
        obtain ⟨h1, h2, h3, h4⟩ := thS_pre n _ _ pre x (wfc_drop hwf _) h
        rw [List.length_drop] at h3
        exact ⟨by rw [h1]; simp [lnS]; omega, h2, by simp only [lnS]; omega, by simp only [lnS, List.length_cons]; omega⟩
    · rw [thS_no (n + 1) p R at_ he] at h
      have := List.IsPrefix.length_le h
      simp at this
theorem thS_end : ∀ (n : Nat) (R : List (Nat × Nat)) (at_ : Nat), Wfc R → R.length ≤ n → lnS (thS n R at_) ≤ R.length ∧ (lnS (thS n R at_) < R.length → ¬ erV (R.getD (lnS (thS n R at_)) (0, 0)).1 (R.getD (lnS (thS n R at_)) (0, 0)).2 = 0) ∧ (thS n R at_).length ≤ lnS (thS n R at_)
  | 0, R, _, _, h => by
    have : R = [] := List.eq_nil_of_length_eq_zero (by omega)
    subst this
    simp [thS, lnS]
  | n + 1, [], _, _, _ => by simp [thS, lnS]
  | n + 1, p :: R, at_, hwf, h => by
    by_cases he : erV p.1 p.2 = 0
    · rw [thS_step n p R at_ he]
      have hp := bst_pos (R := R) he at_ 14
      have hl := bst_le hwf at_ 15
      change 1 ≤ (bst (p :: R) at_ 15).len at hp
      generalize bst (p :: R) at_ 15 = f at *
      have hlen : ((p :: R).drop f.len).length = (p :: R).length - f.len := List.length_drop
      obtain ⟨h1, h2, h3⟩ := thS_end n ((p :: R).drop f.len) (at_ + f.len) (wfc_drop hwf _) (by rw [hlen]; simp only [List.length_cons] at h ⊢; omega)
      generalize thS n ((p :: R).drop f.len) (at_ + f.len) = ys at *
      rw [hlen] at h1 h2
      refine ⟨by simp only [lnS]; omega, fun q => ?_, by simp only [lnS, List.length_cons]; omega⟩
      simp only [lnS] at q ⊢
      have := h2 (by omega)
      rwa [List.getD_eq_getElem?_getD, List.getElem?_drop, ← List.getD_eq_getElem?_getD] at this
    · rw [thS_no (n + 1) p R at_ he]
      refine ⟨Nat.zero_le _, fun _ => ?_, Nat.le_refl _⟩
      exact he
theorem nilcmpZ (b c : Nat) (w : World) : (binOp .eql 49 (.func (.func 32) #[] #[.pointer (some ⟨b, 0, none⟩), .pointer (some ⟨c, 0, none⟩)]) .nilFunc).run Try.prog w = .ok (.bool false) w := by kernel_rfl
end Go.Proofs.Ytdpghhkimnifjaa
