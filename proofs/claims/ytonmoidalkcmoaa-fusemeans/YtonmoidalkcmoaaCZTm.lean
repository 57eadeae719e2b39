import Derived.Test.YtonmoidalkcmoaaCZFi
namespace Go.Proofs.Ytonmoidalkcmoaa
open Go.RowKit Go.WideShapes Go.Shelf
set_option maxRecDepth 100000
/-- MATHEMATICS: what a row takes lies in the stretch -/
theorem rwF_le {L : List (Nat × Nat)} (hwf : Wfc L) : ∀ (P : List Pt) (f : Fz), (∀ pt ∈ P, PtOk pt) → f.len ≤ L.length → (rwF L P f).len ≤ L.length
  | [], f, _, h => h
  | pt :: r, f, hP, h => by
    unfold rwF
    split
    · rename_i hb
      have h1 := hP pt (by simp) (L.drop f.len) f (wfc_drop hwf _) hb
      rw [List.length_drop] at h1
      exact rwF_le hwf r _ (fun q hq => hP q (by simp [hq])) (by omega)
    · exact Nat.zero_le _
theorem shFold_le {L : List (Nat × Nat)} (hwf : Wfc L) (k : Nat) : (shFold k L).len ≤ L.length := by
  have := (lnP_le hwf 0 L.length).1
  unfold shFold
  split
  · simp only; omega
  · exact Nat.zero_le _
theorem shRow_le {L : List (Nat × Nat)} (hwf : Wfc L) {P : List Pt} (hP : ∀ pt ∈ P, PtOk pt) : (shRow P L).len ≤ L.length := rwF_le hwf P fz0 hP (Nat.zero_le _)
theorem shK_le {L : List (Nat × Nat)} (hwf : Wfc L) (k : Nat) : (shK k L).len ≤ L.length := by
  unfold shK
  split
  · exact shRow_le hwf (by simp only [List.mem_singleton, forall_eq]; exact ok_any)
  · exact shFold_le hwf 2
  · exact shFold_le hwf 3
  · exact shFold_le hwf 4
  · exact shRow_le hwf (by simp only [List.forall_mem_cons, List.not_mem_nil, false_imp_iff, implies_true, and_true]; exact ⟨ok_c, ok_bin⟩)
  · exact shRow_le hwf (by simp only [List.forall_mem_cons, List.not_mem_nil, false_imp_iff, implies_true, and_true]; exact ⟨ok_c, ok_cmp⟩)
  · exact shRow_le hwf (by simp only [List.forall_mem_cons, List.not_mem_nil, false_imp_iff, implies_true, and_true]; exact ⟨ok_c, ok_arg⟩)
  · exact shRow_le hwf (by simp only [List.forall_mem_cons, List.not_mem_nil, false_imp_iff, implies_true, and_true]; exact ⟨ok_c, ok_only 5⟩)
  · exact shRow_le hwf (by simp only [List.forall_mem_cons, List.not_mem_nil, false_imp_iff, implies_true, and_true]; exact ⟨ok_c, ok_load⟩)
  · exact shRow_le hwf (by simp only [List.forall_mem_cons, List.not_mem_nil, false_imp_iff, implies_true, and_true]; exact ⟨ok_c, ok_store⟩)
  · exact shRow_le hwf (by simp only [List.forall_mem_cons, List.not_mem_nil, false_imp_iff, implies_true, and_true]; exact ⟨ok_local, ok_arg⟩)
  · exact shRow_le hwf (by simp only [List.forall_mem_cons, List.not_mem_nil, false_imp_iff, implies_true, and_true]; exact ⟨ok_local, ok_load⟩)
  · exact shRow_le hwf (by simp only [List.forall_mem_cons, List.not_mem_nil, false_imp_iff, implies_true, and_true]; exact ⟨ok_local, ok_only 31, ok_bin⟩)
  · exact shRow_le hwf (by simp only [List.forall_mem_cons, List.not_mem_nil, false_imp_iff, implies_true, and_true]; exact ⟨ok_local, ok_only 31, ok_cmp⟩)
  · exact shRow_le hwf (by simp only [List.forall_mem_cons, List.not_mem_nil, false_imp_iff, implies_true, and_true]; exact ⟨ok_local, ok_same, ok_only 31, ok_cb, ok_harm, ok_only 34⟩)
  · exact Nat.zero_le _
/-- the thing that a shape makes of a stretch that begins at an index -/
def fkV (L : List (Nat × Nat)) (at_ k : Nat) : Fz × Bool := fitV (shK k) k L at_
theorem fkV_le {L : List (Nat × Nat)} (hwf : Wfc L) (at_ k : Nat) : (fkV L at_ k).1.len ≤ L.length := by
  unfold fkV fitV
  split
  · exact Nat.zero_le _
  · exact shK_le hwf k
/-- the longest of the first k shapes' things, the least kind of several -/
def bst (L : List (Nat × Nat)) (at_ : Nat) : Nat → Fz
  | 0 => fz0
  | k + 1 => if (bst L at_ k).len < (fkV L at_ (k + 1)).1.len then (fkV L at_ (k + 1)).1 else bst L at_ k
theorem bst_le {L : List (Nat × Nat)} (hwf : Wfc L) (at_ : Nat) : ∀ k, (bst L at_ k).len ≤ L.length
  | 0 => Nat.zero_le _
  | k + 1 => by
    unfold bst
    split
    · exact fkV_le hwf at_ (k + 1)
    · exact bst_le hwf at_ k
theorem bst_up (L : List (Nat × Nat)) (at_ : Nat) (k : Nat) : (bst L at_ k).len ≤ (bst L at_ (k + 1)).len := by
  show _ ≤ (if _ then _ else _ : Fz).len
  split
  · omega
  · exact Nat.le_refl _
/-- FuseOne: just where the first instruction may be -/
theorem shK_one (p : Nat × Nat) (R : List (Nat × Nat)) : shK 1 (p :: R) = if erV p.1 p.2 = 0 then ⟨0, 1, 0, p.1, p.2, 0⟩ else fz0 := by
  show rwF (p :: R) [ptSingle lkAny] fz0 = _
  unfold rwF
  show (if (ptSingle lkAny ((p :: R).drop 0) fz0).2 = true then rwF _ [] (ptSingle lkAny ((p :: R).drop 0) fz0).1 else fz0) = _
  rw [List.drop_zero]
  unfold ptSingle
  by_cases h : erV p.1 p.2 = 0
  · simp only [h, if_true]; rfl
  · simp only [h, if_false]; rfl
theorem fkV_one (p : Nat × Nat) (R : List (Nat × Nat)) (at_ : Nat) : fkV (p :: R) at_ 1 = if erV p.1 p.2 = 0 then (⟨at_, 1, 1, p.1, p.2, 0⟩, true) else (fz0, false) := by
  unfold fkV fitV
  rw [shK_one]
  by_cases h : erV p.1 p.2 = 0
  · simp only [h, if_true]; rfl
  · simp only [h, if_false]; rfl
theorem bst_pos {p : Nat × Nat} {R : List (Nat × Nat)} (h : erV p.1 p.2 = 0) (at_ : Nat) : ∀ k, 1 ≤ (bst (p :: R) at_ (k + 1)).len
  | 0 => by
    show 1 ≤ (if (bst (p :: R) at_ 0).len < (fkV (p :: R) at_ 1).1.len then (fkV (p :: R) at_ 1).1 else bst (p :: R) at_ 0).len
    rw [fkV_one, if_pos h, show (bst (p :: R) at_ 0).len = 0 from rfl, if_pos (show 0 < 1 by decide)]
    exact Nat.le_refl _
  | k + 1 => Nat.le_trans (bst_pos h at_ k) (bst_up _ _ _)
/-- what Longest answers -/
def flE (L : List (Nat × Nat)) (a e : Nat) : Nat := lnE L a e
def flV (L : List (Nat × Nat)) (a e : Nat) : Fz := if flE L a e = 0 then bst ((L.drop a).take (e - a)) a 15 else fz0
/-- the things of a stretch, from the left -/
def thS : Nat → List (Nat × Nat) → Nat → List Fz
  | 0, _, _ => []
  | _ + 1, [], _ => []
  | n + 1, p :: R, at_ => if erV p.1 p.2 = 0 then bst (p :: R) at_ 15 :: thS n ((p :: R).drop (bst (p :: R) at_ 15).len) (at_ + (bst (p :: R) at_ 15).len) else []
end Go.Proofs.Ytonmoidalkcmoaa
