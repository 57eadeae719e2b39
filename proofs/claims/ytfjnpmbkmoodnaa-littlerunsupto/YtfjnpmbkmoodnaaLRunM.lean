import Derived.Test.YtfjnpmbkmoodnaaLBase
namespace Go.Proofs.Ytfjnpmbkmoodnaa
open Go.RowKit
set_option maxRecDepth 100000

/-- how many places on the two lists differ at, from the first one on -/
def dif : List Int → List Int → Nat
  | x :: xs, y :: ys => if x = y then 0 else dif xs ys + 1
  | _, _ => 0
theorem dif_le (xs : List Int) : ∀ ys, dif xs ys ≤ xs.length ∧ dif xs ys ≤ ys.length := by
  induction xs with
  | nil => intro ys; simp [dif]
  | cons x xs ih =>
    intro ys
    cases ys with
    | nil => simp [dif]
    | cons y ys =>
      have := ih ys
      simp only [dif, List.length_cons]
      split <;> omega
theorem dif_pos {x y : Int} {xs ys : List Int} (h : ¬ x = y) : 0 < dif (x :: xs) (y :: ys) := by simp [dif, h]
/-- the runs from a place on, so many steps at most -/
def rnf : Nat → Nat → List Int → List Int → List (Nat × List Int)
  | 0, _, _, _ => []
  | f + 1, k, x :: xs, y :: ys =>
    if x = y then rnf f (k + 1) xs ys
    else (k, (y :: ys).take (dif (x :: xs) (y :: ys))) :: rnf f (k + dif (x :: xs) (y :: ys)) ((x :: xs).drop (dif (x :: xs) (y :: ys))) ((y :: ys).drop (dif (x :: xs) (y :: ys)))
  | _ + 1, _, [], _ => []
  | _ + 1, _, _ :: _, [] => []
/-- the runs from a place on -/
def rnx (k : Nat) (xs ys : List Int) : List (Nat × List Int) := rnf xs.length k xs ys
theorem rnf_more (n : Nat) : ∀ (f k : Nat) (xs ys : List Int), xs.length = n → n ≤ f → rnf f k xs ys = rnf n k xs ys := by
  induction n using Nat.strongRecOn with
  | _ n ih =>
    intro f k xs ys hn hf
    cases xs with
    | nil =>
      simp only [List.length_nil] at hn
      subst hn
      cases f <;> rfl
    | cons x xs =>
      simp only [List.length_cons] at hn
      subst hn
      obtain ⟨f, rfl⟩ : ∃ g, f = g + 1 := ⟨f - 1, by omega⟩
      cases ys with
      | nil => rfl
      | cons y ys =>
        simp only [rnf]
        by_cases h : x = y
        · rw [if_pos h, if_pos h]
          exact ih xs.length (by omega) f (k + 1) xs ys rfl (by omega)
        · rw [if_neg h, if_neg h]
          have hp := dif_pos (xs := xs) (ys := ys) h
          have hl : ((x :: xs).drop (dif (x :: xs) (y :: ys))).length = xs.length + 1 - dif (x :: xs) (y :: ys) := by simp
          rw [ih ((x :: xs).drop (dif (x :: xs) (y :: ys))).length (by omega) f _ _ _ rfl (by omega), ih ((x :: xs).drop (dif (x :: xs) (y :: ys))).length (by omega) xs.length _ _ _ rfl (by omega)]
theorem rnx_nil (k : Nat) (ys : List Int) : rnx k [] ys = [] := rfl
theorem rnx_eq (k : Nat) (x : Int) (xs ys : List Int) : rnx k (x :: xs) (x :: ys) = rnx (k + 1) xs ys := by
  show rnf (xs.length + 1) k (x :: xs) (x :: ys) = _
  simp only [rnf, if_true]; rfl
theorem rnx_ne (k : Nat) (x y : Int) (xs ys : List Int) (h : ¬ x = y) : rnx k (x :: xs) (y :: ys) = (k, (y :: ys).take (dif (x :: xs) (y :: ys))) :: rnx (k + dif (x :: xs) (y :: ys)) ((x :: xs).drop (dif (x :: xs) (y :: ys))) ((y :: ys).drop (dif (x :: xs) (y :: ys))) := by
  have hp := dif_pos (xs := xs) (ys := ys) h
  have hl : ((x :: xs).drop (dif (x :: xs) (y :: ys))).length = xs.length + 1 - dif (x :: xs) (y :: ys) := by simp
  show rnf (xs.length + 1) k (x :: xs) (y :: ys) = _
  simp only [rnf]
  rw [if_neg h, rnf_more ((x :: xs).drop (dif (x :: xs) (y :: ys))).length xs.length _ _ _ rfl (by omega)]
  rfl

def wgt : List (Nat × List Int) → Nat
  | [] => 0
  | r :: R => r.2.length + wgt R
theorem wgt_append (R S : List (Nat × List Int)) : wgt (R ++ S) = wgt R + wgt S := by
  induction R with
  | nil => simp [wgt]
  | cons r R ih => simp [wgt, ih]; omega
def ham : List Int → List Int → Nat
  | x :: xs, y :: ys => (if x = y then 0 else 1) + ham xs ys
  | _, _ => 0
def lay (z : List Int) (r : Nat × List Int) : List Int := z.take r.1 ++ (r.2 ++ z.drop (r.1 + r.2.length))
def mnd (z : List Int) (R : List (Nat × List Int)) : List Int := R.foldl lay z
def ris (total : Nat) : Nat → List (Nat × List Int) → Bool
  | _, [] => true
  | next, r :: R => decide (0 < r.2.length ∧ next ≤ r.1 ∧ r.1 + r.2.length ≤ total) && ris total (r.1 + r.2.length) R

theorem ham_self (xs : List Int) : ham xs xs = 0 := by
  induction xs with
  | nil => rfl
  | cons x xs ih => simp [ham, ih]
theorem ham_le (xs : List Int) : ∀ ys, ham xs ys ≤ xs.length ∧ ham xs ys ≤ ys.length := by
  induction xs with
  | nil => intro ys; simp [ham]
  | cons x xs ih =>
    intro ys
    cases ys with
    | nil => simp [ham]
    | cons y ys =>
      have := ih ys
      simp only [ham, List.length_cons]
      split <;> omega
theorem ham_append (A : List Int) : ∀ (A' B B' : List Int), A.length = A'.length → ham (A ++ B) (A' ++ B') = ham A A' + ham B B' := by
  induction A with
  | nil => intro A' B B' h; cases A' with
    | nil => simp [ham]
    | cons a A' => simp at h
  | cons x A ih =>
    intro A' B B' h
    cases A' with
    | nil => simp at h
    | cons y A' => simp only [List.cons_append, ham, ih A' B B' (by simpa using h)]; omega
theorem ham_dif (xs : List Int) : ∀ ys, ham (xs.take (dif xs ys)) (ys.take (dif xs ys)) = dif xs ys := by
  induction xs with
  | nil => intro ys; simp [dif, ham]
  | cons x xs ih =>
    intro ys
    cases ys with
    | nil => simp [dif, ham]
    | cons y ys =>
      simp only [dif]
      split
      · simp [ham]
      · rename_i h
        simp only [List.take_succ_cons, ham, if_neg h, ih ys]; omega

theorem rnx_wgt (n : Nat) : ∀ (k : Nat) (xs ys : List Int), xs.length = n → xs.length = ys.length → wgt (rnx k xs ys) = ham xs ys := by
  induction n using Nat.strongRecOn with
  | _ n ih =>
    intro k xs ys hn hl
    cases xs with
    | nil => rw [rnx_nil]; simp [wgt, ham]
    | cons x xs =>
      cases ys with
      | nil => simp at hl
      | cons y ys =>
        simp only [List.length_cons] at hn hl
        by_cases h : x = y
        · subst h
          rw [rnx_eq, ih xs.length (by omega) _ _ _ rfl (by omega)]
          simp [ham]
        · have hp := dif_pos (xs := xs) (ys := ys) h
          have hd := dif_le (x :: xs) (y :: ys)
          have hh := ham_dif (x :: xs) (y :: ys)
          rw [rnx_ne _ _ _ _ _ h]
          simp only [List.length_cons] at hd
          generalize dif (x :: xs) (y :: ys) = d at *
          have e1 := ham_append ((x :: xs).take d) ((y :: ys).take d) ((x :: xs).drop d) ((y :: ys).drop d) (by simp; omega)
          rw [List.take_append_drop, List.take_append_drop] at e1
          have e2 := ih ((x :: xs).drop d).length (by simp; omega) (k + d) _ ((y :: ys).drop d) rfl (by simp; omega)
          simp only [wgt]
          rw [e2, e1, hh, List.length_take, List.length_cons]
          omega
theorem rnx_ris (n : Nat) : ∀ (k m total : Nat) (xs ys : List Int), xs.length = n → xs.length = ys.length → m ≤ k → total = k + xs.length → ris total m (rnx k xs ys) = true := by
  induction n using Nat.strongRecOn with
  | _ n ih =>
    intro k m total xs ys hn hl hm ht
    cases xs with
    | nil => rw [rnx_nil]; rfl
    | cons x xs =>
      cases ys with
      | nil => simp at hl
      | cons y ys =>
        simp only [List.length_cons] at hn hl ht
        by_cases h : x = y
        · subst h
          rw [rnx_eq]
          exact ih xs.length (by omega) _ _ _ _ _ rfl (by omega) (by omega) (by omega)
        · have hp := dif_pos (xs := xs) (ys := ys) h
          have hd := dif_le (x :: xs) (y :: ys)
          rw [rnx_ne _ _ _ _ _ h]
          simp only [List.length_cons] at hd
          generalize dif (x :: xs) (y :: ys) = d at *
          have hlt : ((y :: ys).take d).length = d := by simp; omega
          simp only [ris, Bool.and_eq_true, decide_eq_true_eq]
          rw [hlt]
          refine ⟨by omega, ih ((x :: xs).drop d).length (by simp; omega) _ _ _ _ _ rfl (by simp; omega) (by omega) (by simp; omega)⟩
theorem rnx_mnd (n : Nat) : ∀ (xs ys P : List Int), xs.length = n → xs.length = ys.length → mnd (P ++ xs) (rnx P.length xs ys) = P ++ ys := by
  induction n using Nat.strongRecOn with
  | _ n ih =>
    intro xs ys P hn hl
    cases xs with
    | nil =>
      cases ys with
      | nil => rw [rnx_nil]; rfl
      | cons y ys => simp at hl
    | cons x xs =>
      cases ys with
      | nil => simp at hl
      | cons y ys =>
        simp only [List.length_cons] at hn hl
        by_cases h : x = y
        · subst h
          have := ih xs.length (by omega) xs ys (P ++ [x]) rfl (by omega)
          rw [rnx_eq]
          simpa using this
        · have hp := dif_pos (xs := xs) (ys := ys) h
          have hd := dif_le (x :: xs) (y :: ys)
          rw [rnx_ne _ _ _ _ _ h]
          simp only [List.length_cons] at hd
          generalize dif (x :: xs) (y :: ys) = d at *
          have hlt : ((y :: ys).take d).length = d := by simp; omega
          have e := ih ((x :: xs).drop d).length (by simp; omega) ((x :: xs).drop d) ((y :: ys).drop d) (P ++ (y :: ys).take d) rfl (by simp; omega)
          rw [List.length_append, hlt] at e
          have e2 : lay (P ++ (x :: xs)) (P.length, (y :: ys).take d) = (P ++ (y :: ys).take d) ++ (x :: xs).drop d := by
            simp only [lay]
            rw [hlt, List.take_left', List.drop_append, List.drop_of_length_le (by omega), List.nil_append, Nat.add_sub_cancel_left, List.append_assoc]
            rfl
          show mnd (lay (P ++ (x :: xs)) (P.length, (y :: ys).take d)) _ = _
          rw [e2, e, List.append_assoc, List.take_append_drop]

theorem lay_len (z : List Int) (r : Nat × List Int) (h : r.1 + r.2.length ≤ z.length) : (lay z r).length = z.length := by
  simp [lay]; omega
theorem ham_split (a b : Nat) (u v : List Int) (hl : u.length = v.length) (h : a + b ≤ u.length) :
    ham u v = ham (u.take a) (v.take a) + (ham ((u.drop a).take b) ((v.drop a).take b) + ham (u.drop (a + b)) (v.drop (a + b))) := by
  have e1 := ham_append (u.take a) (v.take a) (u.drop a) (v.drop a) (by simp; omega)
  have e2 := ham_append ((u.drop a).take b) ((v.drop a).take b) ((u.drop a).drop b) ((v.drop a).drop b) (by simp; omega)
  rw [List.take_append_drop, List.take_append_drop] at e1 e2
  rw [e1, e2, List.drop_drop, List.drop_drop]
theorem lay_take (z : List Int) (r : Nat × List Int) (h : r.1 + r.2.length ≤ z.length) : (lay z r).take r.1 = z.take r.1 ∧ (lay z r).drop (r.1 + r.2.length) = z.drop (r.1 + r.2.length) := by
  have hl : (z.take r.1).length = r.1 := by simp; omega
  constructor
  · rw [lay, List.take_append, hl, Nat.sub_self, List.take_zero, List.append_nil, List.take_of_length_le (by omega)]
  · rw [lay, ← List.append_assoc, List.drop_append, List.drop_of_length_le (by simp; omega), List.nil_append]
    simp [hl]
theorem ham_lay (z0 z : List Int) (r : Nat × List Int) (hl : z0.length = z.length) (h : r.1 + r.2.length ≤ z.length) : ham z0 (lay z r) ≤ ham z0 z + r.2.length := by
  obtain ⟨t1, t2⟩ := lay_take z r h
  have e1 := ham_split r.1 r.2.length z0 (lay z r) (by rw [lay_len z r h]; exact hl) (by omega)
  have e2 := ham_split r.1 r.2.length z0 z hl (by omega)
  have e3 := (ham_le ((z0.drop r.1).take r.2.length) (((lay z r).drop r.1).take r.2.length)).1
  rw [t1, t2] at e1
  rw [List.length_take] at e3
  omega
theorem mnd_facts (R : List (Nat × List Int)) : ∀ (z0 z : List Int) (next : Nat), z0.length = z.length → ris z.length next R = true → (mnd z R).length = z.length ∧ ham z0 (mnd z R) ≤ ham z0 z + wgt R := by
  induction R with
  | nil => intro z0 z next hl _; simp [mnd, wgt]
  | cons r R ih =>
    intro z0 z next hl h
    simp only [ris, Bool.and_eq_true, decide_eq_true_eq] at h
    obtain ⟨⟨_, _, h3⟩, h4⟩ := h
    have hll := lay_len z r h3
    have hh := ham_lay z0 z r hl h3
    have := ih z0 (lay z r) (r.1 + r.2.length) (by omega) (by rw [hll]; exact h4)
    rw [show mnd z (r :: R) = mnd (lay z r) R from rfl]
    simp only [wgt]
    omega
theorem lay_wf (z : List Int) (r : Nat × List Int) (h : ∀ x ∈ z, 0 ≤ x ∧ x ≤ 255) (hr : ∀ x ∈ r.2, 0 ≤ x ∧ x ≤ 255) : ∀ x ∈ lay z r, 0 ≤ x ∧ x ≤ 255 := by
  intro x hx
  simp only [lay, List.mem_append] at hx
  rcases hx with hx | hx | hx
  · exact h x (List.mem_of_mem_take hx)
  · exact hr x hx
  · exact h x (List.mem_of_mem_drop hx)
theorem mnd_wf (R : List (Nat × List Int)) : ∀ (z : List Int), (∀ x ∈ z, 0 ≤ x ∧ x ≤ 255) → (∀ r ∈ R, ∀ x ∈ r.2, 0 ≤ x ∧ x ≤ 255) → ∀ x ∈ mnd z R, 0 ≤ x ∧ x ≤ 255 := by
  induction R with
  | nil => intro z h _; exact h
  | cons r R ih => intro z h hr; exact ih (lay z r) (lay_wf z r h (hr r (by simp))) (fun r' h' => hr r' (by simp [h']))
end Go.Proofs.Ytfjnpmbkmoodnaa
