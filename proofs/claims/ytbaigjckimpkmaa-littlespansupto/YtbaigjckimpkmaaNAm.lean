import Derived.Test.YtbaigjckimpkmaaMCln
namespace Go.Proofs.Ytbaigjckimpkmaa
open Go.RowKit Go.WideShapes Go.Sort
set_option maxRecDepth 100000
def Ap (L : List (Nat × Nat)) : Prop := L.Pairwise fun a b => lapB a b = false
theorem lapB_comm (a b : Nat × Nat) : lapB a b = lapB b a := by
  unfold lapB
  cases decide (0 < a.2) <;> cases decide (0 < b.2) <;> cases decide (a.1 < b.1 + b.2) <;> cases decide (b.1 < a.1 + a.2) <;> rfl
theorem Ap.perm {L M : List (Nat × Nat)} (h : Ap L) (hp : M.Perm L) : Ap M := by
  refine (hp.symm.pairwise_iff ?_).1 h
  intro a b hab
  rw [lapB_comm]; exact hab
theorem Ap.at {L : List (Nat × Nat)} (h : Ap L) {i j : Nat} (hij : i < j) (hj : j < L.length) : lapB (L.getD i (0, 0)) (L.getD j (0, 0)) = false := by
  have := List.pairwise_iff_getElem.1 h i j (by omega) hj hij
  rw [List.getD_eq_getElem?_getD, List.getD_eq_getElem?_getD, List.getElem?_eq_getElem hj, List.getElem?_eq_getElem (by omega)]
  exact this
theorem ap_of_filter {L : List (Nat × Nat)} (h : Ap (L.filter kp)) : Ap L := by
  induction L with
  | nil => exact List.Pairwise.nil
  | cons a L ih =>
    cases ha : kp a
    · rw [List.filter_cons, ha] at h
      refine List.Pairwise.cons (fun b _ => ?_) (ih h)
      have : a.2 = 0 := by simpa [kp] using ha
      simp [lapB, this]
    · rw [List.filter_cons, ha] at h
      simp only [if_true] at h
      obtain ⟨h1, h2⟩ := List.pairwise_cons.1 h
      refine List.Pairwise.cons (fun b hb => ?_) (ih h2)
      cases hk : kp b
      · have : b.2 = 0 := by simpa [kp] using hk
        simp [lapB, this]
      · exact h1 b (List.mem_filter.2 ⟨hb, hk⟩)
theorem ap_adj (M : List (Nat × Nat)) (hp : ∀ p ∈ M, 0 < p.2) (hs : ∀ i j, i < j → j < M.length → (M.getD i (0, 0)).1 ≤ (M.getD j (0, 0)).1)
    (ha : ∀ j, j + 1 < M.length → lapB (M.getD j (0, 0)) (M.getD (j + 1) (0, 0)) = false) : Ap M := by
  refine List.pairwise_iff_getElem.2 fun i j hi hj hij => ?_
  have e : ∀ k (h : k < M.length), M[k] = M.getD k (0, 0) := fun k h => by rw [List.getD_eq_getElem?_getD, List.getElem?_eq_getElem h]; rfl
  rw [e i hi, e j hj]
  have h1 := ha i (by omega)
  have h2 := hs i (i + 1) (by omega) (by omega)
  have p1 := hp _ (getD_memS hi)
  have p2 := hp _ (getD_memS (L := M) (k := i + 1) (by omega))
  have h3 : (M.getD i (0, 0)).1 + (M.getD i (0, 0)).2 ≤ (M.getD (i + 1) (0, 0)).1 := by
    simp only [lapB, Bool.and_eq_false_iff, decide_eq_false_iff_not] at h1
    omega
  have h4 : (M.getD (i + 1) (0, 0)).1 ≤ (M.getD j (0, 0)).1 := by
    by_cases hh : i + 1 = j
    · rw [hh]; exact Nat.le_refl _
    · exact hs (i + 1) j (by omega) hj
  have h5 : ¬ (M.getD j (0, 0)).1 < (M.getD i (0, 0)).1 + (M.getD i (0, 0)).2 := by omega
  unfold lapB
  rw [decide_eq_false h5, Bool.and_false]
theorem Ap.take {L : List (Nat × Nat)} (h : Ap L) (m : Nat) : Ap (L.take m) := List.Pairwise.sublist (List.take_sublist m L) h
theorem Wfs.take {L : List (Nat × Nat)} (h : Wfs L) (m : Nat) : Wfs (L.take m) := fun p hp => h p (List.mem_of_mem_take hp)
theorem ap_one (L : List (Nat × Nat)) : Ap (L.take 1) := by
  cases L with
  | nil => exact List.Pairwise.nil
  | cons a L => exact List.pairwise_singleton _ _
/-- the first one that laps over one ahead of it, and the first one over which it does -/
structure Fst (L : List (Nat × Nat)) (i j : Nat) : Prop where
  i1 : i < L.length
  j1 : j < i
  ap : Ap (L.take i)
  lp : lapB (L.getD j (0, 0)) (L.getD i (0, 0)) = true
  no : ∀ m, m < j → lapB (L.getD m (0, 0)) (L.getD i (0, 0)) = false
theorem ap_snoc {L : List (Nat × Nat)} {i : Nat} (hi : i < L.length) (h : Ap (L.take i)) (hn : ∀ m, m < i → lapB (L.getD m (0, 0)) (L.getD i (0, 0)) = false) : Ap (L.take (i + 1)) := by
  have e : L.take (i + 1) = L.take i ++ [L.getD i (0, 0)] := by
    rw [List.take_add_one, List.getElem?_eq_getElem hi]
    simp [List.getD_eq_getElem?_getD, List.getElem?_eq_getElem hi]
  rw [e]
  unfold Ap
  rw [List.pairwise_append]
  refine ⟨h, by simp, fun a ha b hb => ?_⟩
  have hb' : b = L.getD i (0, 0) := by simpa using hb
  subst hb'
  obtain ⟨m, hm, rfl⟩ := List.getElem_of_mem ha
  have hm2 : m < i := by rw [List.length_take] at hm; omega
  have := hn m hm2
  rw [List.getElem_take]
  simpa [List.getD_eq_getElem?_getD, show m < L.length by omega] using this
theorem Fst.not {L : List (Nat × Nat)} {i j : Nat} (h : Fst L i j) : ¬ Ap (L.take (i + 1)) := fun hp => by
  have hj := h.j1
  have hi := h.i1
  have := hp.at (i := j) (j := i) hj (by rw [List.length_take]; omega)
  have e1 : (L.take (i + 1)).getD j (0, 0) = L.getD j (0, 0) := by simp [List.getD_eq_getElem?_getD, show j < i + 1 by omega]
  have e2 : (L.take (i + 1)).getD i (0, 0) = L.getD i (0, 0) := by simp [List.getD_eq_getElem?_getD]
  rw [e1, e2, h.lp] at this
  cases this
theorem Fst.uniq {L : List (Nat × Nat)} {i j i' j' : Nat} (h : Fst L i j) (h' : Fst L i' j') : i = i' ∧ j = j' := by
  have hi : i = i' := by
    rcases Nat.lt_trichotomy i i' with hlt | he | hlt
    · exact absurd (by have := h'.ap.take (i + 1); rwa [List.take_take, Nat.min_eq_left (by omega)] at this) h.not
    · exact he
    · exact absurd (by have := h.ap.take (i' + 1); rwa [List.take_take, Nat.min_eq_left (by omega)] at this) h'.not
  subst hi
  refine ⟨rfl, ?_⟩
  rcases Nat.lt_trichotomy j j' with hlt | he | hlt
  · have := h'.no j hlt; rw [h.lp] at this; cases this
  · exact he
  · have := h.no j' hlt; rw [h'.lp] at this; cases this
theorem Fst.notAp {L : List (Nat × Nat)} {i j : Nat} (h : Fst L i j) : ¬ Ap L := fun hp => h.not (hp.take _)
theorem ap_or (L : List (Nat × Nat)) : Ap L ∨ ∃ i j, Fst L i j := by
  by_cases h : ∃ i j, Fst L i j
  · exact .inr h
  · left
    have key : ∀ n, n ≤ L.length → Ap (L.take n) := by
      intro n
      induction n with
      | zero => intro _; simp [Ap]
      | succ n ih =>
        intro hn
        have hp := ih (by omega)
        refine ap_snoc (by omega) hp fun m hm => ?_
        apply Classical.byContradiction
        intro hne
        have hex : ∃ j, j < n ∧ lapB (L.getD j (0, 0)) (L.getD n (0, 0)) = true ∧ ∀ q, q < j → lapB (L.getD q (0, 0)) (L.getD n (0, 0)) = false := by
          have : ∀ k, k < n → lapB (L.getD k (0, 0)) (L.getD n (0, 0)) = true → ∃ j, j < n ∧ lapB (L.getD j (0, 0)) (L.getD n (0, 0)) = true ∧ ∀ q, q < j → lapB (L.getD q (0, 0)) (L.getD n (0, 0)) = false := by
            intro k
            induction k using Nat.strongRecOn with
            | ind k ihk =>
              intro hk hl
              by_cases hq : ∃ q, q < k ∧ lapB (L.getD q (0, 0)) (L.getD n (0, 0)) = true
              · obtain ⟨q, hq1, hq2⟩ := hq
                exact ihk q hq1 (by omega) hq2
              · refine ⟨k, hk, hl, fun q hqk => ?_⟩
                cases hb : lapB (L.getD q (0, 0)) (L.getD n (0, 0))
                · rfl
                · exact absurd ⟨q, hqk, hb⟩ hq
          exact this m hm (by simpa using hne)
        obtain ⟨j, hj, hl, hno⟩ := hex
        exact h ⟨n, j, by omega, hj, hp, hl, hno⟩
    have := key L.length (Nat.le_refl _)
    rwa [List.take_length] at this
end Go.Proofs.Ytbaigjckimpkmaa
