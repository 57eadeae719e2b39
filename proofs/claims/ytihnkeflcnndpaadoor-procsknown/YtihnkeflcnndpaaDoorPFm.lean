import Derived.Test.YtihnkeflcnndpaaDoorPCm
namespace Go.Proofs.YtihnkeflcnndpaaDoor
set_option maxRecDepth 100000

theorem prs_get (L : List (Nat × Nat)) : ∀ (bs : List Nat) (i : Nat), i < bs.length → (prs L bs).getD i (0, 0, 0) = (bs.getD i 0, bs.getD (i + 1) L.length, argL L (bs.getD i 0))
  | [], i, h => by simp at h
  | [b], 0, _ => rfl
  | [b], i + 1, h => by simp at h
  | b :: c :: t, 0, _ => rfl
  | b :: c :: t, i + 1, h => by
    have := prs_get L (c :: t) i (by simpa using h)
    rw [prs, List.getD_cons_succ, this]
    rfl
theorem els_up (n : Nat) (p : Nat → Bool) : (els n p).Pairwise (· < ·) := List.Pairwise.filter _ List.pairwise_lt_range
theorem els_cut (n m : Nat) (p : Nat → Bool) (h : m ≤ n) : els n p = els m p ++ rng p m n := by
  rw [← rng_els, ← rng_els, rng_cut (Nat.zero_le m) h]
theorem getD_outP {l : List Nat} {i d : Nat} (h : l.length ≤ i) : l.getD i d = d := by
  rw [List.getD_eq_getElem?_getD, List.getElem?_eq_none h]
  rfl
theorem getD_memP {l : List Nat} {i d : Nat} (h : i < l.length) : l.getD i d ∈ l := by
  rw [List.getD_eq_getElem?_getD, List.getElem?_eq_getElem h]
  exact List.getElem_mem h
/-- the procedures' beginnings -/
abbrev bgs (L : List (Nat × Nat)) : List Nat := els L.length (isEn L)
theorem bgs_lt {L : List (Nat × Nat)} {i : Nat} (h : i < (bgs L).length) : (bgs L).getD i 0 < L.length := (mem_els.1 (getD_memP h)).1
theorem bgs_end {L : List (Nat × Nat)} (i : Nat) : (bgs L).getD i L.length ≤ L.length := by
  by_cases h : i < (bgs L).length
  · exact Nat.le_of_lt (mem_els.1 (getD_memP h)).1
  · rw [getD_outP (by omega)]
    exact Nat.le_refl _
theorem bgs_is {L : List (Nat × Nat)} {i : Nat} (h : i < (bgs L).length) : isEn L ((bgs L).getD i 0) = true := (mem_els.1 (getD_memP h)).2
theorem getD_anyP {l : List Nat} {i : Nat} (h : i < l.length) (d e : Nat) : l.getD i d = l.getD i e := by
  rw [List.getD_eq_getElem?_getD, List.getD_eq_getElem?_getD, List.getElem?_eq_getElem h]
  rfl
theorem bgs_up {L : List (Nat × Nat)} {i j d : Nat} (hij : i < j) (h : j < (bgs L).length) : (bgs L).getD i 0 < (bgs L).getD j d := by
  have := List.pairwise_iff_getElem.1 (els_up L.length (isEn L)) i j (Nat.lt_trans hij h) h hij
  rw [List.getD_eq_getElem?_getD, List.getD_eq_getElem?_getD, List.getElem?_eq_getElem h, List.getElem?_eq_getElem (Nat.lt_trans hij h)]
  exact this
theorem bgs_pos {L : List (Nat × Nat)} (hE : isEn L 0 = true) : 0 < (bgs L).length := by
  have h0 : 0 < L.length := by
    unfold isEn at hE
    simp at hE
    exact hE.1
  exact List.length_pos_of_mem (mem_els.2 ⟨h0, hE⟩)
theorem bgs_first {L : List (Nat × Nat)} (hE : isEn L 0 = true) : (bgs L).getD 0 0 = 0 := by
  have hp := bgs_pos hE
  have h0 : 0 < L.length := by
    unfold isEn at hE
    simp at hE
    exact hE.1
  have hm : 0 ∈ bgs L := mem_els.2 ⟨h0, hE⟩
  obtain ⟨j, hj, he⟩ := List.getElem_of_mem hm
  by_cases hz : j = 0
  · subst hz
    rw [List.getD_eq_getElem?_getD, List.getElem?_eq_getElem hj]
    exact he
  · have := bgs_up (L := L) (i := 0) (j := j) (d := 0) (by omega) hj
    rw [List.getD_eq_getElem?_getD (i := j), List.getElem?_eq_getElem hj] at this
    simp only [Option.getD_some] at this
    rw [he] at this
    omega
/-- how many begin up to a place -/
theorem cnt_eq {L : List (Nat × Nat)} {i x : Nat} (hi : i < (bgs L).length) (h1 : (bgs L).getD i 0 ≤ x) (h2 : x < (bgs L).getD (i + 1) L.length) : (els (x + 1) (isEn L)).length = i + 1 := by
  have hx : x < L.length := Nat.lt_of_lt_of_le h2 (bgs_end _)
  have hc := els_cut L.length (x + 1) (isEn L) (by omega)
  have hl : (bgs L).length = (els (x + 1) (isEn L)).length + (rng (isEn L) (x + 1) L.length).length := by rw [bgs, hc, List.length_append]
  have a1 : i < (els (x + 1) (isEn L)).length := by
    refine Nat.lt_of_not_le fun hk => ?_
    have : (bgs L).getD i 0 ∈ rng (isEn L) (x + 1) L.length := by
      rw [bgs, hc, List.getD_eq_getElem?_getD, List.getElem?_append_right hk, ← List.getD_eq_getElem?_getD]
      exact getD_memP (by omega)
    have := (mem_rng.1 this).1.1
    omega
  have a2 : ¬ i + 1 < (els (x + 1) (isEn L)).length := fun hk => by
    have : (bgs L).getD (i + 1) L.length ∈ els (x + 1) (isEn L) := by
      rw [bgs, hc, List.getD_eq_getElem?_getD, List.getElem?_append_left hk, ← List.getD_eq_getElem?_getD]
      exact getD_memP hk
    have := (mem_els.1 this).1
    omega
  omega
/-- in which procedure an instruction lies; -1: in none -/
def ofL (L : List (Nat × Nat)) (x : Nat) : Int := if x < L.length then ((els (x + 1) (isEn L)).length : Int) - 1 else -1
theorem ofL_in {L : List (Nat × Nat)} {i x : Nat} (hi : i < (bgs L).length) (h1 : (bgs L).getD i 0 ≤ x) (h2 : x < (bgs L).getD (i + 1) L.length) : ofL L x = (i : Int) := by
  have hx : x < L.length := Nat.lt_of_lt_of_le h2 (bgs_end _)
  rw [ofL, if_pos hx, cnt_eq hi h1 h2]
  omega
/-- what the search gives -/
theorem of_eq {L : List (Nat × Nat)} (hE : isEn L 0 = true) {x i : Nat} (hi : i ≤ (bgs L).length) (h1 : i = (bgs L).length ∨ x < (bgs L).getD (i + 1) L.length) (h2 : i = 0 ∨ (bgs L).getD (i - 1 + 1) L.length ≤ x) : (if i = (bgs L).length then (-1 : Int) else (i : Int)) = ofL L x := by
  have hp := bgs_pos hE
  by_cases he : i = (bgs L).length
  · rw [if_pos he]
    rcases h2 with h2 | h2
    · omega
    · rw [show i - 1 + 1 = i by omega, getD_outP (by omega)] at h2
      rw [ofL, if_neg (by omega)]
  · rw [if_neg he]
    rcases h1 with h1 | h1
    · exact absurd h1 he
    · refine (ofL_in (by omega) ?_ h1).symm
      rcases h2 with h2 | h2
      · subst h2
        rw [bgs_first hE]
        omega
      · by_cases hz : i = 0
        · subst hz
          rw [bgs_first hE]
          omega
        · rw [show i - 1 + 1 = i by omega] at h2
          rw [getD_anyP (by omega) 0 L.length]
          exact h2
theorem is_in {L : List (Nat × Nat)} {i x : Nat} (hi : i < (bgs L).length) (h1 : (bgs L).getD i 0 ≤ x) (h2 : x < (bgs L).getD (i + 1) L.length) : isEn L x = decide (x = (bgs L).getD i 0) := by
  have hx : x < L.length := Nat.lt_of_lt_of_le h2 (bgs_end _)
  by_cases he : x = (bgs L).getD i 0
  · rw [decide_eq_true he, he]
    exact bgs_is hi
  · rw [decide_eq_false he]
    cases hq : isEn L x with
    | false => rfl
    | true =>
      exfalso
      obtain ⟨j, hj, hv⟩ := List.getElem_of_mem (mem_els.2 ⟨hx, hq⟩ : x ∈ bgs L)
      have hg : ∀ d, (bgs L).getD j d = x := fun d => by
        rw [List.getD_eq_getElem?_getD, List.getElem?_eq_getElem hj]
        exact hv
      rcases Nat.lt_trichotomy j i with h | h | h
      · have := bgs_up (L := L) (d := 0) h hi
        rw [hg 0] at this
        omega
      · subst h
        exact he (hg 0).symm
      · by_cases hs : j = i + 1
        · subst hs
          rw [hg L.length] at h2
          omega
        · have := bgs_up (L := L) (i := i + 1) (j := j) (d := 0) (by omega) hj
          have hj' : i + 1 < (bgs L).length := Nat.lt_of_le_of_lt (by omega) hj
          have h4 := getD_anyP hj' 0 L.length
          have h5 := hg 0
          omega
/-- each instruction lies in one -/
theorem lies_in {L : List (Nat × Nat)} (hE : isEn L 0 = true) {x : Nat} (hx : x < L.length) : ∃ i, i < (bgs L).length ∧ (bgs L).getD i 0 ≤ x ∧ x < (bgs L).getD (i + 1) L.length := by
  have hc := els_cut L.length (x + 1) (isEn L) (by omega)
  have hl : (bgs L).length = (els (x + 1) (isEn L)).length + (rng (isEn L) (x + 1) L.length).length := by rw [bgs, hc, List.length_append]
  have hp : 0 < (els (x + 1) (isEn L)).length := List.length_pos_of_mem (mem_els.2 ⟨by omega, hE⟩)
  refine ⟨(els (x + 1) (isEn L)).length - 1, by omega, ?_, ?_⟩
  · have : (bgs L).getD ((els (x + 1) (isEn L)).length - 1) 0 ∈ els (x + 1) (isEn L) := by
      rw [bgs, hc, List.getD_eq_getElem?_getD, List.getElem?_append_left (by omega), ← List.getD_eq_getElem?_getD]
      exact getD_memP (by omega)
    have := (mem_els.1 this).1
    omega
  · rw [show (els (x + 1) (isEn L)).length - 1 + 1 = (els (x + 1) (isEn L)).length by omega]
    by_cases hr : (els (x + 1) (isEn L)).length < (bgs L).length
    · have : (bgs L).getD (els (x + 1) (isEn L)).length L.length ∈ rng (isEn L) (x + 1) L.length := by
        rw [bgs, hc, List.getD_eq_getElem?_getD, List.getElem?_append_right (Nat.le_refl _), ← List.getD_eq_getElem?_getD]
        exact getD_memP (by omega)
      have := (mem_rng.1 this).1.1
      omega
    · rw [getD_outP (by omega)]
      exact hx
theorem ofL_neg {L : List (Nat × Nat)} (hE : isEn L 0 = true) (x : Nat) : ofL L x < 0 ↔ ¬ x < L.length := by
  constructor
  · intro h hx
    obtain ⟨i, h1, h2, h3⟩ := lies_in hE hx
    rw [ofL_in h1 h2 h3] at h
    omega
  · intro h
    rw [ofL, if_neg h]
    omega
end Go.Proofs.YtihnkeflcnndpaaDoor
