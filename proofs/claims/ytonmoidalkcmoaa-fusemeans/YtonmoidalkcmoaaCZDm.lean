import Derived.Test.YtonmoidalkcmoaaCZTm
import Derived.Test.YtonmoidalkcmoaaCZLn
import Derived.BigQuiet
namespace Go.Proofs.Ytonmoidalkcmoaa
open Go.RowKit Go.WideShapes
set_option maxRecDepth 100000
/-- a row that is played on, without a comparison: the words that it leaves -/
def plR : List (Nat × Nat) → List Nat → Option (List Nat)
  | [], ws => some ws
  | p :: r, ws => if erV p.1 p.2 = 0 ∧ ¬ opKi p.1 = 2 then (match doD ws p.1 p.2 with | none => none | some ws' => plR r ws') else none
theorem plR_on {p : Nat × Nat} {r : List (Nat × Nat)} {ws ws' : List Nat} (h1 : erV p.1 p.2 = 0) (h2 : ¬ opKi p.1 = 2) (h3 : doD ws p.1 p.2 = some ws') : plR (p :: r) ws = plR r ws' := by simp [plR, h1, h2, h3]
/-- a row that comes to a word has left that word alone -/
theorem plD_word : ∀ (A : List (Nat × Nat)) (ws : List Nat) (v : Nat), plD A ws = some (2, v) → plR A ws = some [v]
  | [], ws, v, h => by
    unfold plD at h
    split at h
    · cases h
    · split at h
      · rename_i h1
        cases h
        match ws, h1 with
        | [x], _ => rfl
      · cases h
  | p :: r, ws, v, h => by
    by_cases h1 : erV p.1 p.2 = 0
    · by_cases h2 : opKi p.1 = 2
      · rw [plD_cmp h1 h2] at h
        split at h
        · split at h <;> cases h
        · cases h
      · cases hd : doD ws p.1 p.2 with
        | none => rw [plD_no h2 hd] at h; cases h
        | some ws' =>
          rw [plD_on h1 h2 hd] at h
          rw [plR_on h1 h2 hd]
          exact plD_word r ws' v h
    · rw [plD_er h1] at h; cases h
theorem plD_app : ∀ (A B : List (Nat × Nat)) (ws ws' : List Nat), plR A ws = some ws' → plD (A ++ B) ws = plD B ws'
  | [], B, ws, ws', h => by cases h; rfl
  | p :: r, B, ws, ws', h => by
    unfold plR at h
    split at h
    · rename_i h1
      cases hd : doD ws p.1 p.2 with
      | none => rw [hd] at h; cases h
      | some wt =>
        rw [hd] at h
        rw [List.cons_append, plD_on h1.1 h1.2 hd]
        exact plD_app r B wt ws' h
    · cases h
/-- an operation that stands behind a constant: it takes two words, or layer 21 does not know it -/
def stpB (op : Nat) : Bool := decide (opKi op = 2) || (decide (¬ op = 1) && decide (¬ op = 8) && decide (¬ op = 10) && decide (¬ op = 11) && decide (¬ unE op = 0))
theorem stp_none {p : Nat × Nat} {r : List (Nat × Nat)} (v : Nat) (h : stpB p.1 = true) : plD (p :: r) [v] = none := by
  by_cases h1 : erV p.1 p.2 = 0
  · by_cases h2 : opKi p.1 = 2
    · rw [plD_cmp h1 h2, if_neg (fun e => by simp at e)]
    · refine plD_no h2 ?_
      simp only [stpB, Bool.or_eq_true, Bool.and_eq_true, decide_eq_true_eq] at h
      rcases h with h | ⟨⟨⟨⟨a, b⟩, c⟩, d⟩, e⟩
      · exact absurd h h2
      · unfold doD
        rw [if_neg a, if_neg b, if_neg c, if_neg d, if_neg e]
        split
        · rw [if_neg (fun q => by simp at q)]
        · rfl
  · exact plD_er h1
theorem stp_cmp : ∀ op, op < 256 → 13 ≤ op → op ≤ 28 → stpB op = true := by decide +kernel
theorem stp_ls : ∀ op, op < 256 → 29 ≤ op → op ≤ 34 → stpB op = true := by decide +kernel
theorem stp_bin : ∀ op, op < 256 → 39 ≤ op → op ≤ 57 → opTa op = 2 → stpB op = true := by decide +kernel
theorem stp_5 : stpB 5 = true ∧ stpB 12 = true := by decide +kernel
/-- behind a constant that something stands behind no row is played -/
theorem stp_all {L : List (Nat × Nat)} {m v : Nat} {p : Nat × Nat} (hv : plD (L.take m) [] = some (2, v)) (hm : L[m]? = some p) (hs : stpB p.1 = true) (n : Nat) (hn : m < n) : plD (L.take n) [] = none := by
  have hl := (List.getElem?_eq_some_iff.1 hm).1
  have e : L.take n = L.take m ++ (p :: (L.drop (m + 1)).take (n - m - 1)) := by
    have h1 : L.take n = L.take m ++ (L.drop m).take (n - m) := by
      rw [show n = m + (n - m) by omega, List.take_add, show m + (n - m) - m = n - m by omega]
    rw [h1, List.drop_eq_getElem_cons hl, (List.getElem?_eq_some_iff.1 hm).2, show n - m = (n - m - 1) + 1 by omega, List.take_succ_cons, show n - m - 1 + 1 - 1 = n - m - 1 by omega]
  rw [e, plD_app _ _ _ _ (plD_word _ _ _ hv)]
  exact stp_none v hs
/-- the document's constant -/
def cnD (M : List (Nat × Nat)) (v : Nat) : Prop := 1 ≤ M.length ∧ M.length ≤ 16 ∧ plD M [] = some (2, v)
/-- one instruction is a constant just where it is const -/
theorem cnD_one {p : Nat × Nat} {v : Nat} : plD [p] [] = some (2, v) ↔ erV p.1 p.2 = 0 ∧ p.1 = 8 ∧ p.2 = v := by
  constructor
  · intro h
    by_cases h1 : erV p.1 p.2 = 0
    · by_cases h2 : opKi p.1 = 2
      · rw [plD_cmp h1 h2, if_neg (fun e => by simp at e)] at h; cases h
      · cases hd : doD [] p.1 p.2 with
        | none => rw [plD_no h2 hd] at h; cases h
        | some ws =>
          rw [plD_on h1 h2 hd] at h
          unfold doD at hd
          split at hd
          · cases hd; cases h
          split at hd
          · rename_i _ h8
            simp at hd
            subst hd
            simp [plD] at h
            exact ⟨h1, h8, h⟩
          split at hd
          · simp at hd
          split at hd
          · simp at hd
          split at hd
          · simp at hd
          split at hd
          · simp at hd
          · cases hd
    · rw [plD_er h1] at h; cases h
  · rintro ⟨h1, h8, rfl⟩
    have h2 : ¬ opKi p.1 = 2 := by rw [h8]; decide +kernel
    have hd : doD [] p.1 p.2 = some [p.2] := by rw [h8]; rfl
    rw [plD_on h1 h2 hd]
    rfl
theorem plD_first {p : Nat × Nat} {r : List (Nat × Nat)} {ws : List Nat} {q : Nat × Nat} (h : plD (p :: r) ws = some q) : erV p.1 p.2 = 0 := Decidable.byContradiction fun h1 => by rw [plD_er h1] at h; cases h
theorem lnP_zero {L : List (Nat × Nat)} {p : Nat × Nat} {r : List (Nat × Nat)} (hL : L = p :: r) (he : erV p.1 p.2 = 0) {K : Nat} (h0 : 0 < K) (hK : K ≤ L.length) : lnP L 0 K = (0, lgV (L.take K)) := by
  unfold lnP
  rw [if_pos ⟨h0, hK, by rw [hL]; exact he⟩, List.drop_zero, Nat.sub_zero]
theorem wf_lt {L : List (Nat × Nat)} (h : Wfc L) (K : Nat) : ∀ p ∈ L.take K, p.1 < 256 := fun p hp => (h p (List.mem_of_mem_take hp)).1
/-- the program's constant, where something stands behind it -/
theorem cnV_fit {L : List (Nat × Nat)} (hwf : Wfc L) {m v : Nat} {p : Nat × Nat} (h1 : 1 ≤ m) (h16 : m ≤ 16) (hc : plD (L.take m) [] = some (2, v)) (hm : L[m]? = some p) (hs : stpB p.1 = true) : cnV L = (m, v) := by
  have hl := (List.getElem?_eq_some_iff.1 hm).1
  have hLq : ∃ q r, L = q :: r := by
    cases L with
    | nil => simp at hl
    | cons q r => exact ⟨q, r, rfl⟩
  obtain ⟨q, r, hL⟩ := hLq
  have he : erV q.1 q.2 = 0 := by
    rw [hL, take_pos h1] at hc
    exact plD_first hc
  obtain ⟨K, hK⟩ : ∃ K, K = min L.length 16 := ⟨_, rfl⟩
  have hK1 : m ≤ K := by omega
  have hK2 : K ≤ L.length := by omega
  have hkl : (L.take K).length = K := by rw [List.length_take]; omega
  have htk : ∀ n, n ≤ K → (L.take K).take n = L.take n := fun n hn => by rw [List.take_take, Nat.min_eq_left hn]
  have hb := lgF_bst (L.take K) [] 0 (1, 1, 0) (wf_lt hwf K) (by decide) (fun _ => rfl)
  have hP := lnP_zero hL he (by omega : 0 < K) hK2
  unfold cnV
  rw [← hK, hP]
  change Bst (L.take K) [] 0 (1, 1, 0) (lgV (L.take K)) at hb
  rcases hb with ⟨n, k, v', n1, n2, n3, n4, n5, n6⟩ | ⟨n1, n2⟩
  · rw [hkl] at n2 n6
    rw [htk n n2] at n4
    have hnm : n = m := by
      rcases Nat.lt_trichotomy n m with h | h | h
      · have := n6 m h hK1
        rw [htk m hK1, hc] at this
        cases this
      · exact h
      · rw [stp_all hc hm hs n h] at n4
        cases n4
    subst hnm
    rw [hc] at n4
    cases n4
    rw [n5]
    simp
  · rw [hkl] at n1
    have hm1 : m = 1 := by
      apply Decidable.byContradiction
      intro hne
      have := n1 m h1 hK1 (by omega)
      rw [htk m hK1, hc] at this
      cases this
    subst hm1
    rw [hL, List.take_succ_cons, List.take_zero] at hc
    obtain ⟨-, a2, a3⟩ := cnD_one.1 hc
    rw [n2]
    rw [if_neg (by simp), if_pos ⟨rfl, by rw [hL]; exact a2⟩, hL]
    simp [a3]
/-- the program's constant is one -/
theorem cnV_is {L : List (Nat × Nat)} (hwf : Wfc L) (h : 0 < (cnV L).1) : (cnV L).1 ≤ L.length ∧ (cnV L).1 ≤ 16 ∧ plD (L.take (cnV L).1) [] = some (2, (cnV L).2) := by
  obtain ⟨K, hK⟩ : ∃ K, K = min L.length 16 := ⟨_, rfl⟩
  cases L with
  | nil => exact absurd h (by decide +kernel)
  | cons q r =>
    have hK2 : K ≤ (q :: r).length := by omega
    have hK0 : 0 < K := by simp only [List.length_cons] at hK; omega
    by_cases he : erV q.1 q.2 = 0
    · have hP := lnP_zero (L := q :: r) rfl he hK0 hK2
      have hkl : ((q :: r).take K).length = K := by rw [List.length_take]; omega
      have hb := lgF_bst ((q :: r).take K) [] 0 (1, 1, 0) (wf_lt hwf K) (by decide) (fun _ => rfl)
      change Bst ((q :: r).take K) [] 0 (1, 1, 0) (lgV ((q :: r).take K)) at hb
      unfold cnV at h ⊢
      rw [← hK, hP] at h ⊢
      rcases hb with ⟨n, k, v', n1, n2, n3, n4, n5, n6⟩ | ⟨n1, n2⟩
      · rw [hkl] at n2
        rw [List.take_take, Nat.min_eq_left n2] at n4
        rw [n5] at h ⊢
        simp only [Nat.zero_add] at h ⊢
        by_cases hk : k = 2
        · subst hk
          rw [if_pos rfl]
          exact ⟨by omega, by omega, n4⟩
        · rw [if_neg hk] at h ⊢
          by_cases hk1 : k = 1 ∧ ((q :: r).getD 0 (0, 0)).1 = 8
          · rw [if_pos hk1]
            exact ⟨by simp, (by decide : 1 ≤ 16), by rw [List.take_succ_cons, List.take_zero]; exact cnD_one.2 ⟨he, hk1.2, rfl⟩⟩
          · rw [if_neg hk1] at h; exact absurd h (by decide)
      · rw [n2] at h ⊢
        rw [if_neg (by decide)] at h ⊢
        by_cases hk1 : (1 : Nat) = 1 ∧ ((q :: r).getD 0 (0, 0)).1 = 8
        · rw [if_pos hk1]
          exact ⟨by simp, (by decide : 1 ≤ 16), by rw [List.take_succ_cons, List.take_zero]; exact cnD_one.2 ⟨he, hk1.2, rfl⟩⟩
        · rw [if_neg hk1] at h; exact absurd h (by decide)
    · have hP : lnP (q :: r) 0 K = (0, 0, 0, 0) := if_neg (fun e => he e.2.2)
      unfold cnV at h
      rw [← hK, hP, if_neg (by decide), if_neg (fun e => by cases e.1)] at h
      exact absurd h (by decide)
open Go.Shelf
def dBin (op : Nat) : Bool := isOp op && decide (opKi op = 1) && decide (opTa op = 2) && decide (opGi op = 1)
def dBra (op : Nat) : Bool := isOp op && decide (opKi op = 2)
def dLoa (op : Nat) : Bool := decide (op = 29) || decide (op = 30) || decide (op = 31)
def dSto (op : Nat) : Bool := decide (op = 32) || decide (op = 33) || decide (op = 34)
theorem dBin_eq : ∀ op, op < 256 → dBin op = (decide (39 ≤ op) && decide (op ≤ 57) && decide (opTa op = 2)) := by decide +kernel
theorem dBra_eq : ∀ op, op < 256 → dBra op = (decide (13 ≤ op) && decide (op ≤ 28)) := by decide +kernel
theorem dLoa_eq : ∀ op, op < 256 → dLoa op = (decide (29 ≤ op) && decide (op ≤ 31)) := by decide +kernel
theorem dSto_eq : ∀ op, op < 256 → dSto op = (decide (32 ≤ op) && decide (op ≤ 34)) := by decide +kernel
/-- all instructions of a stretch may be -/
def mayD (L : List (Nat × Nat)) (a e : Nat) : Bool := ((L.drop a).take (e - a)).all fun p => decide (erV p.1 p.2 = 0)
theorem mayD_end (L : List (Nat × Nat)) (a e : Nat) (h : e ≤ a) : mayD L a e = true := by simp [mayD, show e - a = 0 by omega]
theorem mayD_step (L : List (Nat × Nat)) (a e : Nat) (h : a < e) (hl : a < L.length) : mayD L a e = (decide (erV (L.getD a (0, 0)).1 (L.getD a (0, 0)).2 = 0) && mayD L (a + 1) e) := by
  unfold mayD
  rw [List.drop_eq_getElem_cons hl, show e - a = (e - (a + 1)) + 1 by omega, List.take_succ_cons, List.all_cons, List.getD_eq_getElem?_getD, List.getElem?_eq_getElem hl]
  rfl
theorem beqN (n k : Nat) : ((n : Int) == (k : Int)) = decide (n = k) := by
  by_cases h : n = k
  · subst h; simp
  · rw [decide_eq_false h, beq_eq_false_iff_ne]; omega
/-- the document's constant: what a stretch's value is, if it is one -/
def cnO (M : List (Nat × Nat)) : Option Nat :=
  if 1 ≤ M.length ∧ M.length ≤ 16 then (match plD M [] with | some (2, v) => some v | _ => none) else none
theorem cnO_some {M : List (Nat × Nat)} {v : Nat} : cnO M = some v ↔ 1 ≤ M.length ∧ M.length ≤ 16 ∧ plD M [] = some (2, v) := by
  unfold cnO
  by_cases h : 1 ≤ M.length ∧ M.length ≤ 16
  · rw [if_pos h]
    constructor
    · intro q
      split at q
      · rename_i v' hv; cases q; exact ⟨h.1, h.2, hv⟩
      · cases q
    · rintro ⟨-, -, q⟩
      simp only [q]
  · rw [if_neg h]
    constructor
    · intro q; cases q
    · rintro ⟨a, b, -⟩; exact absurd ⟨a, b⟩ h
theorem cnO_none {M : List (Nat × Nat)} (h : ∀ v, plD M [] = some (2, v) → False) : cnO M = none := by
  cases hc : cnO M with
  | none => rfl
  | some v => exact (h v (cnO_some.1 hc).2.2).elim
theorem plR_valid : ∀ (A : List (Nat × Nat)) (ws ws' : List Nat), plR A ws = some ws' → A.all (fun p => decide (erV p.1 p.2 = 0)) = true
  | [], _, _, _ => rfl
  | p :: r, ws, ws', h => by
    unfold plR at h
    split at h
    · rename_i h1
      split at h
      · cases h
      · rename_i wt _
        rw [List.all_cons, plR_valid r wt ws' h, decide_eq_true h1.1]
        rfl
    · cases h
theorem sub_len {L : List (Nat × Nat)} {a e : Nat} (he : e ≤ L.length) : ((L.drop a).take (e - a)).length = e - a := by rw [List.length_take, List.length_drop]; omega
theorem sub_one {L : List (Nat × Nat)} {a : Nat} (h : a < L.length) : (L.drop a).take 1 = [L.getD a (0, 0)] := by
  rw [List.drop_eq_getElem_cons h, List.take_succ_cons, List.take_zero, List.getD_eq_getElem?_getD, List.getElem?_eq_getElem h]
  rfl
/-- what the document's Longest says of a stretch of two and more that may be -/
theorem lnP_con {L : List (Nat × Nat)} (hwf : Wfc L) {a e : Nat} (h : a + 2 ≤ e) (he : e ≤ L.length) (hv : erV (L.getD a (0, 0)).1 (L.getD a (0, 0)).2 = 0) (v : Nat) :
    plD ((L.drop a).take (e - a)) [] = some (2, v) ↔ (lnP L a e).2.2.1 = 2 ∧ (lnP L a e).2.1 = e - a ∧ (lnP L a e).2.2.2 = v := by
  have hP : lnP L a e = (a, lgV ((L.drop a).take (e - a))) := if_pos ⟨by omega, he, hv⟩
  rw [hP]
  have hl := sub_len (L := L) (a := a) he
  have hb := lgF_bst ((L.drop a).take (e - a)) [] 0 (1, 1, 0) (fun p hp => (wfc_sub hwf a (e - a) p hp).1) (by decide) (fun _ => rfl)
  change Bst _ [] 0 (1, 1, 0) (lgV ((L.drop a).take (e - a))) at hb
  generalize (L.drop a).take (e - a) = M at *
  rcases hb with ⟨n, k, v', n1, n2, n3, n4, n5, n6⟩ | ⟨n1, n2⟩
  · rw [n5]
    simp only [Nat.zero_add]
    constructor
    · intro q
      have : n = M.length := by
        apply Decidable.byContradiction
        intro hne
        have := n6 M.length (by omega) (Nat.le_refl _)
        rw [List.take_of_length_le (Nat.le_refl _), q] at this
        cases this
      rw [this, List.take_of_length_le (Nat.le_refl _), q] at n4
      cases n4
      exact ⟨rfl, by omega, rfl⟩
    · rintro ⟨rfl, h2, rfl⟩
      rwa [h2, ← hl, List.take_of_length_le (Nat.le_refl _)] at n4
  · rw [n2]
    constructor
    · intro q
      have := n1 M.length (by omega) (Nat.le_refl _) (by omega)
      rw [List.take_of_length_le (Nat.le_refl _), q] at this
      cases this
    · rintro ⟨q, -, -⟩
      cases q
/-- what constant answers -/
def DcP (M : List (Nat × Nat)) (x : Ending) : Prop := ∃ (v : Nat) (ok : Bool), x = .returned (.tuple #[.int .u32 (v : Int), .bool ok]) ∧ cnO M = if ok = true then some v else none
/-- what folded answers -/
def FdP (a k er : Nat) (q : Nat × Nat × Nat × Nat) (x : Ending) : Prop := ∃ (f : Fz) (ok : Bool), x = .returned (.tuple #[.agg (fzA f), .bool ok]) ∧ ok = (decide (er = 0) && decide (2 ≤ q.2.1) && decide ((if q.2.2.1 = 4 then 4 else if q.2.2.1 = 3 then 3 else 2) = k)) ∧ (ok = true → f = ⟨a, q.2.1, k, 0, q.2.2.2, 0⟩)
/-- a row of a constant and one instruction behind it -/
theorem row_cl {M : List (Nat × Nat)} {lk : Lk} {c v : Nat} {q : Nat × Nat} (hc : cnV M = (c, v)) (h0 : 0 < c) (hq : M[c]? = some q) (he : erV q.1 q.2 = 0) (hk : (lk q ⟨0, c + 1, 0, 0, v, 0⟩).2 = true) : shRow [ptConst layA, ptSingle lk] M = (lk q ⟨0, c + 1, 0, 0, v, 0⟩).1 := by
  have hl := (List.getElem?_eq_some_iff.1 hq).1
  have hd : M.drop c = q :: M.drop (c + 1) := by rw [List.drop_eq_getElem_cons hl, (List.getElem?_eq_some_iff.1 hq).2]
  have h1 : ptConst layA (M.drop fz0.len) fz0 = (⟨0, c, 0, 0, v, 0⟩, true) := by
    show ptConst layA (M.drop 0) fz0 = _
    rw [List.drop_zero]
    unfold ptConst
    rw [hc, decide_eq_true h0]
    simp [layA, fz0]
  have h2 : ptSingle lk (M.drop c) ⟨0, c, 0, 0, v, 0⟩ = lk q ⟨0, c + 1, 0, 0, v, 0⟩ := by
    rw [hd]
    exact if_pos he
  unfold shRow rwF
  rw [h1, if_pos rfl]
  unfold rwF
  rw [show (⟨0, c, 0, 0, v, 0⟩ : Fz).len = c from rfl, h2, if_pos hk]
  rfl
theorem row_cl_back {M : List (Nat × Nat)} {lk : Lk} (h : ¬ (shRow [ptConst layA, ptSingle lk] M).len = 0) : ∃ c v q, cnV M = (c, v) ∧ 0 < c ∧ M[c]? = some q ∧ erV q.1 q.2 = 0 ∧ (lk q ⟨0, c + 1, 0, 0, v, 0⟩).2 = true := by
  obtain ⟨c, v, hcv⟩ : ∃ c v : Nat, cnV M = (c, v) := ⟨_, _, rfl⟩
  by_cases h0 : 0 < c
  · have h1 : ptConst layA (M.drop fz0.len) fz0 = (⟨0, c, 0, 0, v, 0⟩, true) := by
      show ptConst layA (M.drop 0) fz0 = _
      rw [List.drop_zero]
      unfold ptConst
      rw [hcv, decide_eq_true h0]
      simp [layA, fz0]
    unfold shRow rwF at h
    rw [h1, if_pos rfl] at h
    unfold rwF at h
    rw [show (⟨0, c, 0, 0, v, 0⟩ : Fz).len = c from rfl] at h
    cases hd : M.drop c with
    | nil => rw [hd] at h; exact absurd rfl h
    | cons q r =>
      have hl : c < M.length := by
        apply Decidable.byContradiction
        intro hn
        rw [List.drop_eq_nil_of_le (by omega)] at hd
        cases hd
      have hq : M[c]? = some q := by
        rw [List.drop_eq_getElem_cons hl] at hd
        injection hd with h1 _
        rw [List.getElem?_eq_getElem hl, h1]
      rw [hd] at h
      by_cases he : erV q.1 q.2 = 0
      · rw [show ptSingle lk (q :: r) ⟨0, c, 0, 0, v, 0⟩ = lk q ⟨0, c + 1, 0, 0, v, 0⟩ from if_pos he] at h
        by_cases hk : (lk q ⟨0, c + 1, 0, 0, v, 0⟩).2 = true
        · exact ⟨c, v, q, hcv, h0, hq, he, hk⟩
        · rw [if_neg hk] at h; exact absurd rfl h
      · rw [show ptSingle lk (q :: r) ⟨0, c, 0, 0, v, 0⟩ = (⟨0, c, 0, 0, v, 0⟩, false) from if_neg he, if_neg (by simp)] at h
        exact absurd rfl h
  · unfold shRow rwF at h
    have h1 : (ptConst layA (M.drop fz0.len) fz0).2 = false := by
      show (ptConst layA (M.drop 0) fz0).2 = _
      rw [List.drop_zero]
      unfold ptConst
      rw [hcv]
      exact decide_eq_false h0
    rw [if_neg (by rw [h1]; decide)] at h
    exact absurd rfl h
end Go.Proofs.Ytonmoidalkcmoaa
