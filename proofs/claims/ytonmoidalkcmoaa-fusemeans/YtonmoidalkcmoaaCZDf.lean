import Derived.Test.YtonmoidalkcmoaaCZDm
namespace Go.Proofs.Ytonmoidalkcmoaa
open Go.RowKit Go.WideShapes
set_option maxRecDepth 100000
/-- what the shapes of a constant want behind it -/
def lkD : Nat → Lk
  | 5 => lkBin
  | 6 => lkCmp
  | 7 => lkArg
  | 8 => lkOnly 5
  | 9 => lkLoad
  | _ => lkStore
/-- what the document's last makes of it -/
def dsC (k at_ n : Nat) (q : Nat × Nat) (v : Nat) : Option Fz :=
  if k = 5 then (if dBin q.1 = true then some ⟨at_, n, 5, q.1, v, 0⟩ else none)
  else if k = 6 then (if dBra q.1 = true then some ⟨at_, n, 6, q.1, v, q.2⟩ else none)
  else if k = 7 then (if q.1 = 12 then some ⟨at_, n, 7, 0, v, q.2⟩ else none)
  else if k = 8 then (if q.1 = 5 then some ⟨at_, n, 8, 0, v, 0⟩ else none)
  else if k = 9 then (if dLoa q.1 = true then some ⟨at_, n, 9, q.1, v, 0⟩ else none)
  else (if dSto q.1 = true then some ⟨at_, n, 10, q.1, v, 0⟩ else none)
theorem dsC_eq {k : Nat} (h1 : 5 ≤ k) (h2 : k ≤ 10) (at_ n : Nat) (q : Nat × Nat) (v : Nat) (hq : q.1 < 256) :
    dsC k at_ n q v = if (lkD k q ⟨0, n, 0, 0, v, 0⟩).2 = true then some { (lkD k q ⟨0, n, 0, 0, v, 0⟩).1 with at_ := at_, kind := k } else none := by
  have hc : k = 5 ∨ k = 6 ∨ k = 7 ∨ k = 8 ∨ k = 9 ∨ k = 10 := by omega
  rcases hc with rfl | rfl | rfl | rfl | rfl | rfl
  · show (if dBin q.1 = true then _ else none) = _
    rw [dBin_eq q.1 hq]; rfl
  · show (if dBra q.1 = true then _ else none) = _
    rw [dBra_eq q.1 hq]; rfl
  · show (if q.1 = 12 then _ else none) = if decide (q.1 = 12) = true then _ else none
    by_cases h : q.1 = 12 <;> simp [h, lkD, lkArg]
  · show (if q.1 = 5 then _ else none) = if decide (q.1 = 5) = true then _ else none
    by_cases h : q.1 = 5 <;> simp [h, lkD, lkOnly]
  · show (if dLoa q.1 = true then _ else none) = _
    rw [dLoa_eq q.1 hq]; rfl
  · show (if dSto q.1 = true then _ else none) = _
    rw [dSto_eq q.1 hq]; rfl
theorem lkD_stp {k : Nat} (h1 : 5 ≤ k) (h2 : k ≤ 10) (q : Nat × Nat) (f : Fz) (hq : q.1 < 256) (h : (lkD k q f).2 = true) : stpB q.1 = true := by
  have hc : k = 5 ∨ k = 6 ∨ k = 7 ∨ k = 8 ∨ k = 9 ∨ k = 10 := by omega
  rcases hc with rfl | rfl | rfl | rfl | rfl | rfl
  · have h : (decide (39 ≤ q.1) && decide (q.1 ≤ 57) && decide (opTa q.1 = 2)) = true := h
    simp only [Bool.and_eq_true, decide_eq_true_eq] at h
    exact stp_bin q.1 hq h.1.1 h.1.2 h.2
  · have h : (decide (13 ≤ q.1) && decide (q.1 ≤ 28)) = true := h
    simp only [Bool.and_eq_true, decide_eq_true_eq] at h
    exact stp_cmp q.1 hq h.1 h.2
  · have h : decide (q.1 = 12) = true := h
    rw [of_decide_eq_true h]; exact stp_5.2
  · have h : decide (q.1 = 5) = true := h
    rw [of_decide_eq_true h]; exact stp_5.1
  · have h : (decide (29 ≤ q.1) && decide (q.1 ≤ 31)) = true := h
    simp only [Bool.and_eq_true, decide_eq_true_eq] at h
    exact stp_ls q.1 hq h.1 (by omega)
  · have h : (decide (32 ≤ q.1) && decide (q.1 ≤ 34)) = true := h
    simp only [Bool.and_eq_true, decide_eq_true_eq] at h
    exact stp_ls q.1 hq (by omega) h.2
theorem lkD_len {k : Nat} (h1 : 5 ≤ k) (h2 : k ≤ 10) (q : Nat × Nat) (f : Fz) : (lkD k q f).1.len = f.len := by
  have hc : k = 5 ∨ k = 6 ∨ k = 7 ∨ k = 8 ∨ k = 9 ∨ k = 10 := by omega
  rcases hc with rfl | rfl | rfl | rfl | rfl | rfl <;> rfl
theorem shK_con {k : Nat} (h1 : 5 ≤ k) (h2 : k ≤ 10) : shK k = shRow [ptConst layA, ptSingle (lkD k)] := by
  have hc : k = 5 ∨ k = 6 ∨ k = 7 ∨ k = 8 ∨ k = 9 ∨ k = 10 := by omega
  rcases hc with rfl | rfl | rfl | rfl | rfl | rfl <;> rfl
/-- where the document's shape of a constant fits, the program's thing is just that -/
theorem con_A {M : List (Nat × Nat)} (hwf : Wfc M) {k at_ n v : Nat} {q : Nat × Nat} {f : Fz} (h1 : 5 ≤ k) (h2 : k ≤ 10) (hc : cnO (M.take (n - 1)) = some v) (hn : 2 ≤ n) (hq : M[n - 1]? = some q) (he : erV q.1 q.2 = 0) (hd : dsC k at_ n q v = some f) : fkV M at_ k = (f, true) := by
  have hl := (List.getElem?_eq_some_iff.1 hq).1
  have hq2 : q.1 < 256 := (hwf q (List.mem_of_getElem? hq)).1
  rw [dsC_eq h1 h2 at_ n q v hq2] at hd
  obtain ⟨c1, c2, c3⟩ := cnO_some.1 hc
  have hm : (M.take (n - 1)).length = n - 1 := by rw [List.length_take]; omega
  by_cases hk : (lkD k q ⟨0, n, 0, 0, v, 0⟩).2 = true
  · rw [if_pos hk] at hd
    cases hd
    have hcv := cnV_fit hwf (by omega : 1 ≤ n - 1) (by omega) c3 hq (lkD_stp h1 h2 q _ hq2 hk)
    have hr := row_cl (lk := lkD k) hcv (by omega) hq he (by rw [show n - 1 + 1 = n by omega]; exact hk)
    rw [show n - 1 + 1 = n by omega] at hr
    unfold fkV fitV
    rw [shK_con h1 h2, hr, if_neg (by rw [lkD_len h1 h2]; simp only; omega)]
  · rw [if_neg hk] at hd; cases hd
/-- where the program's shape of a constant fits, the document's does -/
theorem con_B {M : List (Nat × Nat)} (hwf : Wfc M) {k at_ : Nat} {f : Fz} (h1 : 5 ≤ k) (h2 : k ≤ 10) (h : fkV M at_ k = (f, true)) :
    ∃ v q, 2 ≤ f.len ∧ f.len ≤ M.length ∧ f.len ≤ 30 ∧ cnO (M.take (f.len - 1)) = some v ∧ M[f.len - 1]? = some q ∧ erV q.1 q.2 = 0 ∧ dsC k at_ f.len q v = some f := by
  unfold fkV fitV at h
  rw [shK_con h1 h2] at h
  by_cases h0 : (shRow [ptConst layA, ptSingle (lkD k)] M).len = 0
  · rw [if_pos h0] at h; cases h
  · rw [if_neg h0] at h
    obtain ⟨c, v, q, hcv, hc0, hq, he, hk⟩ := row_cl_back h0
    have hl := (List.getElem?_eq_some_iff.1 hq).1
    have hq2 : q.1 < 256 := (hwf q (List.mem_of_getElem? hq)).1
    have hr := row_cl hcv hc0 hq he hk
    have hi := cnV_is hwf (by rw [hcv]; exact hc0)
    rw [hcv] at hi
    obtain ⟨i1, i2, i3⟩ := hi
    rw [hr] at h
    have hf : f = { (lkD k q ⟨0, c + 1, 0, 0, v, 0⟩).1 with at_ := at_, kind := k } := by injection h with a _; exact a.symm
    have hfl : f.len = c + 1 := by rw [hf]; exact lkD_len h1 h2 q _
    have hm : (M.take c).length = c := by rw [List.length_take]; simp only at i1; omega
    rw [hfl, show c + 1 - 1 = c by omega]
    refine ⟨v, q, by omega, by omega, by simp only at i2; omega, cnO_some.2 ⟨by omega, by simp only at i2; omega, i3⟩, hq, he, ?_⟩
    rw [dsC_eq h1 h2 at_ (c + 1) q v hq2, if_pos hk, hf]
theorem rw_s {M : List (Nat × Nat)} {lk : Lk} {P : List Pt} {f : Fz} {q : Nat × Nat} (hq : M[f.len]? = some q) (he : erV q.1 q.2 = 0) (hk : (lk q { f with len := f.len + 1 }).2 = true) : rwF M (ptSingle lk :: P) f = rwF M P (lk q { f with len := f.len + 1 }).1 := by
  have hl := (List.getElem?_eq_some_iff.1 hq).1
  have hd : M.drop f.len = q :: M.drop (f.len + 1) := by rw [List.drop_eq_getElem_cons hl, (List.getElem?_eq_some_iff.1 hq).2]
  have h2 : ptSingle lk (M.drop f.len) f = lk q { f with len := f.len + 1 } := by rw [hd]; exact if_pos he
  show (if (ptSingle lk (M.drop f.len) f).2 = true then rwF M P (ptSingle lk (M.drop f.len) f).1 else fz0) = _
  rw [h2, if_pos hk]
theorem rw_s_back {M : List (Nat × Nat)} {lk : Lk} {P : List Pt} {f : Fz} (h : ¬ (rwF M (ptSingle lk :: P) f).len = 0) : ∃ q, M[f.len]? = some q ∧ erV q.1 q.2 = 0 ∧ (lk q { f with len := f.len + 1 }).2 = true := by
  change ¬ (if (ptSingle lk (M.drop f.len) f).2 = true then rwF M P (ptSingle lk (M.drop f.len) f).1 else fz0).len = 0 at h
  by_cases hl : f.len < M.length
  · have hd : M.drop f.len = M[f.len] :: M.drop (f.len + 1) := List.drop_eq_getElem_cons hl
    refine ⟨M[f.len], List.getElem?_eq_getElem hl, ?_⟩
    generalize M[f.len] = q at hd
    by_cases he : erV q.1 q.2 = 0
    · refine ⟨he, Decidable.byContradiction fun hk => ?_⟩
      rw [hd, show ptSingle lk (q :: M.drop (f.len + 1)) f = lk q { f with len := f.len + 1 } from if_pos he, if_neg hk] at h
      exact h rfl
    · rw [hd, show ptSingle lk (q :: M.drop (f.len + 1)) f = (f, false) from if_neg he, if_neg (by simp)] at h
      exact absurd rfl h
  · rw [List.drop_eq_nil_of_le (by omega), show ptSingle lk [] f = (f, false) from rfl, if_neg (by simp)] at h
    exact absurd rfl h
theorem rw_c {M : List (Nat × Nat)} {lay : Fz → Nat → Fz} {P : List Pt} {f : Fz} {c v : Nat} (hc : cnV (M.drop f.len) = (c, v)) (h0 : 0 < c) : rwF M (ptConst lay :: P) f = rwF M P (lay { f with len := f.len + c } v) := by
  have h1 : ptConst lay (M.drop f.len) f = (lay { f with len := f.len + c } v, true) := by
    unfold ptConst
    rw [hc, decide_eq_true h0]
  show (if (ptConst lay (M.drop f.len) f).2 = true then rwF M P (ptConst lay (M.drop f.len) f).1 else fz0) = _
  rw [h1, if_pos rfl]
theorem rw_c_back {M : List (Nat × Nat)} {lay : Fz → Nat → Fz} {P : List Pt} {f : Fz} (h : ¬ (rwF M (ptConst lay :: P) f).len = 0) : 0 < (cnV (M.drop f.len)).1 := by
  change ¬ (if (ptConst lay (M.drop f.len) f).2 = true then rwF M P (ptConst lay (M.drop f.len) f).1 else fz0).len = 0 at h
  apply Decidable.byContradiction
  intro h0
  rw [if_neg (show ¬ (ptConst lay (M.drop f.len) f).2 = true by show ¬ decide (0 < (cnV (M.drop f.len)).1) = true; rw [decide_eq_false h0]; decide)] at h
  exact h rfl
/-- what the document's local makes of two and three instructions -/
def dsL (k at_ : Nat) (q0 q1 q2 : Nat × Nat) : Option Fz :=
  if ¬ q0.1 = 9 then none
  else if k = 11 then (if q1.1 = 12 then some ⟨at_, 2, 11, 0, q0.2, q1.2⟩ else none)
  else if k = 12 then (if dLoa q1.1 = true then some ⟨at_, 2, 12, q1.1, q0.2, 0⟩ else none)
  else if k = 13 then (if q1.1 = 31 ∧ dBin q2.1 = true then some ⟨at_, 3, 13, q2.1, q0.2, 0⟩ else none)
  else (if q1.1 = 31 ∧ dBra q2.1 = true then some ⟨at_, 3, 14, q2.1, q0.2, q2.2⟩ else none)
theorem loc2_A {M : List (Nat × Nat)} {k at_ : Nat} {q0 q1 : Nat × Nat} {f : Fz} (hk : k = 11 ∨ k = 12) (h0 : M[0]? = some q0) (h1 : M[1]? = some q1) (e0 : erV q0.1 q0.2 = 0) (e1 : erV q1.1 q1.2 = 0) (hq1 : q1.1 < 256) (q2 : Nat × Nat) (hd : dsL k at_ q0 q1 q2 = some f) : fkV M at_ k = (f, true) := by
  unfold dsL at hd
  by_cases h9 : q0.1 = 9
  · rw [if_neg (fun e => e h9)] at hd
    have s0 : ∀ P, rwF M (ptSingle lkLocal :: P) fz0 = rwF M P ⟨0, 1, 0, 0, q0.2, 0⟩ := fun P => rw_s (f := fz0) h0 e0 (show decide (q0.1 = 9) = true from decide_eq_true h9)
    rcases hk with rfl | rfl
    · rw [if_pos rfl] at hd
      by_cases h : q1.1 = 12
      · rw [if_pos h] at hd
        cases hd
        have s1 := rw_s (M := M) (lk := lkArg) (P := []) (f := ⟨0, 1, 0, 0, q0.2, 0⟩) h1 e1 (show decide (q1.1 = 12) = true from decide_eq_true h)
        have : shK 11 M = ⟨0, 2, 0, 0, q0.2, q1.2⟩ := (s0 _).trans s1
        unfold fkV fitV
        rw [this]
        rfl
      · rw [if_neg h] at hd; cases hd
    · rw [if_neg (by decide), if_pos rfl] at hd
      by_cases h : dLoa q1.1 = true
      · rw [if_pos h] at hd
        cases hd
        rw [dLoa_eq q1.1 hq1] at h
        have s1 := rw_s (M := M) (lk := lkLoad) (P := []) (f := ⟨0, 1, 0, 0, q0.2, 0⟩) h1 e1 h
        have : shK 12 M = ⟨0, 2, 0, q1.1, q0.2, 0⟩ := (s0 _).trans s1
        unfold fkV fitV
        rw [this]
        rfl
      · rw [if_neg h] at hd; cases hd
  · rw [if_pos h9] at hd; cases hd
theorem loc3_A {M : List (Nat × Nat)} {k at_ : Nat} {q0 q1 q2 : Nat × Nat} {f : Fz} (hk : k = 13 ∨ k = 14) (h0 : M[0]? = some q0) (h1 : M[1]? = some q1) (h2 : M[2]? = some q2) (e0 : erV q0.1 q0.2 = 0) (e1 : erV q1.1 q1.2 = 0) (e2 : erV q2.1 q2.2 = 0) (hq2 : q2.1 < 256) (hd : dsL k at_ q0 q1 q2 = some f) : fkV M at_ k = (f, true) := by
  unfold dsL at hd
  by_cases h9 : q0.1 = 9
  · rw [if_neg (fun e => e h9)] at hd
    have s0 : ∀ P, rwF M (ptSingle lkLocal :: P) fz0 = rwF M P ⟨0, 1, 0, 0, q0.2, 0⟩ := fun P => rw_s (f := fz0) h0 e0 (show decide (q0.1 = 9) = true from decide_eq_true h9)
    have s1 : q1.1 = 31 → ∀ P, rwF M (ptSingle (lkOnly 31) :: P) ⟨0, 1, 0, 0, q0.2, 0⟩ = rwF M P ⟨0, 2, 0, 0, q0.2, 0⟩ := fun h P => rw_s (f := ⟨0, 1, 0, 0, q0.2, 0⟩) h1 e1 (show decide (q1.1 = 31) = true from decide_eq_true h)
    rcases hk with rfl | rfl
    · rw [if_neg (by decide), if_neg (by decide), if_pos rfl] at hd
      by_cases h : q1.1 = 31 ∧ dBin q2.1 = true
      · rw [if_pos h] at hd
        cases hd
        have hb := h.2
        rw [dBin_eq q2.1 hq2] at hb
        have s2 := rw_s (M := M) (lk := lkBin) (P := []) (f := ⟨0, 2, 0, 0, q0.2, 0⟩) h2 e2 hb
        have : shK 13 M = ⟨0, 3, 0, q2.1, q0.2, 0⟩ := (s0 _).trans ((s1 h.1 _).trans s2)
        unfold fkV fitV
        rw [this]
        rfl
      · rw [if_neg h] at hd; cases hd
    · rw [if_neg (by decide), if_neg (by decide), if_neg (by decide)] at hd
      by_cases h : q1.1 = 31 ∧ dBra q2.1 = true
      · rw [if_pos h] at hd
        cases hd
        have hb := h.2
        rw [dBra_eq q2.1 hq2] at hb
        have s2 := rw_s (M := M) (lk := lkCmp) (P := []) (f := ⟨0, 2, 0, 0, q0.2, 0⟩) h2 e2 hb
        have : shK 14 M = ⟨0, 3, 0, q2.1, q0.2, q2.2⟩ := (s0 _).trans ((s1 h.1 _).trans s2)
        unfold fkV fitV
        rw [this]
        rfl
      · rw [if_neg h] at hd; cases hd
  · rw [if_pos h9] at hd; cases hd
theorem fit_back {M : List (Nat × Nat)} {k at_ : Nat} {f : Fz} (h : fkV M at_ k = (f, true)) : ¬ (shK k M).len = 0 ∧ f = { shK k M with at_ := at_, kind := k } := by
  unfold fkV fitV at h
  by_cases h0 : (shK k M).len = 0
  · rw [if_pos h0] at h; cases h
  · rw [if_neg h0] at h
    injection h with a _
    exact ⟨h0, a.symm⟩
theorem loc2_B {M : List (Nat × Nat)} (hwf : Wfc M) {k at_ : Nat} {f : Fz} (hk : k = 11 ∨ k = 12) (h : fkV M at_ k = (f, true)) : ∃ q0 q1, M[0]? = some q0 ∧ M[1]? = some q1 ∧ erV q0.1 q0.2 = 0 ∧ erV q1.1 q1.2 = 0 ∧ f.len = 2 ∧ ∀ q2, dsL k at_ q0 q1 q2 = some f := by
  obtain ⟨h0, hf⟩ := fit_back h
  have back : ∀ lk, shK k = shRow [ptSingle lkLocal, ptSingle lk] → ∃ q0 q1, M[0]? = some q0 ∧ M[1]? = some q1 ∧ erV q0.1 q0.2 = 0 ∧ erV q1.1 q1.2 = 0 ∧ q0.1 = 9 ∧ (lk q1 ⟨0, 2, 0, 0, q0.2, 0⟩).2 = true ∧ shK k M = (lk q1 ⟨0, 2, 0, 0, q0.2, 0⟩).1 := by
    intro lk hs
    rw [hs] at h0 ⊢
    obtain ⟨q0, a0, b0, c0⟩ := rw_s_back h0
    have s0 := rw_s (P := [ptSingle lk]) a0 b0 c0
    have h1 : ¬ (rwF M [ptSingle lk] ⟨0, 1, 0, 0, q0.2, 0⟩).len = 0 := by
      intro e
      exact h0 ((congrArg Fz.len s0).trans e)
    obtain ⟨q1, a1, b1, c1⟩ := rw_s_back h1
    exact ⟨q0, q1, a0, a1, b0, b1, of_decide_eq_true c0, c1, s0.trans (rw_s (P := []) (f := ⟨0, 1, 0, 0, q0.2, 0⟩) a1 b1 c1)⟩
  rcases hk with rfl | rfl
  · obtain ⟨q0, q1, a0, a1, b0, b1, c0, c1, e⟩ := back lkArg rfl
    rw [e] at hf
    refine ⟨q0, q1, a0, a1, b0, b1, by rw [hf]; rfl, fun q2 => ?_⟩
    unfold dsL
    rw [if_neg (fun n => n c0), if_pos rfl, if_pos (of_decide_eq_true c1), hf]
    rfl
  · obtain ⟨q0, q1, a0, a1, b0, b1, c0, c1, e⟩ := back lkLoad rfl
    rw [e] at hf
    refine ⟨q0, q1, a0, a1, b0, b1, by rw [hf]; rfl, fun q2 => ?_⟩
    unfold dsL
    rw [if_neg (fun n => n c0), if_neg (by decide), if_pos rfl, if_pos (by rw [dLoa_eq q1.1 (hwf q1 (List.mem_of_getElem? a1)).1]; exact c1), hf]
    rfl
theorem loc3_B {M : List (Nat × Nat)} (hwf : Wfc M) {k at_ : Nat} {f : Fz} (hk : k = 13 ∨ k = 14) (h : fkV M at_ k = (f, true)) : ∃ q0 q1 q2, M[0]? = some q0 ∧ M[1]? = some q1 ∧ M[2]? = some q2 ∧ erV q0.1 q0.2 = 0 ∧ erV q1.1 q1.2 = 0 ∧ erV q2.1 q2.2 = 0 ∧ f.len = 3 ∧ dsL k at_ q0 q1 q2 = some f := by
  obtain ⟨h0, hf⟩ := fit_back h
  have back : ∀ lk, shK k = shRow [ptSingle lkLocal, ptSingle (lkOnly 31), ptSingle lk] → ∃ q0 q1 q2, M[0]? = some q0 ∧ M[1]? = some q1 ∧ M[2]? = some q2 ∧ erV q0.1 q0.2 = 0 ∧ erV q1.1 q1.2 = 0 ∧ erV q2.1 q2.2 = 0 ∧ q0.1 = 9 ∧ q1.1 = 31 ∧ (lk q2 ⟨0, 3, 0, 0, q0.2, 0⟩).2 = true ∧ shK k M = (lk q2 ⟨0, 3, 0, 0, q0.2, 0⟩).1 := by
    intro lk hs
    rw [hs] at h0 ⊢
    obtain ⟨q0, a0, b0, c0⟩ := rw_s_back h0
    have s0 := rw_s (P := [ptSingle (lkOnly 31), ptSingle lk]) a0 b0 c0
    have h1 : ¬ (rwF M [ptSingle (lkOnly 31), ptSingle lk] ⟨0, 1, 0, 0, q0.2, 0⟩).len = 0 := fun e => h0 ((congrArg Fz.len s0).trans e)
    obtain ⟨q1, a1, b1, c1⟩ := rw_s_back h1
    have s1 := rw_s (P := [ptSingle lk]) (f := ⟨0, 1, 0, 0, q0.2, 0⟩) a1 b1 c1
    have h2 : ¬ (rwF M [ptSingle lk] ⟨0, 2, 0, 0, q0.2, 0⟩).len = 0 := fun e => h1 ((congrArg Fz.len s1).trans e)
    obtain ⟨q2, a2, b2, c2⟩ := rw_s_back h2
    exact ⟨q0, q1, q2, a0, a1, a2, b0, b1, b2, of_decide_eq_true c0, of_decide_eq_true c1, c2, s0.trans (s1.trans (rw_s (P := []) (f := ⟨0, 2, 0, 0, q0.2, 0⟩) a2 b2 c2))⟩
  rcases hk with rfl | rfl
  · obtain ⟨q0, q1, q2, a0, a1, a2, b0, b1, b2, c0, c1, c2, e⟩ := back lkBin rfl
    rw [e] at hf
    refine ⟨q0, q1, q2, a0, a1, a2, b0, b1, b2, by rw [hf]; rfl, ?_⟩
    unfold dsL
    rw [if_neg (fun n => n c0), if_neg (by decide), if_neg (by decide), if_pos rfl, if_pos ⟨c1, by rw [dBin_eq q2.1 (hwf q2 (List.mem_of_getElem? a2)).1]; exact c2⟩, hf]
    rfl
  · obtain ⟨q0, q1, q2, a0, a1, a2, b0, b1, b2, c0, c1, c2, e⟩ := back lkCmp rfl
    rw [e] at hf
    refine ⟨q0, q1, q2, a0, a1, a2, b0, b1, b2, by rw [hf]; rfl, ?_⟩
    unfold dsL
    rw [if_neg (fun n => n c0), if_neg (by decide), if_neg (by decide), if_neg (by decide), if_pos ⟨c1, by rw [dBra_eq q2.1 (hwf q2 (List.mem_of_getElem? a2)).1]; exact c2⟩, hf]
    rfl
def divB (op : Nat) : Bool := decide (op = 42 ∨ op = 43 ∨ op = 44 ∨ op = 45)
theorem bump_A {M : List (Nat × Nat)} (hwf : Wfc M) {at_ c v : Nat} {q0 q2 qo ql : Nat × Nat} (h0 : M[0]? = some q0) (h1 : M[1]? = some q0) (h2 : M[2]? = some q2) (hc : cnO ((M.drop 3).take c) = some v) (hl3 : c ≤ (M.drop 3).length) (ho : M[3 + c]? = some qo) (hl : M[4 + c]? = some ql)
    (e0 : erV q0.1 q0.2 = 0) (e2 : erV q2.1 q2.2 = 0) (eo : erV qo.1 qo.2 = 0) (el : erV ql.1 ql.2 = 0) (k0 : q0.1 = 9) (k2 : q2.1 = 31) (ko : dBin qo.1 = true) (kd : divB qo.1 = false) (kl : ql.1 = 34) : fkV M at_ 15 = (⟨at_, 5 + c, 15, qo.1, q0.2, v⟩, true) := by
  have hqo : qo.1 < 256 := (hwf qo (List.mem_of_getElem? ho)).1
  rw [dBin_eq qo.1 hqo] at ko
  have hst : stpB qo.1 = true := by
    simp only [Bool.and_eq_true, decide_eq_true_eq] at ko
    exact stp_bin qo.1 hqo ko.1.1 ko.1.2 ko.2
  obtain ⟨c1, c2, c3⟩ := cnO_some.1 hc
  rw [List.length_take, Nat.min_eq_left hl3] at c1 c2
  have hcv : cnV (M.drop 3) = (c, v) := cnV_fit (wfc_drop hwf 3) c1 c2 c3 (by rw [List.getElem?_drop]; exact ho) hst
  have s0 := rw_s (lk := lkLocal) (P := [ptSingle lkSame, ptSingle (lkOnly 31), ptConst layB, ptSingle lkHarm, ptSingle (lkOnly 34)]) (f := fz0) h0 e0 (show decide (q0.1 = 9) = true from decide_eq_true k0)
  have s1 := rw_s (lk := lkSame) (P := [ptSingle (lkOnly 31), ptConst layB, ptSingle lkHarm, ptSingle (lkOnly 34)]) (f := ⟨0, 1, 0, 0, q0.2, 0⟩) h1 e0 (show (decide (q0.1 = 9) && decide (q0.2 = q0.2)) = true by rw [decide_eq_true k0, decide_eq_true rfl]; rfl)
  have s2 := rw_s (lk := lkOnly 31) (P := [ptConst layB, ptSingle lkHarm, ptSingle (lkOnly 34)]) (f := ⟨0, 2, 0, 0, q0.2, 0⟩) h2 e2 (show decide (q2.1 = 31) = true from decide_eq_true k2)
  have s3 := rw_c (lay := layB) (P := [ptSingle lkHarm, ptSingle (lkOnly 34)]) (f := ⟨0, 3, 0, 0, q0.2, 0⟩) hcv c1
  have hh : lkHarm qo ⟨0, 3 + c + 1, 0, 0, q0.2, v⟩ = (⟨0, 3 + c + 1, 0, qo.1, q0.2, v⟩, true) := by
    unfold lkHarm
    rw [if_neg (of_decide_eq_false kd)]
    unfold lkBin
    rw [ko]
  have s4 := rw_s (lk := lkHarm) (P := [ptSingle (lkOnly 34)]) (f := ⟨0, 3 + c, 0, 0, q0.2, v⟩) ho eo (by show (lkHarm qo ⟨0, 3 + c + 1, 0, 0, q0.2, v⟩).2 = true; rw [hh])
  rw [show lkHarm qo { (⟨0, 3 + c, 0, 0, q0.2, v⟩ : Fz) with len := (⟨0, 3 + c, 0, 0, q0.2, v⟩ : Fz).len + 1 } = (⟨0, 3 + c + 1, 0, qo.1, q0.2, v⟩, true) from hh] at s4
  have s5 := rw_s (lk := lkOnly 34) (P := []) (f := ⟨0, 3 + c + 1, 0, qo.1, q0.2, v⟩) (show M[3 + c + 1]? = some ql by rw [show 3 + c + 1 = 4 + c by omega]; exact hl) el (show decide (ql.1 = 34) = true from decide_eq_true kl)
  have hS : shK 15 M = ⟨0, 3 + c + 1 + 1, 0, qo.1, q0.2, v⟩ := s0.trans (s1.trans (s2.trans (s3.trans (s4.trans s5))))
  unfold fkV fitV
  rw [hS, if_neg (by simp), show 3 + c + 1 + 1 = 5 + c by omega]
theorem bump_B {M : List (Nat × Nat)} (hwf : Wfc M) {at_ : Nat} {f : Fz} (h : fkV M at_ 15 = (f, true)) :
    ∃ c v q0 q2 qo ql, M[0]? = some q0 ∧ M[1]? = some q0 ∧ M[2]? = some q2 ∧ 1 ≤ c ∧ c ≤ 16 ∧ cnO ((M.drop 3).take c) = some v ∧ M[3 + c]? = some qo ∧ M[4 + c]? = some ql ∧ erV q0.1 q0.2 = 0 ∧ erV q2.1 q2.2 = 0 ∧ erV qo.1 qo.2 = 0 ∧ erV ql.1 ql.2 = 0 ∧ q0.1 = 9 ∧ q2.1 = 31 ∧ dBin qo.1 = true ∧ divB qo.1 = false ∧ ql.1 = 34 ∧ f = ⟨at_, 5 + c, 15, qo.1, q0.2, v⟩ := by
  obtain ⟨h0, hf⟩ := fit_back h
  change ¬ (rwF M [ptSingle lkLocal, ptSingle lkSame, ptSingle (lkOnly 31), ptConst layB, ptSingle lkHarm, ptSingle (lkOnly 34)] fz0).len = 0 at h0
  obtain ⟨q0, a0, b0, d0⟩ := rw_s_back h0
  have s0 := rw_s (P := [ptSingle lkSame, ptSingle (lkOnly 31), ptConst layB, ptSingle lkHarm, ptSingle (lkOnly 34)]) a0 b0 d0
  have k0 : q0.1 = 9 := of_decide_eq_true d0
  have h1 : ¬ (rwF M [ptSingle lkSame, ptSingle (lkOnly 31), ptConst layB, ptSingle lkHarm, ptSingle (lkOnly 34)] ⟨0, 1, 0, 0, q0.2, 0⟩).len = 0 := fun e => h0 ((congrArg Fz.len s0).trans e)
  obtain ⟨q1, a1, b1, d1⟩ := rw_s_back h1
  have s1 := rw_s (P := [ptSingle (lkOnly 31), ptConst layB, ptSingle lkHarm, ptSingle (lkOnly 34)]) (f := ⟨0, 1, 0, 0, q0.2, 0⟩) a1 b1 d1
  have d1' : (decide (q1.1 = 9) && decide (q1.2 = q0.2)) = true := d1
  simp only [Bool.and_eq_true, decide_eq_true_eq] at d1'
  have hq : q1 = q0 := Prod.ext (d1'.1.trans k0.symm) d1'.2
  subst hq
  have h2 : ¬ (rwF M [ptSingle (lkOnly 31), ptConst layB, ptSingle lkHarm, ptSingle (lkOnly 34)] ⟨0, 2, 0, 0, q1.2, 0⟩).len = 0 := fun e => h1 ((congrArg Fz.len s1).trans e)
  obtain ⟨q2, a2, b2, d2⟩ := rw_s_back h2
  have s2 := rw_s (P := [ptConst layB, ptSingle lkHarm, ptSingle (lkOnly 34)]) (f := ⟨0, 2, 0, 0, q1.2, 0⟩) a2 b2 d2
  have k2 : q2.1 = 31 := of_decide_eq_true d2
  have h3 : ¬ (rwF M [ptConst layB, ptSingle lkHarm, ptSingle (lkOnly 34)] ⟨0, 3, 0, 0, q1.2, 0⟩).len = 0 := fun e => h2 ((congrArg Fz.len s2).trans e)
  have hc0 : 0 < (cnV (M.drop 3)).1 := rw_c_back h3
  obtain ⟨i1, i2, i3⟩ := cnV_is (wfc_drop hwf 3) hc0
  obtain ⟨c, v, hcv⟩ : ∃ c v : Nat, cnV (M.drop 3) = (c, v) := ⟨_, _, rfl⟩
  rw [hcv] at hc0 i1 i2 i3
  simp only at hc0 i1 i2 i3
  have s3 := rw_c (lay := layB) (P := [ptSingle lkHarm, ptSingle (lkOnly 34)]) (f := ⟨0, 3, 0, 0, q1.2, 0⟩) hcv hc0
  have h4 : ¬ (rwF M [ptSingle lkHarm, ptSingle (lkOnly 34)] ⟨0, 3 + c, 0, 0, q1.2, v⟩).len = 0 := fun e => h3 ((congrArg Fz.len s3).trans e)
  obtain ⟨qo, ao, bo, d4⟩ := rw_s_back h4
  have s4 := rw_s (P := [ptSingle (lkOnly 34)]) (f := ⟨0, 3 + c, 0, 0, q1.2, v⟩) ao bo d4
  change (lkHarm qo ⟨0, 3 + c + 1, 0, 0, q1.2, v⟩).2 = true at d4
  have hdiv : ¬ (qo.1 = 42 ∨ qo.1 = 43 ∨ qo.1 = 44 ∨ qo.1 = 45) := by
    intro hd
    unfold lkHarm at d4
    rw [if_pos hd] at d4
    cases d4
  have hh : lkHarm qo ⟨0, 3 + c + 1, 0, 0, q1.2, v⟩ = lkBin qo ⟨0, 3 + c + 1, 0, 0, q1.2, v⟩ := by unfold lkHarm; rw [if_neg hdiv]
  rw [hh] at d4
  have hb : dBin qo.1 = true := by rw [dBin_eq qo.1 (hwf qo (List.mem_of_getElem? ao)).1]; exact d4
  rw [show lkHarm qo { (⟨0, 3 + c, 0, 0, q1.2, v⟩ : Fz) with len := (⟨0, 3 + c, 0, 0, q1.2, v⟩ : Fz).len + 1 } = lkBin qo ⟨0, 3 + c + 1, 0, 0, q1.2, v⟩ from hh] at s4
  have h5 : ¬ (rwF M [ptSingle (lkOnly 34)] ⟨0, 3 + c + 1, 0, qo.1, q1.2, v⟩).len = 0 := fun e => h4 ((congrArg Fz.len s4).trans e)
  obtain ⟨ql, al, bl, d5⟩ := rw_s_back h5
  have s5 := rw_s (P := []) (f := ⟨0, 3 + c + 1, 0, qo.1, q1.2, v⟩) al bl d5
  have hS : shK 15 M = ⟨0, 3 + c + 1 + 1, 0, qo.1, q1.2, v⟩ := s0.trans (s1.trans (s2.trans (s3.trans (s4.trans s5))))
  refine ⟨c, v, q1, q2, qo, ql, a0, a1, a2, hc0, i2, cnO_some.2 ⟨?_, ?_, i3⟩, ao, ?_, b0, b2, bo, bl, k0, k2, hb, decide_eq_false hdiv, of_decide_eq_true d5, ?_⟩
  · rw [List.length_take, Nat.min_eq_left i1]; exact hc0
  · rw [List.length_take, Nat.min_eq_left i1]; exact i2
  · rw [show 4 + c = 3 + c + 1 by omega]; exact al
  · rw [hf, hS, show 3 + c + 1 + 1 = 5 + c by omega]
theorem plD_kind : ∀ (A : List (Nat × Nat)) (ws : List Nat) (k v : Nat), plD A ws = some (k, v) → k = 2 ∨ k = 3 ∨ k = 4
  | [], ws, k, v, h => by
    unfold plD at h
    split at h
    · cases h; exact .inr (.inr rfl)
    · split at h
      · cases h; exact .inl rfl
      · cases h
  | p :: r, ws, k, v, h => by
    by_cases h1 : erV p.1 p.2 = 0
    · by_cases h2 : opKi p.1 = 2
      · rw [plD_cmp h1 h2] at h
        split at h
        · split at h <;> cases h
          · exact .inr (.inl rfl)
          · exact .inr (.inr rfl)
        · cases h
      · cases hd : doD ws p.1 p.2 with
        | none => rw [plD_no h2 hd] at h; cases h
        | some ws' => rw [plD_on h1 h2 hd] at h; exact plD_kind r ws' k v h
    · rw [plD_er h1] at h; cases h
/-- a piece is of one instruction and of the first kind, or of more and of another -/
theorem lgV_kind {M : List (Nat × Nat)} (hwf : Wfc M) : (lgV M).2.1 = 1 ∧ (lgV M).1 = 1 ∨ 2 ≤ (lgV M).1 ∧ ((lgV M).2.1 = 2 ∨ (lgV M).2.1 = 3 ∨ (lgV M).2.1 = 4) := by
  have hb := lgF_bst M [] 0 (1, 1, 0) (fun p hp => (hwf p hp).1) (by decide) (fun _ => rfl)
  change Bst M [] 0 (1, 1, 0) (lgV M) at hb
  rcases hb with ⟨n, k, v, n1, n2, n3, n4, n5, n6⟩ | ⟨n1, n2⟩
  · rw [n5]
    exact .inr ⟨n3, plD_kind _ _ _ _ n4⟩
  · rw [n2]; exact .inl ⟨rfl, rfl⟩
/-- the shapes of a whole piece -/
theorem fold_eq {L : List (Nat × Nat)} (hwf : Wfc L) {a e k : Nat} (h : a < e ∧ e ≤ L.length) (hk : k = 2 ∨ k = 3 ∨ k = 4) :
    fkV ((L.drop a).take (e - a)) a k = if (decide (lnE L a e = 0) && decide (2 ≤ (lnP L a e).2.1) && decide ((if (lnP L a e).2.2.1 = 4 then 4 else if (lnP L a e).2.2.1 = 3 then 3 else 2) = k)) = true then (⟨a, (lnP L a e).2.1, k, 0, (lnP L a e).2.2.2, 0⟩, true) else (fz0, false) := by
  obtain ⟨M, hM⟩ : ∃ M, M = (L.drop a).take (e - a) := ⟨_, rfl⟩
  have hMl : M.length = e - a := by rw [hM]; exact sub_len h.2
  have hg : M.getD 0 (0, 0) = L.getD a (0, 0) := by rw [hM]; exact getD_td L a e h.1
  have hwM : Wfc M := by rw [hM]; exact wfc_sub hwf a (e - a)
  have hE : lnE L a e = erV (L.getD a (0, 0)).1 (L.getD a (0, 0)).2 := if_pos h
  have hS : shK k = shFold k := by rcases hk with rfl | rfl | rfl <;> rfl
  rw [← hM]
  by_cases he : erV (L.getD a (0, 0)).1 (L.getD a (0, 0)).2 = 0
  · have hP : lnP L a e = (a, lgV M) := by rw [hM]; exact if_pos ⟨h.1, h.2, he⟩
    have hP0 : lnP M 0 M.length = (0, lgV M) := by
      unfold lnP
      rw [if_pos ⟨by omega, Nat.le_refl _, by rw [hg]; exact he⟩, List.drop_zero, Nat.sub_zero, List.take_of_length_le (Nat.le_refl _)]
    have hkd := lgV_kind hwM
    unfold fkV fitV
    rw [hS]
    unfold shFold
    rw [hP0, hP, hE, he]
    generalize lgV M = g at hkd
    obtain ⟨g1, g2, g3⟩ := g
    simp only at hkd ⊢
    rw [decide_true, Bool.true_and]
    by_cases hgk : g2 = k
    · rw [if_pos hgk]
      have hg2 : 2 ≤ g1 := by omega
      have hif : (if g2 = 4 then 4 else if g2 = 3 then 3 else 2) = k := by
        rcases hk with rfl | rfl | rfl <;> subst hgk <;> rfl
      rw [if_neg (by simp only; omega), hif, decide_eq_true hg2]
      simp
    · rw [if_neg hgk]
      have hno : (decide (2 ≤ g1) && decide ((if g2 = 4 then 4 else if g2 = 3 then 3 else 2) = k)) = false := by
        rcases hkd with ⟨q1, q2⟩ | ⟨q1, q2⟩
        · rw [decide_eq_false (by omega : ¬ 2 ≤ g1), Bool.false_and]
        · rw [Bool.and_eq_false_iff]
          refine .inr (decide_eq_false ?_)
          rcases q2 with rfl | rfl | rfl
          · exact hgk
          · exact hgk
          · exact hgk
      rw [hno]
      rfl
  · have hP0 : lnP M 0 M.length = (0, 0, 0, 0) := if_neg (fun q => he (by rw [← hg]; exact q.2.2))
    unfold fkV fitV
    rw [hS]
    unfold shFold
    rw [hP0, hE, decide_eq_false he, Bool.false_and, Bool.false_and]
    rw [if_pos (by rcases hk with rfl | rfl | rfl <;> decide)]
    rfl
end Go.Proofs.Ytonmoidalkcmoaa
