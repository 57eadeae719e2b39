import Derived.Test.YtagflmjiajjkcaaDoorESf
namespace Go.Proofs.YtagflmjiajjkcaaDoor
open Go.RowKit Go.WideShapes
set_option maxRecDepth 100000

/-- what a log may say of two states of a segment -/
def Good (bs bs' : List Int) (ts : List (Int × Bool)) : Prop := bs'.length = bs.length ∧ (∀ t ∈ ts, 0 ≤ t.1 ∧ t.1 < (bs.length : Int)) ∧ ∀ i, i < bs.length → bs.getD i 0 ≠ bs'.getD i 0 → ((i : Int), true) ∈ ts
/-- the bytes that are told as written, laid down -/
def pat (bs' : List Int) : List Int → List (Int × Bool) → List Int
  | bs, [] => bs
  | bs, t :: ts => pat bs' (if t.2 then bs.set t.1.toNat (bs'.getD t.1.toNat 0) else bs) ts
theorem pat_len (bs' : List Int) : ∀ (ts : List (Int × Bool)) (bs : List Int), (pat bs' bs ts).length = bs.length
  | [], _ => rfl
  | t :: ts, bs => by
    rw [pat, pat_len bs' ts]
    split <;> simp
theorem pat_append (bs' : List Int) : ∀ (ts us : List (Int × Bool)) (bs : List Int), pat bs' bs (ts ++ us) = pat bs' (pat bs' bs ts) us
  | [], _, _ => rfl
  | t :: ts, us, bs => by rw [List.cons_append, pat, pat, pat_append bs' ts us]
theorem pat_get (bs' : List Int) : ∀ (ts : List (Int × Bool)) (bs : List Int) (i : Nat), bs'.length = bs.length → i < bs.length → (∀ t ∈ ts, 0 ≤ t.1) → (bs.getD i 0 = bs'.getD i 0 ∨ ((i : Int), true) ∈ ts) → (pat bs' bs ts).getD i 0 = bs'.getD i 0
  | [], bs, i, _, _, _, h => by
    rcases h with h | h
    · exact h
    · simp at h
  | t :: ts, bs, i, hl, hi, ht, h => by
    rw [pat]
    have h0 := ht t (by simp)
    refine pat_get bs' ts _ i (by split <;> simp [hl]) (by split <;> simp [hi]) (fun u hu => ht u (by simp [hu])) ?_
    by_cases e : t = ((i : Int), true)
    · left
      rw [e]
      simp [List.getD, hi]
    · rcases h with h | h
      · left
        split
        · by_cases e2 : t.1.toNat = i
          · subst e2; simp [List.getD, hi]
          · rw [← h]; simp [List.getD, e2]
        · exact h
      · right
        rcases List.mem_cons.1 h with h | h
        · exact absurd h.symm e
        · exact h
theorem good_pat {bs bs' : List Int} {ts : List (Int × Bool)} (h : Good bs bs' ts) : pat bs' bs ts = bs' := by
  obtain ⟨h1, h2, h3⟩ := h
  apply List.ext_getElem?
  intro i
  by_cases hi : i < bs.length
  · have := pat_get bs' ts bs i h1 hi (fun t ht => (h2 t ht).1) (by by_cases e : bs.getD i 0 = bs'.getD i 0; exact .inl e; exact .inr (h3 i hi e))
    have e1 : i < (pat bs' bs ts).length := by rw [pat_len]; exact hi
    have e2 : i < bs'.length := by omega
    simp only [List.getD, List.getElem?_eq_getElem e1, List.getElem?_eq_getElem e2, Option.getD_some] at this
    rw [List.getElem?_eq_getElem e1, List.getElem?_eq_getElem e2, this]
  · rw [List.getElem?_eq_none (by rw [pat_len]; omega), List.getElem?_eq_none (by omega)]
theorem good_nil (bs : List Int) : Good bs bs [] := ⟨rfl, by simp, fun i _ h => absurd rfl h⟩
theorem tcs_mem {x n N : Nat} {wr : Bool} {t : Int × Bool} (h : t ∈ tcs x n N wr) (hN : 0 < N) : 0 ≤ t.1 ∧ t.1 < (N : Int) := by
  simp only [tcs, List.mem_map] at h
  obtain ⟨i, _, rfl⟩ := h
  have := Nat.mod_lt (x + i) hN
  simp only
  omega
theorem lg_all (ts : List (Int × Bool)) (h : ts.length ≤ 65536) : lgL true [] ts = ts := by
  show (([] : List (Int × Bool)) ++ ts).take 65536 = ts
  rw [List.nil_append, List.take_of_length_le h]
theorem good_read (bs : List Int) (x n : Nat) (hn : n ≤ 65536) (hN : 0 < bs.length) : Good bs bs (lgL true [] (tcs x n bs.length false)) := by
  rw [lg_all _ (by rw [tcs_len]; exact hn)]
  exact ⟨rfl, fun t ht => tcs_mem ht hN, fun i _ h => absurd rfl h⟩
theorem wr_mem (bs zs : List Int) (x i : Nat) (h : bs.getD i 0 ≠ (wrL bs x zs).getD i 0) : ((i : Int), true) ∈ tcs x zs.length bs.length true := by
  by_cases e : ∃ j, j < zs.length ∧ (x + j) % bs.length = i
  · obtain ⟨j, hj, rfl⟩ := e
    simp only [tcs, List.mem_map, List.mem_range]
    exact ⟨j, hj, rfl⟩
  · exact absurd (wrL_out zs bs x i (fun j hj he => e ⟨j, hj, he⟩)).symm h
theorem good_write (bs zs : List Int) (x : Nat) (hn : zs.length ≤ 65536) (hN : 0 < bs.length) : Good bs (wrL bs x zs) (lgL true [] (tcs x zs.length bs.length true)) := by
  rw [lg_all _ (by rw [tcs_len]; exact hn)]
  exact ⟨wrL_len _ _ _, fun t ht => tcs_mem ht hN, fun i _ h => wr_mem bs zs x i h⟩
theorem good_copy (bs zs : List Int) (x y n : Nat) (hn : n ≤ 4096) (hz : zs.length = n) (hN : 0 < bs.length) : Good bs (wrL bs x zs) (lgL true (lgL true [] (tcs y n bs.length false)) (tcs x n bs.length true)) := by
  subst hz
  rw [lg_all _ (by rw [tcs_len]; omega)]
  have e : lgL true (tcs y zs.length bs.length false) (tcs x zs.length bs.length true) = tcs y zs.length bs.length false ++ tcs x zs.length bs.length true := by
    show (tcs y zs.length bs.length false ++ tcs x zs.length bs.length true).take 65536 = _
    rw [List.take_of_length_le (by rw [List.length_append, tcs_len, tcs_len]; omega)]
  rw [e]
  refine ⟨wrL_len _ _ _, fun t ht => ?_, fun i _ h => List.mem_append.2 (.inr (wr_mem bs zs x i h))⟩
  rcases List.mem_append.1 ht with h | h
  · exact tcs_mem h hN
  · exact tcs_mem h hN
end Go.Proofs.YtagflmjiajjkcaaDoor
