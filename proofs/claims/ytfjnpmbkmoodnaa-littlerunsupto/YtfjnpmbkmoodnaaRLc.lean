import Derived.Test.YtfjnpmbkmoodnaaRKr
namespace Go.Proofs.Ytfjnpmbkmoodnaa
open Go.RowKit Go.WideShapes
set_option maxRecDepth 100000
theorem tcells_get (T : List Tr) : ∀ (i : Nat), i < T.length → (tcells T)[i * 2]? = some (.int .u32 ((T.getD i (0, .slice none 0 0, [])).1 : Int)) ∧ (tcells T)[i * 2 + 1]? = some (T.getD i (0, .slice none 0 0, [])).2.1 := by
  induction T with
  | nil => intro i hi; simp at hi
  | cons t T ih =>
    intro i hi
    have e : tcells (t :: T) = .int .u32 (t.1 : Int) :: t.2.1 :: tcells T := rfl
    cases i with
    | zero => rw [e]; simp
    | succ i =>
      have := ih i (by simpa using hi)
      rw [e, show (i + 1) * 2 = i * 2 + 1 + 1 by omega]
      simpa using this
theorem own_runsR {w : World} {B : Nat} {v : Value} {T : List Tr} (h : OwnRuns w B v T) : ∃ ao cap, v = .slice ao T.length cap ∧ RunsR w ao (T.map trun) w.heap.size := by
  have hlt := h.row.lt
  rcases h.row.2 with ⟨rfl, hz⟩ | ⟨g, cap, cur, rfl, _⟩
  · exact ⟨none, 0, by rw [hz], fun hp => by rw [List.length_map] at hp; omega⟩
  · refine ⟨_, cap, rfl, fun _ => ⟨g, 0, rfl, (hlt g rfl).2, fun i hi => ?_⟩⟩
    rw [List.length_map] at hi
    obtain ⟨c0, c1⟩ := tcells_get T i hi
    have k0 := h.row.cells (g := g) rfl _ _ c0
    have k1 := h.row.cells (g := g) rfl _ _ c1
    rw [Go.WideShapes.add_plain] at k0 k1
    have hg : (T.map trun).getD i (0, []) = trun (T.getD i (0, .slice none 0 0, [])) := by
      simp [List.getD, List.getElem?_eq_getElem hi]
    rw [hg]
    have hm : T.getD i (0, .slice none 0 0, []) ∈ T := by simp [List.getD, List.getElem?_eq_getElem hi]
    generalize T.getD i (0, .slice none 0 0, []) = t at k0 k1 hm
    have ho := h.each t hm
    refine ⟨k0, ?_⟩
    obtain ⟨a2, c2, hv, hrd⟩ := own_reads ho
    have hcap : t.2.2.length ≤ c2 ∧ (a2 = none → t.2.2 = []) := by
      rcases ho.2 with ⟨e, hz⟩ | ⟨g2, cap2, cur2, e, _, _, hc, _⟩
      · exact ⟨by omega, fun _ => List.eq_nil_of_length_eq_zero hz⟩
      · rw [hv] at e
        simp only [Value.slice.injEq] at e
        obtain ⟨rfl, _, rfl⟩ := e
        exact ⟨hc, fun h => by cases h⟩
    exact ⟨a2, c2, by rw [hv, ← Nat.add_assoc] at k1; exact k1, hcap.1, hcap.2, hrd⟩

theorem rnx_nil2 (k : Nat) (xs : List Int) : rnx k xs [] = [] := by
  cases xs with
  | nil => exact rnx_nil k []
  | cons x xs => rfl
theorem rnx_bound (n : Nat) : ∀ (k : Nat) (xs ys : List Int), xs.length = n → ∀ r ∈ rnx k xs ys, r.1 ≤ k + n ∧ r.2.length ≤ ys.length := by
  induction n using Nat.strongRecOn with
  | _ n ih =>
    intro k xs ys hn r hr
    cases xs with
    | nil => rw [rnx_nil] at hr; simp at hr
    | cons x xs =>
      cases ys with
      | nil => rw [rnx_nil2] at hr; simp at hr
      | cons y ys =>
        simp only [List.length_cons] at hn
        by_cases h : x = y
        · subst h
          rw [rnx_eq] at hr
          have := ih xs.length (by omega) _ _ _ rfl r hr
          simp only [List.length_cons]; omega
        · have hp := dif_pos (xs := xs) (ys := ys) h
          have hd := dif_le (x :: xs) (y :: ys)
          rw [rnx_ne _ _ _ _ _ h] at hr
          simp only [List.length_cons] at hd ⊢
          generalize dif (x :: xs) (y :: ys) = d at *
          rcases List.mem_cons.1 hr with rfl | hr
          · simp only [List.length_take, List.length_cons]; omega
          · have := ih ((x :: xs).drop d).length (by simp; omega) _ _ _ rfl r hr
            simp only [List.length_drop, List.length_cons] at this
            omega


/-- what Runs answers, told in one way -/
def rnL (xs ys : List Int) : List Rn := if xs.length = ys.length then rnx 0 xs ys else []
def rnE (xs ys : List Int) : Int := if xs.length = ys.length then 0 else 22
def mdL (zs : List Int) (R : List Rn) : List Int := if ris zs.length 0 R = true then mnd zs R else []
def mdE (zs : List Int) (R : List Rn) : Int := if ris zs.length 0 R = true then 0 else 23
theorem ownRuns_nil (w : World) (B : Nat) : OwnRuns w B (.slice none 0 0) [] := ⟨World.ownsRow_nil _ _ _ _, by simp, List.Pairwise.nil⟩
theorem runsA (ao bo : Option Addr) (ca cb : Nat) (xs ys : List Int) (w : World) (hx : xs.length ≤ 1048576) (_hy : ys.length ≤ 1048576) (hcb : ys.length ≤ cb) (hrx : Reads w ao xs w.heap.size) (hry : Reads w bo ys w.heap.size) :
    Calls Try.prog 11 #[.slice ao xs.length ca, .slice bo ys.length cb] w fun e w' => (∃ v T, e = .returned (.tuple #[v, .int .i64 (rnE xs ys)]) ∧ OwnRuns w' w.heap.size v T ∧ T.map trun = rnL xs ys ∧ T.length ≤ 1048576) ∧ Below w.heap.size w w' := by
  unfold rnL rnE
  by_cases h : xs.length = ys.length
  · rw [if_pos h, if_pos h, h]
    exact (runs_any ao bo ca cb xs ys w ys.length h rfl (by omega) hcb hrx hry).mono fun e w' ⟨v, T, he, ho, hm, hl, hb⟩ => ⟨⟨v, T, he, ho, hm, by omega⟩, hb⟩
  · rw [if_neg h, if_neg h]
    exact (runsU_any ao bo _ _ ca cb w h).mono fun e w' ⟨he, hw⟩ => ⟨⟨_, [], he, ownRuns_nil _ _, rfl, by simp⟩, by rw [hw]; exact Below.refl _ _⟩
theorem rrunsA (ao bo : Option Addr) (ca cb : Nat) (xs ys : List Int) (w : World) (hx : xs.length ≤ 1048576) (_hy : ys.length ≤ 1048576) (hrx : Reads w ao xs w.heap.size) (hry : Reads w bo ys w.heap.size) :
    Calls Try.prog 10 #[.slice ao xs.length ca, .slice bo ys.length cb] w fun e w' => (∃ v T, e = .returned (.tuple #[v, .int .i64 (rnE xs ys)]) ∧ OwnRuns w' w.heap.size v T ∧ T.map trun = rnL xs ys ∧ T.length ≤ 1048576) ∧ Below w.heap.size w w' := by
  unfold rnL rnE
  by_cases h : xs.length = ys.length
  · rw [if_pos h, if_pos h, h]
    exact (rruns_any ao bo ca cb xs ys w ys.length h rfl (by omega) hrx hry).mono fun e w' ⟨v, T, he, ho, hm, hl, hb⟩ => ⟨⟨v, T, he, ho, hm, by omega⟩, hb⟩
  · rw [if_neg h, if_neg h]
    exact (rrunsU_any ao bo _ _ ca cb w h).mono fun e w' ⟨he, hw⟩ => ⟨⟨_, [], he, ownRuns_nil _ _, rfl, by simp⟩, by rw [hw]; exact Below.refl _ _⟩
theorem rnL_le {xs ys : List Int} {T : List Tr} (hm : T.map trun = rnL xs ys) (hy : ys.length ≤ 1048576) : ∀ s ∈ T, s.2.2.length ≤ 8388608 := fun s hs => by
  have h1 : trun s ∈ rnL xs ys := by rw [← hm]; exact List.mem_map.2 ⟨s, hs, rfl⟩
  unfold rnL at h1
  split at h1
  · have := (rnx_bound xs.length 0 xs ys rfl _ h1).2
    simp only [trun] at this; omega
  · simp at h1
theorem mdL_len (zs : List Int) (R : List Rn) : (mdL zs R).length ≤ zs.length := by
  unfold mdL
  split
  · rename_i h
    exact Nat.le_of_eq (mnd_facts R zs zs 0 rfl h).1
  · simp
theorem mendA (ao bo : Option Addr) (ca cb : Nat) (zs : List Int) (R : List Rn) (w : World) (hn : zs.length ≤ 1048576) (hnR : R.length ≤ 1048576) (hnil : ao = none → zs = []) (hr : Reads w ao zs w.heap.size) (hR : RunsR w bo R w.heap.size)
    (hb0 : ∀ r ∈ R, r.1 ≤ 4294967295 ∧ r.2.length ≤ 140737488355328) :
    Calls Try.prog 8 #[.slice ao zs.length ca, .slice bo R.length cb] w fun e w' => (∃ v, e = .returned (.tuple #[v, .int .i64 (mdE zs R)]) ∧ w'.ownsRow w.heap.size 5 1 v (mdL zs R).length (bv (mdL zs R))) ∧ Below w.heap.size w w' := by
  unfold mdL mdE
  by_cases h : ris zs.length 0 R = true
  · rw [if_pos h, if_pos h, (mnd_facts R zs zs 0 rfl h).1]
    exact (mend_any ao bo ca cb zs R w (by omega) (by omega) hnil hr hR hb0 h).mono fun e w' ⟨v, he, ho, hb⟩ => ⟨⟨v, he, ho⟩, hb⟩
  · rw [if_neg h, if_neg h]
    exact (mendE_any ao bo zs.length ca cb R w (by omega) (by omega) hR hb0 (by simpa using h)).mono fun e w' ⟨he, hb⟩ => ⟨⟨_, he, World.ownsRow_nil _ _ _ _⟩, hb⟩
theorem rmendA (ao bo : Option Addr) (ca cb : Nat) (zs : List Int) (R : List Rn) (w : World) (hn : zs.length ≤ 1048576) (hnR : R.length ≤ 1048576) (hr : Reads w ao zs w.heap.size) (hR : RunsR w bo R w.heap.size)
    (hb0 : ∀ r ∈ R, r.1 ≤ 4294967295 ∧ r.2.length ≤ 140737488355328) :
    Calls Try.prog 7 #[.slice ao zs.length ca, .slice bo R.length cb] w fun e w' => (∃ v, e = .returned (.tuple #[v, .int .i64 (mdE zs R)]) ∧ w'.ownsRow w.heap.size 5 1 v (mdL zs R).length (bv (mdL zs R))) ∧ Below w.heap.size w w' := by
  refine (rmend_any ao bo ca cb zs R w (by omega) (by omega) hr hR hb0).mono fun e w' h => ?_
  unfold mdL mdE
  rcases h with ⟨h, he, hw⟩ | ⟨h, v, he, ho, hb⟩
  · rw [if_neg (by simp [h]), if_neg (by simp [h])]
    exact ⟨⟨_, he, World.ownsRow_nil _ _ _ _⟩, by rw [hw]; exact Below.refl _ _⟩
  · rw [if_pos h, if_pos h, (mnd_facts R zs zs 0 rfl h).1]
    exact ⟨⟨v, he, ho⟩, hb⟩
end Go.Proofs.Ytfjnpmbkmoodnaa
