import Derived.Test.YtnlfgijmkgihcaaDoorPSu
namespace Go.Proofs.YtnlfgijmkgihcaaDoor
open Go.RowKit Go.WideShapes
set_option maxRecDepth 100000

/-- what Same tells -/
def sameW (xs ys : List Nat) : Bool := decide (xs.take (min ys.length xs.length) = ys.take (min ys.length xs.length)) && nilW (xs.drop (min ys.length xs.length)) && nilW (ys.drop (min ys.length xs.length))
theorem nil_has {ws : List Nat} : nilW ws = true ↔ ∀ z ∈ ws, z = 0 := by simp [nilW]
theorem has_take {ws : List Nat} {k x : Nat} : hasW (ws.take k) x = (decide (x / 64 < k) && hasW ws x) := by
  unfold hasW
  simp only [List.getD_eq_getElem?_getD, List.getElem?_take]
  by_cases h : x / 64 < k <;> simp [h]
theorem has_drop_nil {ws : List Nat} {k : Nat} (hw : ∀ z ∈ ws, z < 2 ^ 64) : (∀ z ∈ ws.drop k, z = 0) ↔ ∀ x, k ≤ x / 64 → hasW ws x = false := by
  constructor
  · intro h x hx
    unfold hasW
    rw [List.getD_eq_getElem?_getD]
    cases he : ws[x / 64]? with
    | none => simp
    | some v =>
      have : v ∈ ws.drop k := by
        rw [List.mem_iff_getElem?]
        exact ⟨x / 64 - k, by rw [List.getElem?_drop, show k + (x / 64 - k) = x / 64 by omega]; exact he⟩
      rw [h v this]; simp
  · intro h z hz
    obtain ⟨i, hi⟩ := List.mem_iff_getElem?.1 hz
    rw [List.getElem?_drop] at hi
    apply Nat.eq_of_testBit_eq
    intro j
    rw [Nat.zero_testBit]
    by_cases hj : j < 64
    · have := h (64 * (k + i) + j) (by omega)
      unfold hasW at this
      rw [show (64 * (k + i) + j) / 64 = k + i by omega, show (64 * (k + i) + j) % 64 = j by omega, List.getD_eq_getElem?_getD, hi] at this
      exact this
    · exact Nat.testBit_lt_two_pow (Nat.lt_of_lt_of_le (hw z (List.mem_of_mem_drop hz)) (Nat.pow_le_pow_right (by decide) (by omega)))
theorem sameW_iff {xs ys : List Nat} (hx : ∀ z ∈ xs, z < 2 ^ 64) (hy : ∀ z ∈ ys, z < 2 ^ 64) : sameW xs ys = true ↔ ∀ x, hasW xs x = hasW ys x := by
  unfold sameW
  generalize hk : min ys.length xs.length = k
  rw [Bool.and_eq_true, Bool.and_eq_true, decide_eq_true_eq, nil_has, nil_has, has_drop_nil hx, has_drop_nil hy]
  have hm : k = xs.length ∨ k = ys.length := by omega
  constructor
  · rintro ⟨⟨h1, h2⟩, h3⟩ x
    by_cases h : x / 64 < k
    · have e1 := has_take (ws := xs) (k := k) (x := x)
      have e2 := has_take (ws := ys) (k := k) (x := x)
      rw [h1, e2] at e1
      simpa [h] using e1.symm
    · rw [h2 x (by omega), h3 x (by omega)]
  · intro h
    have off : ∀ x, k ≤ x / 64 → hasW xs x = false ∧ hasW ys x = false := by
      intro x hx
      rcases hm with e | e
      · have := hasW_off (ws := xs) (x := x) (by omega)
        exact ⟨this, by rw [← h x]; exact this⟩
      · have := hasW_off (ws := ys) (x := x) (by omega)
        exact ⟨by rw [h x]; exact this, this⟩
    refine ⟨⟨hasW_ext (by simp; omega) (fun z hz => hx z (List.mem_of_mem_take hz)) (fun z hz => hy z (List.mem_of_mem_take hz)) (fun x => ?_), fun x hx => (off x hx).1⟩, fun x hx => (off x hx).2⟩
    rw [has_take, has_take, h x]
/-- nothing but draws -/
def Dr (w W : World) : Prop := ∃ m, W = w.drewN m
theorem Dr.n (w : World) (m : Nat) : Dr w (w.drewN m) := ⟨m, rfl⟩
theorem Dr.refl (w : World) : Dr w w := ⟨0, rfl⟩
theorem Dr.drew {w W : World} (h : Dr w W) : Dr w W.drew := by
  obtain ⟨m, rfl⟩ := h
  exact ⟨m + 1, World.drewN_drewN _ _ _⟩
theorem Dr.set {w W : World} (h : Dr w W) {p g b n : Nat} {xs : List Nat} (hs : SetR w p g b xs n) : SetR W p g b xs n := by
  obtain ⟨m, rfl⟩ := h
  exact ⟨hs.obj, hs.row, hs.ne, hs.len, hs.bd, hs.wf, hs.hi⟩
set_option maxHeartbeats 2000000 in
theorem same_any (p1 g1 b1 n1 p2 g2 b2 n2 : Nat) (xs ys : List Nat) (w : World) (h1 : SetR w p1 g1 b1 xs n1) (h2 : SetR w p2 g2 b2 ys n2) :
    Calls Tryd.prog 22 #[.pointer (some ⟨p1, 0, none⟩), .pointer (some ⟨p2, 0, none⟩)] w fun e w' => e = .returned (.bool (sameW xs ys)) ∧ Dr w w' := by
  have hl1 : xs.length ≤ 70000 := by have := h1.len; have := h1.bd; omega
  have hl2 : ys.length ≤ 70000 := by have := h2.len; have := h2.bd; omega
  obtain ⟨k, hk⟩ : ∃ k, min ys.length xs.length = k := ⟨_, rfl⟩
  have hmin : (if ys.length < xs.length then (ys.length : Int) else (xs.length : Int)) = (k : Int) := by split <;> omega
  have hmin2 : (if (ys.length : Int) < (xs.length : Int) then (ys.length : Int) else (xs.length : Int)) = (k : Int) := by split <;> omega
  have hkx : k ≤ xs.length := by omega
  have hky : k ≤ ys.length := by omega
  have HS : Hid (sameW xs ys = (decide (xs.take k = ys.take k) && nilW (xs.drop k) && nilW (ys.drop k))) := hidS (by rw [← hk]; rfl)
  have HE : Hid (∀ W, Dr w W → Calls Tryd.prog 43 #[.slice (some ⟨g1, 0, none⟩) k xs.length, .slice (some ⟨g2, 0, none⟩) k ys.length] W fun e w' => e = .returned (.bool (decide (xs.take k = ys.take k))) ∧ ∃ m, w' = W.drewN m) := hidS (fun W hW => by
    have := equalU_any g1 0 xs.length g2 0 ys.length (xs.take k) (ys.take k) W (by simp; omega) (by simp; omega) ((hW.set h1).reads.take k) ((hW.set h2).reads.take k)
    rw [List.length_take, List.length_take, Nat.min_eq_left hkx, Nat.min_eq_left hky] at this
    exact this)
  have HN1 : Hid (∀ W, Dr w W → Calls Tryd.prog 44 #[.slice (if xs.length = k then some ⟨g1, 0, none⟩ else some ⟨g1, k, none⟩) (xs.length - k) (xs.length - k)] W fun e w' => e = .returned (.bool (nilW (xs.drop k))) ∧ w' = W) := hidS (fun W hW => by
    by_cases he : xs.length = k
    · rw [if_pos he]
      have := nought_any g1 0 (xs.length - k) (xs.drop k) W (by simp; omega) (fun i hi => by rw [List.length_drop] at hi; omega)
      rw [List.length_drop] at this
      exact this
    · rw [if_neg he]
      have := nought_any g1 (0 + k) (xs.length - k) (xs.drop k) W (by simp; omega) ((hW.set h1).reads.drop k)
      rw [List.length_drop, Nat.zero_add] at this
      exact this)
  have HN2 : Hid (∀ W, Dr w W → Calls Tryd.prog 44 #[.slice (if ys.length = k then some ⟨g2, 0, none⟩ else some ⟨g2, k, none⟩) (ys.length - k) (ys.length - k)] W fun e w' => e = .returned (.bool (nilW (ys.drop k))) ∧ w' = W) := hidS (fun W hW => by
    by_cases he : ys.length = k
    · rw [if_pos he]
      have := nought_any g2 0 (ys.length - k) (ys.drop k) W (by simp; omega) (fun i hi => by rw [List.length_drop] at hi; omega)
      rw [List.length_drop] at this
      exact this
    · rw [if_neg he]
      have := nought_any g2 (0 + k) (ys.length - k) (ys.drop k) W (by simp; omega) ((hW.set h2).reads.drop k)
      rw [List.length_drop, Nat.zero_add] at this
      exact this)
  have hH1 := held_any p1 g1 b1 n1 xs w h1
  have hH2 := held_any p2 g2 b2 n2 ys w h2
  rw [HS.out]
  clear HS hk h1 h2
  generalize decide (xs.take k = ys.take k) = q1 at HE ⊢
  generalize nilW (xs.drop k) = q2 at HN1 ⊢
  generalize nilW (ys.drop k) = q3 at HN2 ⊢
  go_enter Tryd.func22, Tryd.ntmps22
  go_wp2_with (first | (go_at_call 37; first | (with_reducible refine hH1.mono ?_; rintro e w2 ⟨rfl, hw2⟩; subst hw2) | (with_reducible refine hH2.mono ?_; rintro e w2 ⟨rfl, hw2⟩; subst hw2)))
  have iq1 : (k : Int) ≤ (xs.length : Int) := by omega
  have iq2 : (k : Int) ≤ (ys.length : Int) := by omega
  have HD : Dr w2 w2 := Dr.refl _
  cases q1 <;> cases q2 <;> cases q3
  all_goals
    go_quiet (first | (with_reducible refine Calls.quiet_of (HE.out _ (Dr.n _ _))) | (with_reducible refine Calls.quiet_of_same (HN1.out _ (Dr.n _ _))) | (with_reducible refine Calls.quiet_of_same (HN2.out _ (Dr.n _ _))))
    go_wp2
    all_goals
      go_ret
      exact ⟨rfl, Dr.n _ _⟩
end Go.Proofs.YtnlfgijmkgihcaaDoor
