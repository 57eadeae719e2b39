import Derived.Test.YtnlfgijmkgihcaaDoorPSv
import Derived.Test.YtnlfgijmkgihcaaDoorPSi
namespace Go.Proofs.YtnlfgijmkgihcaaDoor
open Go.RowKit Go.WideShapes
set_option maxRecDepth 100000

theorem Dr.setI {w W : World} (h : Dr w W) {p g b n : Nat} {xs : List Nat} (hs : SetRI w p g b xs n) : SetRI W p g b xs n := by
  obtain ⟨m, rfl⟩ := h
  exact ⟨hs.obj, hs.row, hs.ne, hs.len, hs.bd, hs.wf, hs.hi⟩
set_option maxHeartbeats 2000000 in
theorem same_anyI (p1 g1 b1 n1 p2 g2 b2 n2 : Nat) (xs ys : List Nat) (w : World) (h1 : SetRI w p1 g1 b1 xs n1) (h2 : SetRI w p2 g2 b2 ys n2) :
    Calls Tryd.prog 18 #[.pointer (some ⟨p1, 0, none⟩), .pointer (some ⟨p2, 0, none⟩)] w fun e w' => e = .returned (.bool (sameW xs ys)) ∧ Dr w w' := by
  have hl1 : xs.length ≤ 70000 := by have := h1.len; have := h1.bd; omega
  have hl2 : ys.length ≤ 70000 := by have := h2.len; have := h2.bd; omega
  obtain ⟨k, hk⟩ : ∃ k, min ys.length xs.length = k := ⟨_, rfl⟩
  have hmin : (if ys.length < xs.length then (ys.length : Int) else (xs.length : Int)) = (k : Int) := by split <;> omega
  have hmin2 : (if (ys.length : Int) < (xs.length : Int) then (ys.length : Int) else (xs.length : Int)) = (k : Int) := by split <;> omega
  have hkx : k ≤ xs.length := by omega
  have hky : k ≤ ys.length := by omega
  have HS : Hid (sameW xs ys = (decide (xs.take k = ys.take k) && nilW (xs.drop k) && nilW (ys.drop k))) := hidS (by rw [← hk]; rfl)
  have HE : Hid (∀ W, Dr w W → Calls Tryd.prog 43 #[.slice (some ⟨g1, 0, none⟩) k xs.length, .slice (some ⟨g2, 0, none⟩) k ys.length] W fun e w' => e = .returned (.bool (decide (xs.take k = ys.take k))) ∧ ∃ m, w' = W.drewN m) := hidS (fun W hW => by
    have := equalU_any g1 0 xs.length g2 0 ys.length (xs.take k) (ys.take k) W (by simp; omega) (by simp; omega) ((hW.setI h1).reads.take k) ((hW.setI h2).reads.take k)
    rw [List.length_take, List.length_take, Nat.min_eq_left hkx, Nat.min_eq_left hky] at this
    exact this)
  have HN1 : Hid (∀ W, Dr w W → Calls Tryd.prog 44 #[.slice (if xs.length = k then some ⟨g1, 0, none⟩ else some ⟨g1, k, none⟩) (xs.length - k) (xs.length - k)] W fun e w' => e = .returned (.bool (nilW (xs.drop k))) ∧ w' = W) := hidS (fun W hW => by
    by_cases he : xs.length = k
    · rw [if_pos he]
      have := nought_any g1 0 (xs.length - k) (xs.drop k) W (by simp; omega) (fun i hi => by rw [List.length_drop] at hi; omega)
      rw [List.length_drop] at this
      exact this
    · rw [if_neg he]
      have := nought_any g1 (0 + k) (xs.length - k) (xs.drop k) W (by simp; omega) ((hW.setI h1).reads.drop k)
      rw [List.length_drop, Nat.zero_add] at this
      exact this)
  have HN2 : Hid (∀ W, Dr w W → Calls Tryd.prog 44 #[.slice (if ys.length = k then some ⟨g2, 0, none⟩ else some ⟨g2, k, none⟩) (ys.length - k) (ys.length - k)] W fun e w' => e = .returned (.bool (nilW (ys.drop k))) ∧ w' = W) := hidS (fun W hW => by
    by_cases he : ys.length = k
    · rw [if_pos he]
      have := nought_any g2 0 (ys.length - k) (ys.drop k) W (by simp; omega) (fun i hi => by rw [List.length_drop] at hi; omega)
      rw [List.length_drop] at this
      exact this
    · rw [if_neg he]
      have := nought_any g2 (0 + k) (ys.length - k) (ys.drop k) W (by simp; omega) ((hW.setI h2).reads.drop k)
      rw [List.length_drop, Nat.zero_add] at this
      exact this)
  have hH1 := held_anyI p1 g1 b1 n1 xs w h1
  have hH2 := held_anyI p2 g2 b2 n2 ys w h2
  rw [HS.out]
  clear HS hk h1 h2
  generalize decide (xs.take k = ys.take k) = q1 at HE ⊢
  generalize nilW (xs.drop k) = q2 at HN1 ⊢
  generalize nilW (ys.drop k) = q3 at HN2 ⊢
  go_enter Tryd.func18, Tryd.ntmps18
  go_wp2_with (first | (go_at_call 42; first | (with_reducible refine hH1.mono ?_; rintro e w2 ⟨rfl, hw2⟩; subst hw2) | (with_reducible refine hH2.mono ?_; rintro e w2 ⟨rfl, hw2⟩; subst hw2)))
  have iq1 : (k : Int) ≤ (xs.length : Int) := by omega
  have iq2 : (k : Int) ≤ (ys.length : Int) := by omega
  have HD : Dr w2 w2 := Dr.refl _
  cases q1 <;> cases q2 <;> cases q3
  all_goals
    go_quiet (first | (with_reducible refine Calls.quiet_of (HE.out _ (Dr.n _ _))) | (with_reducible refine Calls.quiet_of_same (HN1.out _ (Dr.n _ _))) | (with_reducible refine Calls.quiet_of_same (HN2.out _ (Dr.n _ _))))
    go_wp2
    all_goals
      go_ret
      exact ⟨rfl, Dr.n _ _⟩
end Go.Proofs.YtnlfgijmkgihcaaDoor
