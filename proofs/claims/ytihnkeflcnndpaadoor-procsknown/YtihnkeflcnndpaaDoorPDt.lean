import Derived.Test.YtihnkeflcnndpaaDoorPSm
namespace Go.Proofs.YtihnkeflcnndpaaDoor
open Go.RowKit Go.WideShapes Go.Shelf
set_option maxRecDepth 100000

theorem ckR_det {L : List (Nat × Nat)} {Ps : List (Nat × Nat × Nat)} {i x i' x' : Nat} (h : CkR L Ps i x) (h' : CkR L Ps i' x') : i = i' ∧ x = x' := by
  rcases h with ⟨a1, a2, a3⟩ | ⟨a1, k, a2, a3, a4, a5, a6, a7⟩
  · rcases h' with ⟨b1, b2, b3⟩ | ⟨b1, k', b2, b3, b4, b5, b6, b7⟩
    · exact ⟨by omega, by omega⟩
    · exact absurd ((b5.symm.trans (a3 k' b2 i' b3 b4))) b1
  · rcases h' with ⟨b1, b2, b3⟩ | ⟨b1, k', b2, b3, b4, b5, b6, b7⟩
    · exact absurd ((a5.symm.trans (b3 k a2 i a3 a4))) a1
    · rcases Nat.lt_trichotomy k k' with h | h | h
      · exact absurd (a5.symm.trans (b7 k h i a3 a4)) a1
      · subst h
        rcases Nat.lt_trichotomy i i' with h | h | h
        · exact absurd (a5.symm.trans (b6 i a3 h)) a1
        · subst h
          exact ⟨rfl, a5.symm.trans b5⟩
        · exact absurd (b5.symm.trans (a6 i' b3 h)) b1
      · exact absurd (b5.symm.trans (a7 k' h i' b3 b4)) b1
theorem jmR_det {L : List (Nat × Nat)} {J : List Nat} {i x i' x' : Nat} (h : JmR L J i x) (h' : JmR L J i' x') : i = i' ∧ x = x' := by
  rcases h with ⟨a1, a2, a3⟩ | ⟨a1, a2, a3, a4⟩
  · rcases h' with ⟨b1, b2, b3⟩ | ⟨b1, b2, b3, b4⟩
    · exact ⟨by omega, by omega⟩
    · rw [a3 i' b2] at b3
      cases b3
  · rcases h' with ⟨b1, b2, b3⟩ | ⟨b1, b2, b3, b4⟩
    · rw [b3 i a2] at a3
      cases a3
    · rcases Nat.lt_trichotomy i i' with h | h | h
      · rw [b4 i h] at a3
        cases a3
      · exact ⟨h, by omega⟩
      · rw [a4 i' h] at b3
        cases b3
theorem nmR_det {L : List (Nat × Nat)} {M : List (ByteArray × Nat)} {i x i' x' : Nat} (h : NmR L M i x) (h' : NmR L M i' x') : i = i' ∧ x = x' := by
  rcases h with ⟨a1, a2, a3⟩ | ⟨a1, a2, a3, a4⟩
  · rcases h' with ⟨b1, b2, b3⟩ | ⟨b1, b2, b3, b4⟩
    · exact ⟨by omega, by omega⟩
    · rw [a3 i' b2] at b3
      cases b3
  · rcases h' with ⟨b1, b2, b3⟩ | ⟨b1, b2, b3, b4⟩
    · rw [b3 i a2] at a3
      cases a3
    · rcases Nat.lt_trichotomy i i' with h | h | h
      · rw [b4 i h] at a3
        cases a3
      · exact ⟨h, by omega⟩
      · rw [a4 i' h] at b3
        cases b3
/-- there is one first fault -/
theorem fdB_det {L : List (Nat × Nat)} {J : List Nat} {M : List (ByteArray × Nat)} {i x i' x' : Nat} (h : FdB L J M i x) (hx : x ≠ 0) (h' : FdB L J M i' x') (hx' : x' ≠ 0) : i = i' ∧ x = x' := by
  rcases h with ⟨a1, a2, a3⟩ | ⟨a1, a2, a3, a4⟩ | ⟨a1, a2, a3⟩ | ⟨a1, a2, a3, a4⟩ | ⟨a1, a2, a3, a4, a5⟩
  · rcases h' with ⟨b1, b2, b3⟩ | ⟨b1, _⟩ | ⟨b1, _⟩ | ⟨b1, _⟩ | ⟨b1, _⟩
    · exact ⟨by omega, by omega⟩
    all_goals exact absurd b1 a1
  · rcases h' with ⟨b1, _⟩ | ⟨b1, b2, b3, b4⟩ | ⟨_, b2, _⟩ | ⟨_, b2, _⟩ | ⟨_, b2, _⟩
    · exact absurd a1 b1
    · exact ⟨by omega, by omega⟩
    all_goals rw [a2] at b2; cases b2
  · rcases h' with ⟨b1, _⟩ | ⟨_, b2, _⟩ | ⟨_, _, b3⟩ | ⟨_, _, b3, _⟩ | ⟨_, _, b3, _⟩
    · exact absurd a1 b1
    · rw [a2] at b2; cases b2
    · exact ckR_det a3 b3
    all_goals exact absurd (ckR_det a3 b3).2 hx
  · rcases h' with ⟨b1, _⟩ | ⟨_, b2, _⟩ | ⟨_, _, b3⟩ | ⟨_, _, b3, b4⟩ | ⟨_, _, b3, b4, _⟩
    · exact absurd a1 b1
    · rw [a2] at b2; cases b2
    · exact absurd (ckR_det b3 a3).2 hx'
    · exact jmR_det a4 b4
    · exact absurd (jmR_det a4 b4).2 hx
  · rcases h' with ⟨b1, _⟩ | ⟨_, b2, _⟩ | ⟨_, _, b3⟩ | ⟨_, _, b3, b4⟩ | ⟨_, _, b3, b4, b5⟩
    · exact absurd a1 b1
    · rw [a2] at b2; cases b2
    · exact absurd (ckR_det b3 a3).2 hx'
    · exact absurd (jmR_det b4 a4).2 hx'
    · exact nmR_det a5 b5
end Go.Proofs.YtihnkeflcnndpaaDoor
