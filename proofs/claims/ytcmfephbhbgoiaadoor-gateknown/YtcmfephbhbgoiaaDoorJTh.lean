import Derived.Test.YtcmfephbhbgoiaaDoorJSm
namespace Go.Proofs.YtcmfephbhbgoiaaDoor
open Go.RowKit
set_option maxRecDepth 100000
theorem within_true (g g' : Nat) (f f' : Int → Option Int) (w : World) (h : GtS w g f) (h' : GtS w g' f') (hw : withinP f f') :
    Calls Tryd.prog 15 #[.pointer (some ⟨g, 0, none⟩), .pointer (some ⟨g', 0, none⟩)] w fun e w' => e = .returned (.bool true) ∧ Below w.heap.size w w' :=
  (within_any g g' f f' w h h').mono fun e w' ⟨t, he, ht, hb⟩ => by
    rw [ht.2 hw] at he; exact ⟨he, hb⟩
theorem within_false (g g' : Nat) (f f' : Int → Option Int) (w : World) (h : GtS w g f) (h' : GtS w g' f') (hw : ¬ withinP f f') :
    Calls Tryd.prog 15 #[.pointer (some ⟨g, 0, none⟩), .pointer (some ⟨g', 0, none⟩)] w fun e w' => e = .returned (.bool false) ∧ Below w.heap.size w w' :=
  (within_any g g' f f' w h h').mono fun e w' ⟨t, he, ht, hb⟩ => by
    cases t
    · exact ⟨he, hb⟩
    · exact absurd (ht.1 rfl) hw
theorem withinP_less (f : Int → Option Int) (J : List Nat) : withinP (lessF f J) f := by
  intro k v h
  simp only [lessF] at h
  split at h
  · cases h
  · exact h
theorem withinP_refl (f : Int → Option Int) : withinP f f := fun _ _ h => h
theorem withinP_trans {f g h : Int → Option Int} (a : withinP f g) (b : withinP g h) : withinP f h := fun k v e => b k v (a k v e)
end Go.Proofs.YtcmfephbhbgoiaaDoor
