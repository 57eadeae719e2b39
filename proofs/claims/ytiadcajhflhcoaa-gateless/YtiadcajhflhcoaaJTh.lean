import Derived.Test.YtiadcajhflhcoaaJSm
namespace Go.Proofs.Ytiadcajhflhcoaa
open Go.RowKit
set_option maxRecDepth 100000
theorem within_true (g g' : Nat) (f f' : Int → Option Int) (w : World) (h : GtS w g f) (h' : GtS w g' f') (hw : withinP f f') :
    Calls Try.prog 7 #[.pointer (some ⟨g, 0, none⟩), .pointer (some ⟨g', 0, none⟩)] w fun e w' => e = .returned (.bool true) ∧ Below w.heap.size w w' :=
  (within_any g g' f f' w h h').mono fun e w' ⟨t, he, ht, hb⟩ => by
    rw [ht.2 hw] at he; exact ⟨he, hb⟩
theorem within_false (g g' : Nat) (f f' : Int → Option Int) (w : World) (h : GtS w g f) (h' : GtS w g' f') (hw : ¬ withinP f f') :
    Calls Try.prog 7 #[.pointer (some ⟨g, 0, none⟩), .pointer (some ⟨g', 0, none⟩)] w fun e w' => e = .returned (.bool false) ∧ Below w.heap.size w w' :=
  (within_any g g' f f' w h h').mono fun e w' ⟨t, he, ht, hb⟩ => by
    cases t
    · exact ⟨he, hb⟩
    · exact absurd (ht.1 rfl) hw
theorem withinP_less (f : Int → Option Int) (J : List Nat) : withinP (lessF f J) f := by
  intro k v h
  simp only [lessF] at h
  split at h
  · cases h
  · exact h
theorem withinP_refl (f : Int → Option Int) : withinP f f := fun _ _ h => h
theorem withinP_trans {f g h : Int → Option Int} (a : withinP f g) (b : withinP g h) : withinP f h := fun k v e => b k v (a k v e)
set_option maxHeartbeats 2000000 in
theorem gate_through (a0 a1 a2 : Option Addr) (c0 c1 c2 : Nat) (J0 J1 J2 : List Nat) (w : World) (n0 : J0.length ≤ 140737488351232) (n1 : J1.length ≤ 140737488351232) (n2 : J2.length ≤ 140737488351232)
    (r0 : WRd w a0 J0 w.heap.size) (r1 : WRd w a1 J1 w.heap.size) (r2 : WRd w a2 J2 w.heap.size) (k0 : ∀ z ∈ J0, z < 4294967296) (k1 : ∀ z ∈ J1, z < 4294967296) (k2 : ∀ z ∈ J2, z < 4294967296) :
    Calls Try.prog 4 #[.slice a0 J0.length c0, .slice a1 J1.length c1, .slice a2 J2.length c2] w fun e w' => e = .returned (.bool true) ∧ Below w.heap.size w w' := by
  have hS := some_any a0 c0 J0 w (by omega) k0 r0
  go_enter Try.func4, Try.ntmps4
  go_wp2_with (go_at_call 5; with_reducible refine hS.mono ?_; rintro e w1 ⟨gc, v, L, rfl, hSm⟩)
  obtain ⟨-, -, -, -, hC, hX, -⟩ := hSm
  have hL1 := less_any gc (ofL L) a1 c1 J1 w1 hC (by omega) k1 ((r1.below hX).mono hX.size)
  go_wp2_with (go_at_call 6; with_reducible refine hL1.mono ?_; rintro e w2 ⟨gb, rfl, -, hb, hB⟩; replace hC := hC.kept hb rfl; replace hX := gbt hb hX)
  have hL2 := less_any gb _ a2 c2 J2 w2 hB (by omega) k2 ((r2.below hX).mono hX.size)
  go_wp2_with (go_at_call 6; with_reducible refine hL2.mono ?_; rintro e w3 ⟨ga, rfl, -, hb3, hA⟩; replace hC := hC.kept hb3 rfl; replace hB := hB.kept hb3 rfl; replace hX := gbt hb3 hX)
  have q1 := withinP_less (ofL L) J1
  have q2 := withinP_less (lessF (ofL L) J1) J2
  have q3 := withinP_trans q2 q1
  have q4 := withinP_refl (lessF (lessF (ofL L) J1) J2)
  clear hS hL1 hL2 hb hb3 r0 r1 r2 n0 n1 n2
  generalize ofL L = f0 at *
  generalize lessF f0 J1 = f1 at *
  generalize lessF f1 J2 = f2 at *
  go_wp2_with (first
    | (go_at_call 7; with_reducible refine (within_true ga gb f2 f1 _ hA hB q2).mono ?_; rintro e wq ⟨rfl, hq⟩; replace hA := hA.kept hq rfl; replace hB := hB.kept hq rfl; replace hC := hC.kept hq rfl; replace hX := gbt hq hX)
    | (go_at_call 7; with_reducible refine (within_true gb gc f1 f0 _ hB hC q1).mono ?_; rintro e wq ⟨rfl, hq⟩; replace hA := hA.kept hq rfl; replace hB := hB.kept hq rfl; replace hC := hC.kept hq rfl; replace hX := gbt hq hX)
    | (go_at_call 7; with_reducible refine (within_true ga gc f2 f0 _ hA hC q3).mono ?_; rintro e wq ⟨rfl, hq⟩; replace hA := hA.kept hq rfl; replace hB := hB.kept hq rfl; replace hC := hC.kept hq rfl; replace hX := gbt hq hX))
  by_cases hca : withinP f0 f2
  · have q5 := withinP_trans hca q2
    have q6 := withinP_trans q1 hca
    go_wp2_with (first
      | (go_at_call 7; with_reducible refine (within_true gc ga f0 f2 _ hC hA hca).mono ?_; rintro e wq ⟨rfl, hq⟩; replace hA := hA.kept hq rfl; replace hB := hB.kept hq rfl; replace hC := hC.kept hq rfl; replace hX := gbt hq hX)
      | (go_at_call 7; with_reducible refine (within_true gc gb f0 f1 _ hC hB q5).mono ?_; rintro e wq ⟨rfl, hq⟩; replace hA := hA.kept hq rfl; replace hB := hB.kept hq rfl; replace hC := hC.kept hq rfl; replace hX := gbt hq hX)
      | (go_at_call 7; with_reducible refine (within_true gb ga f1 f2 _ hB hA q6).mono ?_; rintro e wq ⟨rfl, hq⟩; replace hA := hA.kept hq rfl; replace hB := hB.kept hq rfl; replace hC := hC.kept hq rfl; replace hX := gbt hq hX)
      | (go_at_call 7; with_reducible refine (within_true ga ga f2 f2 _ hA hA q4).mono ?_; rintro e wq ⟨rfl, hq⟩; replace hA := hA.kept hq rfl; replace hB := hB.kept hq rfl; replace hC := hC.kept hq rfl; replace hX := gbt hq hX))
    go_ret
    exact ⟨rfl, hX⟩
  · go_wp2_with (first
      | (go_at_call 7; with_reducible refine (within_false gc ga f0 f2 _ hC hA hca).mono ?_; rintro e wq ⟨rfl, hq⟩; replace hA := hA.kept hq rfl; replace hB := hB.kept hq rfl; replace hC := hC.kept hq rfl; replace hX := gbt hq hX)
      | (go_at_call 7; with_reducible refine (within_true ga ga f2 f2 _ hA hA q4).mono ?_; rintro e wq ⟨rfl, hq⟩; replace hA := hA.kept hq rfl; replace hB := hB.kept hq rfl; replace hC := hC.kept hq rfl; replace hX := gbt hq hX))
    go_ret
    exact ⟨rfl, hX⟩
end Go.Proofs.Ytiadcajhflhcoaa
