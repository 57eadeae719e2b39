import Derived.Test.YtigiecodobgenaaSStA
namespace Go.Proofs.Ytigiecodobgenaa
open Go.RowKit

set_option maxRecDepth 100000 in
set_option maxHeartbeats 1000000 in
theorem isn2 (m : Bool) (w : World)  :
    Calls Try.prog 53 #[.agg #[.int .u8 2, .bool m, .int .u64 0, .int .i64 0]] w fun e w' => e = .returned (.bool false) ∧ Below w.heap.size w w' := by
  go_enter Try.func53, Try.ntmps53
  go_wp2
  go_ret
  exact ⟨rfl, bel (Below.refl _ _)⟩
set_option maxRecDepth 100000 in
set_option maxHeartbeats 1000000 in
theorem isn3z (m : Bool) (p : Int) (w : World)  :
    Calls Try.prog 53 #[.agg #[.int .u8 3, .bool m, .int .u64 0, .int .i64 p]] w fun e w' => e = .returned (.bool true) ∧ Below w.heap.size w w' := by
  go_enter Try.func53, Try.ntmps53
  go_wp2
  go_ret
  exact ⟨rfl, bel (Below.refl _ _)⟩
set_option maxRecDepth 100000 in
set_option maxHeartbeats 1000000 in
theorem isn3 (m : Bool) (n : Nat) (p : Int) (w : World) (g1 : ((n : Int) == 0) = false) :
    Calls Try.prog 53 #[.agg #[.int .u8 3, .bool m, .int .u64 n, .int .i64 p]] w fun e w' => e = .returned (.bool false) ∧ Below w.heap.size w w' := by
  go_enter Try.func53, Try.ntmps53
  go_wp2
  go_ret
  exact ⟨rfl, bel (Below.refl _ _)⟩
theorem g1 {w W : World} {s : Int} {m : Bool} {n p : Int} (h : Below (w.alloc (oV s m n p)).heap.size (w.alloc (oV s m n p)) W) :
    W.cell? ⟨w.heap.size, 0, none⟩ = some (.int .u8 s) ∧ W.cell? ⟨w.heap.size, 1, none⟩ = some (.bool m) ∧ W.cell? ⟨w.heap.size, 2, none⟩ = some (.int .u64 n) ∧ W.cell? ⟨w.heap.size, 3, none⟩ = some (.int .i64 p) := by
  refine ⟨?_, ?_, ?_, ?_⟩
  · exact (h.cell (p := ⟨w.heap.size, 0, none⟩) (by simp only [sz1]; omega)).trans (World.cell?_alloc_new _ _ _ _)
  · exact (h.cell (p := ⟨w.heap.size, 1, none⟩) (by simp only [sz1]; omega)).trans (World.cell?_alloc_new _ _ _ _)
  · exact (h.cell (p := ⟨w.heap.size, 2, none⟩) (by simp only [sz1]; omega)).trans (World.cell?_alloc_new _ _ _ _)
  · exact (h.cell (p := ⟨w.heap.size, 3, none⟩) (by simp only [sz1]; omega)).trans (World.cell?_alloc_new _ _ _ _)
set_option maxRecDepth 100000 in
set_option maxHeartbeats 4000000 in
theorem sg2t (w : World) :
    Calls Try.prog 54 #[.agg #[.int .u8 2, .bool true, .int .u64 0, .int .i64 0]] w fun e w' => e = .returned (.int .i64 (-2)) ∧ Below w.heap.size w w' := by
  have HB : Below (w.alloc (oV 2 true 0 0)).heap.size (w.alloc (oV 2 true 0 0)) (w.alloc (oV 2 true 0 0)) := Below.refl _ _
  have HW : Hid (Below w.heap.size w (w.alloc (oV 2 true 0 0))) := bel (Below.refl _ _)
  go_enter Try.func54, Try.ntmps54
  go_wp2_with (go_at_call 53; with_reducible refine (isn2 true _).mono ?_; rintro e w1 ⟨rfl, hb1⟩; replace HB := bt2 hb1 HB; obtain ⟨c0, c1, c2, c3⟩ := g1 HB)
  go_ret
  exact ⟨rfl, HW.out.trans (HB.mono HW.out.size)⟩
set_option maxRecDepth 100000 in
set_option maxHeartbeats 4000000 in
theorem sg2f (w : World) :
    Calls Try.prog 54 #[.agg #[.int .u8 2, .bool false, .int .u64 0, .int .i64 0]] w fun e w' => e = .returned (.int .i64 (2)) ∧ Below w.heap.size w w' := by
  have HB : Below (w.alloc (oV 2 false 0 0)).heap.size (w.alloc (oV 2 false 0 0)) (w.alloc (oV 2 false 0 0)) := Below.refl _ _
  have HW : Hid (Below w.heap.size w (w.alloc (oV 2 false 0 0))) := bel (Below.refl _ _)
  go_enter Try.func54, Try.ntmps54
  go_wp2_with (go_at_call 53; with_reducible refine (isn2 false _).mono ?_; rintro e w1 ⟨rfl, hb1⟩; replace HB := bt2 hb1 HB; obtain ⟨c0, c1, c2, c3⟩ := g1 HB)
  go_ret
  exact ⟨rfl, HW.out.trans (HB.mono HW.out.size)⟩
set_option maxRecDepth 100000 in
set_option maxHeartbeats 4000000 in
theorem sg3t (n : Nat) (p : Int) (g1' : ((n : Int) == 0) = false) (w : World) :
    Calls Try.prog 54 #[.agg #[.int .u8 3, .bool true, .int .u64 n, .int .i64 p]] w fun e w' => e = .returned (.int .i64 (-1)) ∧ Below w.heap.size w w' := by
  have HB : Below (w.alloc (oV 3 true n p)).heap.size (w.alloc (oV 3 true n p)) (w.alloc (oV 3 true n p)) := Below.refl _ _
  have HW : Hid (Below w.heap.size w (w.alloc (oV 3 true n p))) := bel (Below.refl _ _)
  go_enter Try.func54, Try.ntmps54
  go_wp2_with (go_at_call 53; with_reducible refine (isn3 true n p _ g1').mono ?_; rintro e w1 ⟨rfl, hb1⟩; replace HB := bt2 hb1 HB; obtain ⟨c0, c1, c2, c3⟩ := g1 HB)
  go_ret
  exact ⟨rfl, HW.out.trans (HB.mono HW.out.size)⟩
set_option maxRecDepth 100000 in
set_option maxHeartbeats 4000000 in
theorem sg3f (n : Nat) (p : Int) (g1' : ((n : Int) == 0) = false) (w : World) :
    Calls Try.prog 54 #[.agg #[.int .u8 3, .bool false, .int .u64 n, .int .i64 p]] w fun e w' => e = .returned (.int .i64 (1)) ∧ Below w.heap.size w w' := by
  have HB : Below (w.alloc (oV 3 false n p)).heap.size (w.alloc (oV 3 false n p)) (w.alloc (oV 3 false n p)) := Below.refl _ _
  have HW : Hid (Below w.heap.size w (w.alloc (oV 3 false n p))) := bel (Below.refl _ _)
  go_enter Try.func54, Try.ntmps54
  go_wp2_with (go_at_call 53; with_reducible refine (isn3 false n p _ g1').mono ?_; rintro e w1 ⟨rfl, hb1⟩; replace HB := bt2 hb1 HB; obtain ⟨c0, c1, c2, c3⟩ := g1 HB)
  go_ret
  exact ⟨rfl, HW.out.trans (HB.mono HW.out.size)⟩
set_option maxRecDepth 100000 in
set_option maxHeartbeats 4000000 in
theorem sg3z (m : Bool) (p : Int) (w : World) :
    Calls Try.prog 54 #[.agg #[.int .u8 3, .bool m, .int .u64 0, .int .i64 p]] w fun e w' => e = .returned (.int .i64 (0)) ∧ Below w.heap.size w w' := by
  have HB : Below (w.alloc (oV 3 m 0 p)).heap.size (w.alloc (oV 3 m 0 p)) (w.alloc (oV 3 m 0 p)) := Below.refl _ _
  have HW : Hid (Below w.heap.size w (w.alloc (oV 3 m 0 p))) := bel (Below.refl _ _)
  go_enter Try.func54, Try.ntmps54
  go_wp2_with (go_at_call 53; with_reducible refine (isn3z m p _).mono ?_; rintro e w1 ⟨rfl, hb1⟩; replace HB := bt2 hb1 HB; obtain ⟨c0, c1, c2, c3⟩ := g1 HB)
  go_ret
  exact ⟨rfl, HW.out.trans (HB.mono HW.out.size)⟩
end Go.Proofs.Ytigiecodobgenaa
