import Derived.Test.YtiohmcfabjmcoaaSParA
namespace Go.Proofs.Ytiohmcfabjmcoaa
open Go.RowKit

set_option maxRecDepth 100000 in
set_option maxHeartbeats 1000000 in
theorem rj10 (m : Bool) (n : Nat) (q : Int) (X : Nat) (w : World)  (l : ∀ w, Calls Try.prog 24 #[.agg #[.int .u8 1, .bool m, .int .u64 0, .int .i64 0]] w fun e w' => e = .returned (.int .u32 (X : Int)) ∧ Below w.heap.size w w')
    (sp : ∀ w, Calls Try.prog 8 #[.int .u32 (X : Int)] w fun e w' => e = .returned (.agg #[.int .u8 1, .bool m, .int .u32 (n : Int), .int .i64 q]) ∧ Below w.heap.size w w') :
    Calls Try.prog 10 #[.agg #[.int .u8 1, .bool m, .int .u32 (n : Int), .int .i64 q]] w fun e w' => e = .returned (.tuple #[.int .u32 (X : Int), .int .i64 0]) ∧ Below w.heap.size w w' := by
  have hB := Below.refl (w.alloc (.cells #[.int .u8 1, .bool m, .int .u32 (n : Int), .int .i64 q] 25)).heap.size (w.alloc (.cells #[.int .u8 1, .bool m, .int .u32 (n : Int), .int .i64 q] 25))
  go_enter Try.func10, Try.ntmps10
  go_wp2_with (first
    | (go_at_call 24; refine (l _).mono ?_; rintro e wq ⟨rfl, hq⟩; have hB := bt (by first | exact hB | exact bdn hB | exact Below.drew hB | exact Below.drew (Below.drew hB)) hq; obtain ⟨c0, c1, c2, c3⟩ := pcl hB; have sz : w.heap.size < wq.heap.size := (by have := hB.size; simp at this; omega))
    | (go_at_call 8; refine (sp _).mono ?_; rintro e wq ⟨rfl, hq⟩; have hB := bt (by first | exact hB | exact bdn hB | exact Below.drew hB | exact Below.drew (Below.drew hB)) hq; obtain ⟨c0, c1, c2, c3⟩ := pcl hB; have sz : w.heap.size < wq.heap.size := (by have := hB.size; simp at this; omega)))
  go_ret2
  exact ⟨rfl, bt (bel (Below.refl _ w)) (by first | exact hB | exact bel hB | exact bdn (bel hB))⟩
set_option maxRecDepth 100000 in
set_option maxHeartbeats 1000000 in
theorem rj12 (m : Bool) (n : Nat) (q : Int) (X : Nat) (m' : Bool) (n' : Nat) (q' : Int) (g9 : (m' != m) = true) (w : World)  (l : ∀ w, Calls Try.prog 24 #[.agg #[.int .u8 1, .bool m, .int .u64 0, .int .i64 0]] w fun e w' => e = .returned (.int .u32 (X : Int)) ∧ Below w.heap.size w w')
    (sp : ∀ w, Calls Try.prog 8 #[.int .u32 (X : Int)] w fun e w' => e = .returned (.agg #[.int .u8 1, .bool m', .int .u32 (n' : Int), .int .i64 q']) ∧ Below w.heap.size w w') :
    Calls Try.prog 10 #[.agg #[.int .u8 1, .bool m, .int .u32 (n : Int), .int .i64 q]] w fun e w' => e = .returned (.tuple #[.int .u32 0, .int .i64 30]) ∧ Below w.heap.size w w' := by
  have hB := Below.refl (w.alloc (.cells #[.int .u8 1, .bool m, .int .u32 (n : Int), .int .i64 q] 25)).heap.size (w.alloc (.cells #[.int .u8 1, .bool m, .int .u32 (n : Int), .int .i64 q] 25))
  cases m <;> cases m'
  · exact absurd g9 (by decide)
  · clear g9
    go_enter Try.func10, Try.ntmps10
    go_wp2_with (first
      | (go_at_call 24; refine (l _).mono ?_; rintro e wq ⟨rfl, hq⟩; have hB := bt (by first | exact hB | exact bdn hB | exact Below.drew hB | exact Below.drew (Below.drew hB)) hq; obtain ⟨c0, c1, c2, c3⟩ := pcl hB; have sz : w.heap.size < wq.heap.size := (by have := hB.size; simp at this; omega))
      | (go_at_call 8; refine (sp _).mono ?_; rintro e wq ⟨rfl, hq⟩; have hB := bt (by first | exact hB | exact bdn hB | exact Below.drew hB | exact Below.drew (Below.drew hB)) hq; obtain ⟨c0, c1, c2, c3⟩ := pcl hB; have sz : w.heap.size < wq.heap.size := (by have := hB.size; simp at this; omega)))
    go_ret2
    exact ⟨rfl, bt (bel (Below.refl _ w)) (by first | exact hB | exact bel hB | exact bdn (bel hB))⟩
  · clear g9
    go_enter Try.func10, Try.ntmps10
    go_wp2_with (first
      | (go_at_call 24; refine (l _).mono ?_; rintro e wq ⟨rfl, hq⟩; have hB := bt (by first | exact hB | exact bdn hB | exact Below.drew hB | exact Below.drew (Below.drew hB)) hq; obtain ⟨c0, c1, c2, c3⟩ := pcl hB; have sz : w.heap.size < wq.heap.size := (by have := hB.size; simp at this; omega))
      | (go_at_call 8; refine (sp _).mono ?_; rintro e wq ⟨rfl, hq⟩; have hB := bt (by first | exact hB | exact bdn hB | exact Below.drew hB | exact Below.drew (Below.drew hB)) hq; obtain ⟨c0, c1, c2, c3⟩ := pcl hB; have sz : w.heap.size < wq.heap.size := (by have := hB.size; simp at this; omega)))
    go_ret2
    exact ⟨rfl, bt (bel (Below.refl _ w)) (by first | exact hB | exact bel hB | exact bdn (bel hB))⟩
  · exact absurd g9 (by decide)
set_option maxRecDepth 100000 in
set_option maxHeartbeats 1000000 in
theorem rj13 (m : Bool) (n : Nat) (q : Int) (X : Nat) (n' : Nat) (q' : Int) (g9 : ((n' : Int) != (n : Int)) = true) (w : World)  (l : ∀ w, Calls Try.prog 24 #[.agg #[.int .u8 1, .bool m, .int .u64 0, .int .i64 0]] w fun e w' => e = .returned (.int .u32 (X : Int)) ∧ Below w.heap.size w w')
    (sp : ∀ w, Calls Try.prog 8 #[.int .u32 (X : Int)] w fun e w' => e = .returned (.agg #[.int .u8 1, .bool m, .int .u32 (n' : Int), .int .i64 q']) ∧ Below w.heap.size w w') :
    Calls Try.prog 10 #[.agg #[.int .u8 1, .bool m, .int .u32 (n : Int), .int .i64 q]] w fun e w' => e = .returned (.tuple #[.int .u32 0, .int .i64 30]) ∧ Below w.heap.size w w' := by
  have hB := Below.refl (w.alloc (.cells #[.int .u8 1, .bool m, .int .u32 (n : Int), .int .i64 q] 25)).heap.size (w.alloc (.cells #[.int .u8 1, .bool m, .int .u32 (n : Int), .int .i64 q] 25))
  go_enter Try.func10, Try.ntmps10
  go_wp2_with (first
    | (go_at_call 24; refine (l _).mono ?_; rintro e wq ⟨rfl, hq⟩; have hB := bt (by first | exact hB | exact bdn hB | exact Below.drew hB | exact Below.drew (Below.drew hB)) hq; obtain ⟨c0, c1, c2, c3⟩ := pcl hB; have sz : w.heap.size < wq.heap.size := (by have := hB.size; simp at this; omega))
    | (go_at_call 8; refine (sp _).mono ?_; rintro e wq ⟨rfl, hq⟩; have hB := bt (by first | exact hB | exact bdn hB | exact Below.drew hB | exact Below.drew (Below.drew hB)) hq; obtain ⟨c0, c1, c2, c3⟩ := pcl hB; have sz : w.heap.size < wq.heap.size := (by have := hB.size; simp at this; omega)))
  go_ret2
  exact ⟨rfl, bt (bel (Below.refl _ w)) (by first | exact hB | exact bel hB | exact bdn (bel hB))⟩
set_option maxRecDepth 100000 in
set_option maxHeartbeats 1000000 in
theorem rj14 (m : Bool) (n : Nat) (q : Int) (X : Nat) (q' : Int) (g9 : (q' != q) = true) (w : World)  (l : ∀ w, Calls Try.prog 24 #[.agg #[.int .u8 1, .bool m, .int .u64 0, .int .i64 0]] w fun e w' => e = .returned (.int .u32 (X : Int)) ∧ Below w.heap.size w w')
    (sp : ∀ w, Calls Try.prog 8 #[.int .u32 (X : Int)] w fun e w' => e = .returned (.agg #[.int .u8 1, .bool m, .int .u32 (n : Int), .int .i64 q']) ∧ Below w.heap.size w w') :
    Calls Try.prog 10 #[.agg #[.int .u8 1, .bool m, .int .u32 (n : Int), .int .i64 q]] w fun e w' => e = .returned (.tuple #[.int .u32 0, .int .i64 30]) ∧ Below w.heap.size w w' := by
  have hB := Below.refl (w.alloc (.cells #[.int .u8 1, .bool m, .int .u32 (n : Int), .int .i64 q] 25)).heap.size (w.alloc (.cells #[.int .u8 1, .bool m, .int .u32 (n : Int), .int .i64 q] 25))
  go_enter Try.func10, Try.ntmps10
  go_wp2_with (first
    | (go_at_call 24; refine (l _).mono ?_; rintro e wq ⟨rfl, hq⟩; have hB := bt (by first | exact hB | exact bdn hB | exact Below.drew hB | exact Below.drew (Below.drew hB)) hq; obtain ⟨c0, c1, c2, c3⟩ := pcl hB; have sz : w.heap.size < wq.heap.size := (by have := hB.size; simp at this; omega))
    | (go_at_call 8; refine (sp _).mono ?_; rintro e wq ⟨rfl, hq⟩; have hB := bt (by first | exact hB | exact bdn hB | exact Below.drew hB | exact Below.drew (Below.drew hB)) hq; obtain ⟨c0, c1, c2, c3⟩ := pcl hB; have sz : w.heap.size < wq.heap.size := (by have := hB.size; simp at this; omega)))
  go_ret2
  exact ⟨rfl, bt (bel (Below.refl _ w)) (by first | exact hB | exact bel hB | exact bdn (bel hB))⟩
set_option maxRecDepth 100000 in
set_option maxHeartbeats 1000000 in
theorem rj20 (m : Bool) (n : Nat) (q : Int) (X : Nat) (w : World)  (l : ∀ w, Calls Try.prog 24 #[.agg #[.int .u8 2, .bool m, .int .u64 0, .int .i64 0]] w fun e w' => e = .returned (.int .u32 (X : Int)) ∧ Below w.heap.size w w')
    (sp : ∀ w, Calls Try.prog 8 #[.int .u32 (X : Int)] w fun e w' => e = .returned (.agg #[.int .u8 2, .bool m, .int .u32 (n : Int), .int .i64 q]) ∧ Below w.heap.size w w') :
    Calls Try.prog 10 #[.agg #[.int .u8 2, .bool m, .int .u32 (n : Int), .int .i64 q]] w fun e w' => e = .returned (.tuple #[.int .u32 (X : Int), .int .i64 0]) ∧ Below w.heap.size w w' := by
  have hB := Below.refl (w.alloc (.cells #[.int .u8 2, .bool m, .int .u32 (n : Int), .int .i64 q] 25)).heap.size (w.alloc (.cells #[.int .u8 2, .bool m, .int .u32 (n : Int), .int .i64 q] 25))
  go_enter Try.func10, Try.ntmps10
  go_wp2_with (first
    | (go_at_call 24; refine (l _).mono ?_; rintro e wq ⟨rfl, hq⟩; have hB := bt (by first | exact hB | exact bdn hB | exact Below.drew hB | exact Below.drew (Below.drew hB)) hq; obtain ⟨c0, c1, c2, c3⟩ := pcl hB; have sz : w.heap.size < wq.heap.size := (by have := hB.size; simp at this; omega))
    | (go_at_call 8; refine (sp _).mono ?_; rintro e wq ⟨rfl, hq⟩; have hB := bt (by first | exact hB | exact bdn hB | exact Below.drew hB | exact Below.drew (Below.drew hB)) hq; obtain ⟨c0, c1, c2, c3⟩ := pcl hB; have sz : w.heap.size < wq.heap.size := (by have := hB.size; simp at this; omega)))
  go_ret2
  exact ⟨rfl, bt (bel (Below.refl _ w)) (by first | exact hB | exact bel hB | exact bdn (bel hB))⟩
set_option maxRecDepth 100000 in
set_option maxHeartbeats 1000000 in
theorem rj23 (m : Bool) (n : Nat) (q : Int) (X : Nat) (n' : Nat) (q' : Int) (g9 : ((n' : Int) != (n : Int)) = true) (w : World)  (l : ∀ w, Calls Try.prog 24 #[.agg #[.int .u8 2, .bool m, .int .u64 0, .int .i64 0]] w fun e w' => e = .returned (.int .u32 (X : Int)) ∧ Below w.heap.size w w')
    (sp : ∀ w, Calls Try.prog 8 #[.int .u32 (X : Int)] w fun e w' => e = .returned (.agg #[.int .u8 2, .bool m, .int .u32 (n' : Int), .int .i64 q']) ∧ Below w.heap.size w w') :
    Calls Try.prog 10 #[.agg #[.int .u8 2, .bool m, .int .u32 (n : Int), .int .i64 q]] w fun e w' => e = .returned (.tuple #[.int .u32 0, .int .i64 30]) ∧ Below w.heap.size w w' := by
  have hB := Below.refl (w.alloc (.cells #[.int .u8 2, .bool m, .int .u32 (n : Int), .int .i64 q] 25)).heap.size (w.alloc (.cells #[.int .u8 2, .bool m, .int .u32 (n : Int), .int .i64 q] 25))
  go_enter Try.func10, Try.ntmps10
  go_wp2_with (first
    | (go_at_call 24; refine (l _).mono ?_; rintro e wq ⟨rfl, hq⟩; have hB := bt (by first | exact hB | exact bdn hB | exact Below.drew hB | exact Below.drew (Below.drew hB)) hq; obtain ⟨c0, c1, c2, c3⟩ := pcl hB; have sz : w.heap.size < wq.heap.size := (by have := hB.size; simp at this; omega))
    | (go_at_call 8; refine (sp _).mono ?_; rintro e wq ⟨rfl, hq⟩; have hB := bt (by first | exact hB | exact bdn hB | exact Below.drew hB | exact Below.drew (Below.drew hB)) hq; obtain ⟨c0, c1, c2, c3⟩ := pcl hB; have sz : w.heap.size < wq.heap.size := (by have := hB.size; simp at this; omega)))
  go_ret2
  exact ⟨rfl, bt (bel (Below.refl _ w)) (by first | exact hB | exact bel hB | exact bdn (bel hB))⟩
set_option maxRecDepth 100000 in
set_option maxHeartbeats 1000000 in
theorem rj24 (m : Bool) (n : Nat) (q : Int) (X : Nat) (q' : Int) (g9 : (q' != q) = true) (w : World)  (l : ∀ w, Calls Try.prog 24 #[.agg #[.int .u8 2, .bool m, .int .u64 0, .int .i64 0]] w fun e w' => e = .returned (.int .u32 (X : Int)) ∧ Below w.heap.size w w')
    (sp : ∀ w, Calls Try.prog 8 #[.int .u32 (X : Int)] w fun e w' => e = .returned (.agg #[.int .u8 2, .bool m, .int .u32 (n : Int), .int .i64 q']) ∧ Below w.heap.size w w') :
    Calls Try.prog 10 #[.agg #[.int .u8 2, .bool m, .int .u32 (n : Int), .int .i64 q]] w fun e w' => e = .returned (.tuple #[.int .u32 0, .int .i64 30]) ∧ Below w.heap.size w w' := by
  have hB := Below.refl (w.alloc (.cells #[.int .u8 2, .bool m, .int .u32 (n : Int), .int .i64 q] 25)).heap.size (w.alloc (.cells #[.int .u8 2, .bool m, .int .u32 (n : Int), .int .i64 q] 25))
  go_enter Try.func10, Try.ntmps10
  go_wp2_with (first
    | (go_at_call 24; refine (l _).mono ?_; rintro e wq ⟨rfl, hq⟩; have hB := bt (by first | exact hB | exact bdn hB | exact Below.drew hB | exact Below.drew (Below.drew hB)) hq; obtain ⟨c0, c1, c2, c3⟩ := pcl hB; have sz : w.heap.size < wq.heap.size := (by have := hB.size; simp at this; omega))
    | (go_at_call 8; refine (sp _).mono ?_; rintro e wq ⟨rfl, hq⟩; have hB := bt (by first | exact hB | exact bdn hB | exact Below.drew hB | exact Below.drew (Below.drew hB)) hq; obtain ⟨c0, c1, c2, c3⟩ := pcl hB; have sz : w.heap.size < wq.heap.size := (by have := hB.size; simp at this; omega)))
  go_ret2
  exact ⟨rfl, bt (bel (Below.refl _ w)) (by first | exact hB | exact bel hB | exact bdn (bel hB))⟩
set_option maxRecDepth 100000 in
set_option maxHeartbeats 1000000 in
theorem rj30 (m : Bool) (n : Nat) (q : Int) (X : Nat) (w : World) (hw : IntKind.u64.wrap (n : Int) = (n : Int)) (g1 : decide ((16777216 : Int) ≤ (n : Int)) = false) (g2 : decide (q < -149) = false) (g3 : decide (104 < q) = false) (l : ∀ w, Calls Try.prog 24 #[.agg #[.int .u8 3, .bool m, .int .u64 (n : Int), .int .i64 q]] w fun e w' => e = .returned (.int .u32 (X : Int)) ∧ Below w.heap.size w w')
    (sp : ∀ w, Calls Try.prog 8 #[.int .u32 (X : Int)] w fun e w' => e = .returned (.agg #[.int .u8 3, .bool m, .int .u32 (n : Int), .int .i64 q]) ∧ Below w.heap.size w w') :
    Calls Try.prog 10 #[.agg #[.int .u8 3, .bool m, .int .u32 (n : Int), .int .i64 q]] w fun e w' => e = .returned (.tuple #[.int .u32 (X : Int), .int .i64 0]) ∧ Below w.heap.size w w' := by
  have hB := Below.refl (w.alloc (.cells #[.int .u8 3, .bool m, .int .u32 (n : Int), .int .i64 q] 25)).heap.size (w.alloc (.cells #[.int .u8 3, .bool m, .int .u32 (n : Int), .int .i64 q] 25))
  go_enter Try.func10, Try.ntmps10
  go_wp2_with (first
    | (go_at_call 24; refine (l _).mono ?_; rintro e wq ⟨rfl, hq⟩; have hB := bt (by first | exact hB | exact bdn hB | exact Below.drew hB | exact Below.drew (Below.drew hB)) hq; obtain ⟨c0, c1, c2, c3⟩ := pcl hB; have sz : w.heap.size < wq.heap.size := (by have := hB.size; simp at this; omega))
    | (go_at_call 8; refine (sp _).mono ?_; rintro e wq ⟨rfl, hq⟩; have hB := bt (by first | exact hB | exact bdn hB | exact Below.drew hB | exact Below.drew (Below.drew hB)) hq; obtain ⟨c0, c1, c2, c3⟩ := pcl hB; have sz : w.heap.size < wq.heap.size := (by have := hB.size; simp at this; omega)))
  go_ret2
  exact ⟨rfl, bt (bel (Below.refl _ w)) (by first | exact hB | exact bel hB | exact bdn (bel hB))⟩
set_option maxRecDepth 100000 in
set_option maxHeartbeats 1000000 in
theorem rj34 (m : Bool) (n : Nat) (q : Int) (X : Nat) (q' : Int) (g9 : (q' != q) = true) (w : World) (hw : IntKind.u64.wrap (n : Int) = (n : Int)) (g1 : decide ((16777216 : Int) ≤ (n : Int)) = false) (g2 : decide (q < -149) = false) (g3 : decide (104 < q) = false) (l : ∀ w, Calls Try.prog 24 #[.agg #[.int .u8 3, .bool m, .int .u64 (n : Int), .int .i64 q]] w fun e w' => e = .returned (.int .u32 (X : Int)) ∧ Below w.heap.size w w')
    (sp : ∀ w, Calls Try.prog 8 #[.int .u32 (X : Int)] w fun e w' => e = .returned (.agg #[.int .u8 3, .bool m, .int .u32 (n : Int), .int .i64 q']) ∧ Below w.heap.size w w') :
    Calls Try.prog 10 #[.agg #[.int .u8 3, .bool m, .int .u32 (n : Int), .int .i64 q]] w fun e w' => e = .returned (.tuple #[.int .u32 0, .int .i64 30]) ∧ Below w.heap.size w w' := by
  have hB := Below.refl (w.alloc (.cells #[.int .u8 3, .bool m, .int .u32 (n : Int), .int .i64 q] 25)).heap.size (w.alloc (.cells #[.int .u8 3, .bool m, .int .u32 (n : Int), .int .i64 q] 25))
  go_enter Try.func10, Try.ntmps10
  go_wp2_with (first
    | (go_at_call 24; refine (l _).mono ?_; rintro e wq ⟨rfl, hq⟩; have hB := bt (by first | exact hB | exact bdn hB | exact Below.drew hB | exact Below.drew (Below.drew hB)) hq; obtain ⟨c0, c1, c2, c3⟩ := pcl hB; have sz : w.heap.size < wq.heap.size := (by have := hB.size; simp at this; omega))
    | (go_at_call 8; refine (sp _).mono ?_; rintro e wq ⟨rfl, hq⟩; have hB := bt (by first | exact hB | exact bdn hB | exact Below.drew hB | exact Below.drew (Below.drew hB)) hq; obtain ⟨c0, c1, c2, c3⟩ := pcl hB; have sz : w.heap.size < wq.heap.size := (by have := hB.size; simp at this; omega)))
  go_ret2
  exact ⟨rfl, bt (bel (Below.refl _ w)) (by first | exact hB | exact bel hB | exact bdn (bel hB))⟩
set_option maxRecDepth 100000 in
theorem rjo (s : Int) (m : Bool) (n : Nat) (q : Int) (w : World) (g1 : (s == 1) = false) (g2 : (s == 2) = false) (g3 : (s == 3) = false) :
    Calls Try.prog 10 #[.agg #[.int .u8 s, .bool m, .int .u32 (n : Int), .int .i64 q]] w fun e w' => e = .returned (.tuple #[.int .u32 0, .int .i64 30]) ∧ Below w.heap.size w w' := by
  go_enter Try.func10, Try.ntmps10
  go_wp2
  go_ret2
  exact ⟨rfl, by repeat (first | exact Below.refl _ _ | refine bel ?_ | refine Below.drew ?_)⟩
set_option maxRecDepth 100000 in
theorem rj3a (m : Bool) (n : Nat) (q : Int) (w : World) (g1 : decide ((16777216 : Int) ≤ (n : Int)) = true) :
    Calls Try.prog 10 #[.agg #[.int .u8 3, .bool m, .int .u32 (n : Int), .int .i64 q]] w fun e w' => e = .returned (.tuple #[.int .u32 0, .int .i64 30]) ∧ Below w.heap.size w w' := by
  go_enter Try.func10, Try.ntmps10
  go_wp2
  go_ret2
  exact ⟨rfl, by repeat (first | exact Below.refl _ _ | refine bel ?_ | refine Below.drew ?_)⟩
set_option maxRecDepth 100000 in
theorem rj3b (m : Bool) (n : Nat) (q : Int) (w : World) (g1 : decide ((16777216 : Int) ≤ (n : Int)) = false) (g2 : decide (q < -149) = true) :
    Calls Try.prog 10 #[.agg #[.int .u8 3, .bool m, .int .u32 (n : Int), .int .i64 q]] w fun e w' => e = .returned (.tuple #[.int .u32 0, .int .i64 30]) ∧ Below w.heap.size w w' := by
  go_enter Try.func10, Try.ntmps10
  go_wp2
  go_ret2
  exact ⟨rfl, by repeat (first | exact Below.refl _ _ | refine bel ?_ | refine Below.drew ?_)⟩
set_option maxRecDepth 100000 in
theorem rj3c (m : Bool) (n : Nat) (q : Int) (w : World) (g1 : decide ((16777216 : Int) ≤ (n : Int)) = false) (g2 : decide (q < -149) = false) (g3 : decide (104 < q) = true) :
    Calls Try.prog 10 #[.agg #[.int .u8 3, .bool m, .int .u32 (n : Int), .int .i64 q]] w fun e w' => e = .returned (.tuple #[.int .u32 0, .int .i64 30]) ∧ Below w.heap.size w w' := by
  go_enter Try.func10, Try.ntmps10
  go_wp2
  go_ret2
  exact ⟨rfl, by repeat (first | exact Below.refl _ _ | refine bel ?_ | refine Below.drew ?_)⟩
end Go.Proofs.Ytiohmcfabjmcoaa
