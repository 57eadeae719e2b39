import Derived.Test.YtagflmjiajjkcaaDoorEWm
namespace Go.Proofs.YtagflmjiajjkcaaDoor
open Go.RowKit Go.WideShapes
set_option maxRecDepth 100000

/-- a step that is handed in -/
structure Stp where
  d : Nat
  a : Nat
  b : Nat
  at_ : Nat
  v : Nat
  n : Int
  on : Bool
  da : Option Addr
  dc : Nat
  dz : List Int
structure StpOk (s : Stp) : Prop where
  d : s.d ≤ 255
  at_ : s.at_ < 4294967296
  v : s.v < 4294967296
  n0 : -9223372036854775808 ≤ s.n
  n1 : s.n ≤ 9223372036854775807
  dc : s.dz.length ≤ s.dc
  wf : ∀ z ∈ s.dz, 0 ≤ z ∧ z ≤ 255
theorem good_bd {F : Nat → Prop} {a : Nat} {lg : Bool} {bs : List Int} {ts : List (Int × Bool)} {w : World} (h : SegF F lg w a bs ts) : 0 < bs.length := by have := h.len.bd; omega
/-- what a call that is tried leaves behind -/
def Tried (F : Nat → Prop) (w : World) (a : Nat) (bs : List Int) (w' : World) : Prop := ∃ bs' ts, SegF F true w' a bs' ts ∧ Good bs bs' ts ∧ Kp F w w'
set_option maxHeartbeats 1000000 in
theorem tried0 (F : Nat → Prop) (a : Nat) (bs : List Int) (s : Stp) (w : World) (hs : StpOk s) (h9 : s.d % 9 = 0) (hT : SegF F true w a bs []) (hB : ∀ k, w.heap.size ≤ k → F k) (hr : Reads w s.da s.dz w.heap.size) (_hR : ∀ b off, 0 < s.dz.length → s.da = some ⟨b, off, none⟩ → ¬ F b) :
    Calls Tryd.prog 27 #[.pointer (some ⟨a, 0, none⟩), .agg #[.int .u8 s.d, .int .u8 s.a, .int .u8 s.b, .int .u32 s.at_, .int .u32 s.v, .int .i64 s.n, .bool s.on, .slice s.da s.dz.length s.dc]] w fun e w' => e = .returned (.tuple #[]) ∧ Hid (Tried F w a bs w') := by
  have hA0 : Below w.heap.size w (w.alloc (.cells #[.int .u8 s.d, .int .u8 s.a, .int .u8 s.b, .int .u32 s.at_, .int .u32 s.v, .int .i64 s.n, .bool s.on, .slice s.da s.dz.length s.dc] 54)) := (Below.refl _ _).alloc (Nat.le_refl _) _
  generalize hW0 : w.alloc (.cells #[.int .u8 s.d, .int .u8 s.a, .int .u8 s.b, .int .u32 s.at_, .int .u32 s.v, .int .i64 s.n, .bool s.on, .slice s.da s.dz.length s.dc] 54) = W0 at *
  have hobj : W0.heap[w.heap.size]? = some (.cells #[.int .u8 s.d, .int .u8 s.a, .int .u8 s.b, .int .u32 s.at_, .int .u32 s.v, .int .i64 s.n, .bool s.on, .slice s.da s.dz.length s.dc] 54) := by rw [← hW0]; exact heap_alloc_new w _
  have hB1 : ∀ k, W0.heap.size ≤ k → F k := fun k hk => hB k (Nat.le_trans hA0.size hk)
  have hT1 := SegF.below hA0 hT
  have hK1 : Kp F w W0 := Kp.ofBelow hA0
  have hN := good_bd hT
  have hr1 : Reads W0 s.da s.dz W0.heap.size := (hr.below hA0).mono hA0.size
  have c0 : W0.cell? ⟨w.heap.size, 0, none⟩ = some (.int .u8 s.d) := (obj_cell hobj 0).trans rfl
  have c3 : W0.cell? ⟨w.heap.size, 3, none⟩ = some (.int .u32 s.at_) := (obj_cell hobj 3).trans rfl
  have c4 : W0.cell? ⟨w.heap.size, 4, none⟩ = some (.int .u32 s.v) := (obj_cell hobj 4).trans rfl
  have c5 : W0.cell? ⟨w.heap.size, 5, none⟩ = some (.int .i64 s.n) := (obj_cell hobj 5).trans rfl
  have c7 : W0.cell? ⟨w.heap.size, 7, none⟩ = some (.slice s.da s.dz.length s.dc) := (obj_cell hobj 7).trans rfl
  have e9 : (s.d : Int) % 9 = 0 := by omega
  have e9t : (s.d : Int).tmod 9 = 0 := by rw [Int.tmod_eq_emod_of_nonneg (by omega)]; omega
  have hc : Calls Tryd.prog 11 #[.pointer (some ⟨a, 0, none⟩), .int .u32 s.at_] W0 fun e w' => ∃ x, e = .returned (.int .u32 x) ∧ Hid (Tried F w a bs w') := (load4_lf F a s.at_ true bs [] W0 hT1 hB1 hs.at_).mono fun e w' ⟨he, q1, q2⟩ => ⟨_, he, _, _, q1, good_read bs _ _ (by decide) hN, hK1.trans q2 (fun _ _ h => h)⟩
  clear hobj hT hB hr hT1 hr1 hA0 _hR hs
  go_enter Tryd.func27, Tryd.ntmps27
  go_wp2_with (first
    | (go_at_call 11; with_reducible refine hc.mono ?_; rintro e w1 ⟨x, rfl, HQ⟩)
    | fail)
  go_end0
  exact ⟨rfl, HQ⟩
set_option maxHeartbeats 1000000 in
theorem tried1 (F : Nat → Prop) (a : Nat) (bs : List Int) (s : Stp) (w : World) (hs : StpOk s) (h9 : s.d % 9 = 1) (hT : SegF F true w a bs []) (hB : ∀ k, w.heap.size ≤ k → F k) (hr : Reads w s.da s.dz w.heap.size) (_hR : ∀ b off, 0 < s.dz.length → s.da = some ⟨b, off, none⟩ → ¬ F b) :
    Calls Tryd.prog 27 #[.pointer (some ⟨a, 0, none⟩), .agg #[.int .u8 s.d, .int .u8 s.a, .int .u8 s.b, .int .u32 s.at_, .int .u32 s.v, .int .i64 s.n, .bool s.on, .slice s.da s.dz.length s.dc]] w fun e w' => e = .returned (.tuple #[]) ∧ Hid (Tried F w a bs w') := by
  have hA0 : Below w.heap.size w (w.alloc (.cells #[.int .u8 s.d, .int .u8 s.a, .int .u8 s.b, .int .u32 s.at_, .int .u32 s.v, .int .i64 s.n, .bool s.on, .slice s.da s.dz.length s.dc] 54)) := (Below.refl _ _).alloc (Nat.le_refl _) _
  generalize hW0 : w.alloc (.cells #[.int .u8 s.d, .int .u8 s.a, .int .u8 s.b, .int .u32 s.at_, .int .u32 s.v, .int .i64 s.n, .bool s.on, .slice s.da s.dz.length s.dc] 54) = W0 at *
  have hobj : W0.heap[w.heap.size]? = some (.cells #[.int .u8 s.d, .int .u8 s.a, .int .u8 s.b, .int .u32 s.at_, .int .u32 s.v, .int .i64 s.n, .bool s.on, .slice s.da s.dz.length s.dc] 54) := by rw [← hW0]; exact heap_alloc_new w _
  have hB1 : ∀ k, W0.heap.size ≤ k → F k := fun k hk => hB k (Nat.le_trans hA0.size hk)
  have hT1 := SegF.below hA0 hT
  have hK1 : Kp F w W0 := Kp.ofBelow hA0
  have hN := good_bd hT
  have hr1 : Reads W0 s.da s.dz W0.heap.size := (hr.below hA0).mono hA0.size
  have c0 : W0.cell? ⟨w.heap.size, 0, none⟩ = some (.int .u8 s.d) := (obj_cell hobj 0).trans rfl
  have c3 : W0.cell? ⟨w.heap.size, 3, none⟩ = some (.int .u32 s.at_) := (obj_cell hobj 3).trans rfl
  have c4 : W0.cell? ⟨w.heap.size, 4, none⟩ = some (.int .u32 s.v) := (obj_cell hobj 4).trans rfl
  have c5 : W0.cell? ⟨w.heap.size, 5, none⟩ = some (.int .i64 s.n) := (obj_cell hobj 5).trans rfl
  have c7 : W0.cell? ⟨w.heap.size, 7, none⟩ = some (.slice s.da s.dz.length s.dc) := (obj_cell hobj 7).trans rfl
  have e9 : (s.d : Int) % 9 = 1 := by omega
  have e9t : (s.d : Int).tmod 9 = 1 := by rw [Int.tmod_eq_emod_of_nonneg (by omega)]; omega
  have hc : Calls Tryd.prog 13 #[.pointer (some ⟨a, 0, none⟩), .int .u32 s.at_] W0 fun e w' => ∃ x, e = .returned (.int .u32 x) ∧ Hid (Tried F w a bs w') := (load2_lf F a s.at_ true bs [] W0 hT1 hB1 hs.at_).mono fun e w' ⟨he, q1, q2⟩ => ⟨_, he, _, _, q1, good_read bs _ _ (by decide) hN, hK1.trans q2 (fun _ _ h => h)⟩
  clear hobj hT hB hr hT1 hr1 hA0 _hR hs
  go_enter Tryd.func27, Tryd.ntmps27
  go_wp2_with (first
    | (go_at_call 13; with_reducible refine hc.mono ?_; rintro e w1 ⟨x, rfl, HQ⟩)
    | fail)
  go_end0
  exact ⟨rfl, HQ⟩
set_option maxHeartbeats 1000000 in
theorem tried2 (F : Nat → Prop) (a : Nat) (bs : List Int) (s : Stp) (w : World) (hs : StpOk s) (h9 : s.d % 9 = 2) (hT : SegF F true w a bs []) (hB : ∀ k, w.heap.size ≤ k → F k) (hr : Reads w s.da s.dz w.heap.size) (_hR : ∀ b off, 0 < s.dz.length → s.da = some ⟨b, off, none⟩ → ¬ F b) :
    Calls Tryd.prog 27 #[.pointer (some ⟨a, 0, none⟩), .agg #[.int .u8 s.d, .int .u8 s.a, .int .u8 s.b, .int .u32 s.at_, .int .u32 s.v, .int .i64 s.n, .bool s.on, .slice s.da s.dz.length s.dc]] w fun e w' => e = .returned (.tuple #[]) ∧ Hid (Tried F w a bs w') := by
  have hA0 : Below w.heap.size w (w.alloc (.cells #[.int .u8 s.d, .int .u8 s.a, .int .u8 s.b, .int .u32 s.at_, .int .u32 s.v, .int .i64 s.n, .bool s.on, .slice s.da s.dz.length s.dc] 54)) := (Below.refl _ _).alloc (Nat.le_refl _) _
  generalize hW0 : w.alloc (.cells #[.int .u8 s.d, .int .u8 s.a, .int .u8 s.b, .int .u32 s.at_, .int .u32 s.v, .int .i64 s.n, .bool s.on, .slice s.da s.dz.length s.dc] 54) = W0 at *
  have hobj : W0.heap[w.heap.size]? = some (.cells #[.int .u8 s.d, .int .u8 s.a, .int .u8 s.b, .int .u32 s.at_, .int .u32 s.v, .int .i64 s.n, .bool s.on, .slice s.da s.dz.length s.dc] 54) := by rw [← hW0]; exact heap_alloc_new w _
  have hB1 : ∀ k, W0.heap.size ≤ k → F k := fun k hk => hB k (Nat.le_trans hA0.size hk)
  have hT1 := SegF.below hA0 hT
  have hK1 : Kp F w W0 := Kp.ofBelow hA0
  have hN := good_bd hT
  have hr1 : Reads W0 s.da s.dz W0.heap.size := (hr.below hA0).mono hA0.size
  have c0 : W0.cell? ⟨w.heap.size, 0, none⟩ = some (.int .u8 s.d) := (obj_cell hobj 0).trans rfl
  have c3 : W0.cell? ⟨w.heap.size, 3, none⟩ = some (.int .u32 s.at_) := (obj_cell hobj 3).trans rfl
  have c4 : W0.cell? ⟨w.heap.size, 4, none⟩ = some (.int .u32 s.v) := (obj_cell hobj 4).trans rfl
  have c5 : W0.cell? ⟨w.heap.size, 5, none⟩ = some (.int .i64 s.n) := (obj_cell hobj 5).trans rfl
  have c7 : W0.cell? ⟨w.heap.size, 7, none⟩ = some (.slice s.da s.dz.length s.dc) := (obj_cell hobj 7).trans rfl
  have e9 : (s.d : Int) % 9 = 2 := by omega
  have e9t : (s.d : Int).tmod 9 = 2 := by rw [Int.tmod_eq_emod_of_nonneg (by omega)]; omega
  have hc : Calls Tryd.prog 14 #[.pointer (some ⟨a, 0, none⟩), .int .u32 s.at_, .int .u32 s.v] W0 fun e w' => e = .returned (.tuple #[]) ∧ Hid (Tried F w a bs w') := (store1_lf F a s.at_ s.v true bs [] W0 hT1 hB1 hs.at_ ⟨by omega, by have := hs.v; omega⟩).mono fun e w' ⟨he, q1, q2⟩ => ⟨he, _, _, q1, good_write bs ((by4 s.v).take 1) s.at_ (Nat.le_trans (List.length_take_le _ _) (by decide)) hN, hK1.trans q2 (fun _ _ h => h)⟩
  clear hobj hT hB hr hT1 hr1 hA0 _hR hs
  go_enter Tryd.func27, Tryd.ntmps27
  go_wp2_with (first
    | (go_at_call 14; with_reducible refine hc.mono ?_; rintro e w1 ⟨rfl, HQ⟩)
    | fail)
  go_end0
  exact ⟨rfl, HQ⟩
set_option maxHeartbeats 1000000 in
theorem tried3 (F : Nat → Prop) (a : Nat) (bs : List Int) (s : Stp) (w : World) (hs : StpOk s) (h9 : s.d % 9 = 3) (hT : SegF F true w a bs []) (hB : ∀ k, w.heap.size ≤ k → F k) (hr : Reads w s.da s.dz w.heap.size) (_hR : ∀ b off, 0 < s.dz.length → s.da = some ⟨b, off, none⟩ → ¬ F b) :
    Calls Tryd.prog 27 #[.pointer (some ⟨a, 0, none⟩), .agg #[.int .u8 s.d, .int .u8 s.a, .int .u8 s.b, .int .u32 s.at_, .int .u32 s.v, .int .i64 s.n, .bool s.on, .slice s.da s.dz.length s.dc]] w fun e w' => e = .returned (.tuple #[]) ∧ Hid (Tried F w a bs w') := by
  have hA0 : Below w.heap.size w (w.alloc (.cells #[.int .u8 s.d, .int .u8 s.a, .int .u8 s.b, .int .u32 s.at_, .int .u32 s.v, .int .i64 s.n, .bool s.on, .slice s.da s.dz.length s.dc] 54)) := (Below.refl _ _).alloc (Nat.le_refl _) _
  generalize hW0 : w.alloc (.cells #[.int .u8 s.d, .int .u8 s.a, .int .u8 s.b, .int .u32 s.at_, .int .u32 s.v, .int .i64 s.n, .bool s.on, .slice s.da s.dz.length s.dc] 54) = W0 at *
  have hobj : W0.heap[w.heap.size]? = some (.cells #[.int .u8 s.d, .int .u8 s.a, .int .u8 s.b, .int .u32 s.at_, .int .u32 s.v, .int .i64 s.n, .bool s.on, .slice s.da s.dz.length s.dc] 54) := by rw [← hW0]; exact heap_alloc_new w _
  have hB1 : ∀ k, W0.heap.size ≤ k → F k := fun k hk => hB k (Nat.le_trans hA0.size hk)
  have hT1 := SegF.below hA0 hT
  have hK1 : Kp F w W0 := Kp.ofBelow hA0
  have hN := good_bd hT
  have hr1 : Reads W0 s.da s.dz W0.heap.size := (hr.below hA0).mono hA0.size
  have c0 : W0.cell? ⟨w.heap.size, 0, none⟩ = some (.int .u8 s.d) := (obj_cell hobj 0).trans rfl
  have c3 : W0.cell? ⟨w.heap.size, 3, none⟩ = some (.int .u32 s.at_) := (obj_cell hobj 3).trans rfl
  have c4 : W0.cell? ⟨w.heap.size, 4, none⟩ = some (.int .u32 s.v) := (obj_cell hobj 4).trans rfl
  have c5 : W0.cell? ⟨w.heap.size, 5, none⟩ = some (.int .i64 s.n) := (obj_cell hobj 5).trans rfl
  have c7 : W0.cell? ⟨w.heap.size, 7, none⟩ = some (.slice s.da s.dz.length s.dc) := (obj_cell hobj 7).trans rfl
  have e9 : (s.d : Int) % 9 = 3 := by omega
  have e9t : (s.d : Int).tmod 9 = 3 := by rw [Int.tmod_eq_emod_of_nonneg (by omega)]; omega
  have hc : Calls Tryd.prog 24 #[.pointer (some ⟨a, 0, none⟩), .int .u32 s.at_, .int .u32 s.v] W0 fun e w' => e = .returned (.tuple #[]) ∧ Hid (Tried F w a bs w') := (store2_lf F a s.at_ s.v true bs [] W0 hT1 hB1 hs.at_ ⟨by omega, by have := hs.v; omega⟩).mono fun e w' ⟨he, q1, q2⟩ => ⟨he, _, _, q1, good_write bs ((by4 s.v).take 2) s.at_ (Nat.le_trans (List.length_take_le _ _) (by decide)) hN, hK1.trans q2 (fun _ _ h => h)⟩
  clear hobj hT hB hr hT1 hr1 hA0 _hR hs
  go_enter Tryd.func27, Tryd.ntmps27
  go_wp2_with (first
    | (go_at_call 24; with_reducible refine hc.mono ?_; rintro e w1 ⟨rfl, HQ⟩)
    | fail)
  go_end0
  exact ⟨rfl, HQ⟩
set_option maxHeartbeats 1000000 in
theorem tried4 (F : Nat → Prop) (a : Nat) (bs : List Int) (s : Stp) (w : World) (hs : StpOk s) (h9 : s.d % 9 = 4) (hT : SegF F true w a bs []) (hB : ∀ k, w.heap.size ≤ k → F k) (hr : Reads w s.da s.dz w.heap.size) (_hR : ∀ b off, 0 < s.dz.length → s.da = some ⟨b, off, none⟩ → ¬ F b) :
    Calls Tryd.prog 27 #[.pointer (some ⟨a, 0, none⟩), .agg #[.int .u8 s.d, .int .u8 s.a, .int .u8 s.b, .int .u32 s.at_, .int .u32 s.v, .int .i64 s.n, .bool s.on, .slice s.da s.dz.length s.dc]] w fun e w' => e = .returned (.tuple #[]) ∧ Hid (Tried F w a bs w') := by
  have hA0 : Below w.heap.size w (w.alloc (.cells #[.int .u8 s.d, .int .u8 s.a, .int .u8 s.b, .int .u32 s.at_, .int .u32 s.v, .int .i64 s.n, .bool s.on, .slice s.da s.dz.length s.dc] 54)) := (Below.refl _ _).alloc (Nat.le_refl _) _
  generalize hW0 : w.alloc (.cells #[.int .u8 s.d, .int .u8 s.a, .int .u8 s.b, .int .u32 s.at_, .int .u32 s.v, .int .i64 s.n, .bool s.on, .slice s.da s.dz.length s.dc] 54) = W0 at *
  have hobj : W0.heap[w.heap.size]? = some (.cells #[.int .u8 s.d, .int .u8 s.a, .int .u8 s.b, .int .u32 s.at_, .int .u32 s.v, .int .i64 s.n, .bool s.on, .slice s.da s.dz.length s.dc] 54) := by rw [← hW0]; exact heap_alloc_new w _
  have hB1 : ∀ k, W0.heap.size ≤ k → F k := fun k hk => hB k (Nat.le_trans hA0.size hk)
  have hT1 := SegF.below hA0 hT
  have hK1 : Kp F w W0 := Kp.ofBelow hA0
  have hN := good_bd hT
  have hr1 : Reads W0 s.da s.dz W0.heap.size := (hr.below hA0).mono hA0.size
  have c0 : W0.cell? ⟨w.heap.size, 0, none⟩ = some (.int .u8 s.d) := (obj_cell hobj 0).trans rfl
  have c3 : W0.cell? ⟨w.heap.size, 3, none⟩ = some (.int .u32 s.at_) := (obj_cell hobj 3).trans rfl
  have c4 : W0.cell? ⟨w.heap.size, 4, none⟩ = some (.int .u32 s.v) := (obj_cell hobj 4).trans rfl
  have c5 : W0.cell? ⟨w.heap.size, 5, none⟩ = some (.int .i64 s.n) := (obj_cell hobj 5).trans rfl
  have c7 : W0.cell? ⟨w.heap.size, 7, none⟩ = some (.slice s.da s.dz.length s.dc) := (obj_cell hobj 7).trans rfl
  have e9 : (s.d : Int) % 9 = 4 := by omega
  have e9t : (s.d : Int).tmod 9 = 4 := by rw [Int.tmod_eq_emod_of_nonneg (by omega)]; omega
  have hc : Calls Tryd.prog 22 #[.pointer (some ⟨a, 0, none⟩), .int .u32 s.at_, .int .u32 s.v] W0 fun e w' => e = .returned (.tuple #[]) ∧ Hid (Tried F w a bs w') := (store4_lf F a s.at_ s.v true bs [] W0 hT1 hB1 hs.at_ ⟨by omega, by have := hs.v; omega⟩).mono fun e w' ⟨he, q1, q2⟩ => ⟨he, _, _, q1, good_write bs ((by4 s.v).take 4) s.at_ (Nat.le_trans (List.length_take_le _ _) (by decide)) hN, hK1.trans q2 (fun _ _ h => h)⟩
  clear hobj hT hB hr hT1 hr1 hA0 _hR hs
  go_enter Tryd.func27, Tryd.ntmps27
  go_wp2_with (first
    | (go_at_call 22; with_reducible refine hc.mono ?_; rintro e w1 ⟨rfl, HQ⟩)
    | fail)
  go_end0
  exact ⟨rfl, HQ⟩
set_option maxHeartbeats 1000000 in
theorem tried5 (F : Nat → Prop) (a : Nat) (bs : List Int) (s : Stp) (w : World) (hs : StpOk s) (h9 : s.d % 9 = 5) (hT : SegF F true w a bs []) (hB : ∀ k, w.heap.size ≤ k → F k) (hr : Reads w s.da s.dz w.heap.size) (_hR : ∀ b off, 0 < s.dz.length → s.da = some ⟨b, off, none⟩ → ¬ F b) :
    Calls Tryd.prog 27 #[.pointer (some ⟨a, 0, none⟩), .agg #[.int .u8 s.d, .int .u8 s.a, .int .u8 s.b, .int .u32 s.at_, .int .u32 s.v, .int .i64 s.n, .bool s.on, .slice s.da s.dz.length s.dc]] w fun e w' => e = .returned (.tuple #[]) ∧ Hid (Tried F w a bs w') := by
  have hA0 : Below w.heap.size w (w.alloc (.cells #[.int .u8 s.d, .int .u8 s.a, .int .u8 s.b, .int .u32 s.at_, .int .u32 s.v, .int .i64 s.n, .bool s.on, .slice s.da s.dz.length s.dc] 54)) := (Below.refl _ _).alloc (Nat.le_refl _) _
  generalize hW0 : w.alloc (.cells #[.int .u8 s.d, .int .u8 s.a, .int .u8 s.b, .int .u32 s.at_, .int .u32 s.v, .int .i64 s.n, .bool s.on, .slice s.da s.dz.length s.dc] 54) = W0 at *
  have hobj : W0.heap[w.heap.size]? = some (.cells #[.int .u8 s.d, .int .u8 s.a, .int .u8 s.b, .int .u32 s.at_, .int .u32 s.v, .int .i64 s.n, .bool s.on, .slice s.da s.dz.length s.dc] 54) := by rw [← hW0]; exact heap_alloc_new w _
  have hB1 : ∀ k, W0.heap.size ≤ k → F k := fun k hk => hB k (Nat.le_trans hA0.size hk)
  have hT1 := SegF.below hA0 hT
  have hK1 : Kp F w W0 := Kp.ofBelow hA0
  have hN := good_bd hT
  have hr1 : Reads W0 s.da s.dz W0.heap.size := (hr.below hA0).mono hA0.size
  have c0 : W0.cell? ⟨w.heap.size, 0, none⟩ = some (.int .u8 s.d) := (obj_cell hobj 0).trans rfl
  have c3 : W0.cell? ⟨w.heap.size, 3, none⟩ = some (.int .u32 s.at_) := (obj_cell hobj 3).trans rfl
  have c4 : W0.cell? ⟨w.heap.size, 4, none⟩ = some (.int .u32 s.v) := (obj_cell hobj 4).trans rfl
  have c5 : W0.cell? ⟨w.heap.size, 5, none⟩ = some (.int .i64 s.n) := (obj_cell hobj 5).trans rfl
  have c7 : W0.cell? ⟨w.heap.size, 7, none⟩ = some (.slice s.da s.dz.length s.dc) := (obj_cell hobj 7).trans rfl
  have e9 : (s.d : Int) % 9 = 5 := by omega
  have e9t : (s.d : Int).tmod 9 = 5 := by rw [Int.tmod_eq_emod_of_nonneg (by omega)]; omega
  have hc : Calls Tryd.prog 10 #[.pointer (some ⟨a, 0, none⟩), .int .u32 s.at_, .int .u32 s.v, .int .u32 (s.n % 4294967296)] W0 fun e w' => ∃ x, e = .returned (.int .i64 x) ∧ Hid (Tried F w a bs w') := by
    obtain ⟨m, hm⟩ : ∃ m : Nat, s.n % 4294967296 = (m : Int) := ⟨(s.n % 4294967296).toNat, by omega⟩
    rw [hm]
    by_cases hm4 : m ≤ 4096
    · exact (copy_lf F a s.at_ s.v m true bs [] W0 hT1 hB1 hs.at_ hs.v hm4).mono fun e w' ⟨he, q1, q2⟩ => ⟨_, he, _, _, q1, good_copy bs _ _ _ m hm4 (rdL_len _ _ _) hN, hK1.trans q2 (fun _ _ h => h)⟩
    · exact (copy_llf F a m _ _ true bs [] W0 hT1 (by omega)).mono fun e w' ⟨he, q1, q2⟩ => ⟨_, he, _, _, q1, good_nil bs, hK1.trans q2 (fun _ _ h => h)⟩
  clear hobj hT hB hr hT1 hr1 hA0 _hR hs
  go_enter Tryd.func27, Tryd.ntmps27
  go_wp2_with (first
    | (go_at_call 10; with_reducible refine hc.mono ?_; rintro e w1 ⟨x, rfl, HQ⟩)
    | fail)
  go_end0
  exact ⟨rfl, HQ⟩
set_option maxHeartbeats 1000000 in
theorem tried6 (F : Nat → Prop) (a : Nat) (bs : List Int) (s : Stp) (w : World) (hs : StpOk s) (h9 : s.d % 9 = 6) (hT : SegF F true w a bs []) (hB : ∀ k, w.heap.size ≤ k → F k) (hr : Reads w s.da s.dz w.heap.size) (_hR : ∀ b off, 0 < s.dz.length → s.da = some ⟨b, off, none⟩ → ¬ F b) :
    Calls Tryd.prog 27 #[.pointer (some ⟨a, 0, none⟩), .agg #[.int .u8 s.d, .int .u8 s.a, .int .u8 s.b, .int .u32 s.at_, .int .u32 s.v, .int .i64 s.n, .bool s.on, .slice s.da s.dz.length s.dc]] w fun e w' => e = .returned (.tuple #[]) ∧ Hid (Tried F w a bs w') := by
  have hA0 : Below w.heap.size w (w.alloc (.cells #[.int .u8 s.d, .int .u8 s.a, .int .u8 s.b, .int .u32 s.at_, .int .u32 s.v, .int .i64 s.n, .bool s.on, .slice s.da s.dz.length s.dc] 54)) := (Below.refl _ _).alloc (Nat.le_refl _) _
  generalize hW0 : w.alloc (.cells #[.int .u8 s.d, .int .u8 s.a, .int .u8 s.b, .int .u32 s.at_, .int .u32 s.v, .int .i64 s.n, .bool s.on, .slice s.da s.dz.length s.dc] 54) = W0 at *
  have hobj : W0.heap[w.heap.size]? = some (.cells #[.int .u8 s.d, .int .u8 s.a, .int .u8 s.b, .int .u32 s.at_, .int .u32 s.v, .int .i64 s.n, .bool s.on, .slice s.da s.dz.length s.dc] 54) := by rw [← hW0]; exact heap_alloc_new w _
  have hB1 : ∀ k, W0.heap.size ≤ k → F k := fun k hk => hB k (Nat.le_trans hA0.size hk)
  have hT1 := SegF.below hA0 hT
  have hK1 : Kp F w W0 := Kp.ofBelow hA0
  have hN := good_bd hT
  have hr1 : Reads W0 s.da s.dz W0.heap.size := (hr.below hA0).mono hA0.size
  have c0 : W0.cell? ⟨w.heap.size, 0, none⟩ = some (.int .u8 s.d) := (obj_cell hobj 0).trans rfl
  have c3 : W0.cell? ⟨w.heap.size, 3, none⟩ = some (.int .u32 s.at_) := (obj_cell hobj 3).trans rfl
  have c4 : W0.cell? ⟨w.heap.size, 4, none⟩ = some (.int .u32 s.v) := (obj_cell hobj 4).trans rfl
  have c5 : W0.cell? ⟨w.heap.size, 5, none⟩ = some (.int .i64 s.n) := (obj_cell hobj 5).trans rfl
  have c7 : W0.cell? ⟨w.heap.size, 7, none⟩ = some (.slice s.da s.dz.length s.dc) := (obj_cell hobj 7).trans rfl
  have e9 : (s.d : Int) % 9 = 6 := by omega
  have e9t : (s.d : Int).tmod 9 = 6 := by rw [Int.tmod_eq_emod_of_nonneg (by omega)]; omega
  have hc : Calls Tryd.prog 16 #[.pointer (some ⟨a, 0, none⟩), .int .u32 s.at_, .int .i64 s.n] W0 fun e w' => ∃ x y, e = .returned (.tuple #[x, y]) ∧ Hid (Tried F w a bs w') := by
    by_cases hn : s.n < 0 ∨ 4096 < s.n
    · exact (read_badf F a _ s.n true bs [] W0 hT1 hn).mono fun e w' ⟨he, hw⟩ => ⟨_, _, he, _, _, by rw [hw]; exact hT1, good_nil bs, by rw [hw]; exact hK1⟩
    · obtain ⟨m, hm⟩ : ∃ m : Nat, s.n = (m : Int) := ⟨s.n.toNat, by omega⟩
      rw [hm]
      exact (read_lf F a s.at_ m true bs [] W0 hT1 hB1 hs.at_ (by omega)).mono fun e w' ⟨d, he, q1, q2⟩ => ⟨_, _, he, _, _, q1, good_read bs _ _ (by omega) hN, hK1.trans q2 (fun _ _ h => h)⟩
  clear hobj hT hB hr hT1 hr1 hA0 _hR hs
  go_enter Tryd.func27, Tryd.ntmps27
  go_wp2_with (first
    | (go_at_call 16; with_reducible refine hc.mono ?_; rintro e w1 ⟨x, y, rfl, HQ⟩)
    | fail)
  go_end0
  exact ⟨rfl, HQ⟩
set_option maxHeartbeats 1000000 in
theorem tried7 (F : Nat → Prop) (a : Nat) (bs : List Int) (s : Stp) (w : World) (hs : StpOk s) (h9 : s.d % 9 = 7) (hT : SegF F true w a bs []) (hB : ∀ k, w.heap.size ≤ k → F k) (hr : Reads w s.da s.dz w.heap.size) (hR : ∀ b off, 0 < s.dz.length → s.da = some ⟨b, off, none⟩ → ¬ F b) :
    Calls Tryd.prog 27 #[.pointer (some ⟨a, 0, none⟩), .agg #[.int .u8 s.d, .int .u8 s.a, .int .u8 s.b, .int .u32 s.at_, .int .u32 s.v, .int .i64 s.n, .bool s.on, .slice s.da s.dz.length s.dc]] w fun e w' => e = .returned (.tuple #[]) ∧ Hid (Tried F w a bs w') := by
  have hA0 : Below w.heap.size w (w.alloc (.cells #[.int .u8 s.d, .int .u8 s.a, .int .u8 s.b, .int .u32 s.at_, .int .u32 s.v, .int .i64 s.n, .bool s.on, .slice s.da s.dz.length s.dc] 54)) := (Below.refl _ _).alloc (Nat.le_refl _) _
  generalize hW0 : w.alloc (.cells #[.int .u8 s.d, .int .u8 s.a, .int .u8 s.b, .int .u32 s.at_, .int .u32 s.v, .int .i64 s.n, .bool s.on, .slice s.da s.dz.length s.dc] 54) = W0 at *
  have hobj : W0.heap[w.heap.size]? = some (.cells #[.int .u8 s.d, .int .u8 s.a, .int .u8 s.b, .int .u32 s.at_, .int .u32 s.v, .int .i64 s.n, .bool s.on, .slice s.da s.dz.length s.dc] 54) := by rw [← hW0]; exact heap_alloc_new w _
  have hB1 : ∀ k, W0.heap.size ≤ k → F k := fun k hk => hB k (Nat.le_trans hA0.size hk)
  have hT1 := SegF.below hA0 hT
  have hK1 : Kp F w W0 := Kp.ofBelow hA0
  have hN := good_bd hT
  have hr1 : Reads W0 s.da s.dz W0.heap.size := (hr.below hA0).mono hA0.size
  have c0 : W0.cell? ⟨w.heap.size, 0, none⟩ = some (.int .u8 s.d) := (obj_cell hobj 0).trans rfl
  have c3 : W0.cell? ⟨w.heap.size, 3, none⟩ = some (.int .u32 s.at_) := (obj_cell hobj 3).trans rfl
  have c4 : W0.cell? ⟨w.heap.size, 4, none⟩ = some (.int .u32 s.v) := (obj_cell hobj 4).trans rfl
  have c5 : W0.cell? ⟨w.heap.size, 5, none⟩ = some (.int .i64 s.n) := (obj_cell hobj 5).trans rfl
  have c7 : W0.cell? ⟨w.heap.size, 7, none⟩ = some (.slice s.da s.dz.length s.dc) := (obj_cell hobj 7).trans rfl
  have e9 : (s.d : Int) % 9 = 7 := by omega
  have e9t : (s.d : Int).tmod 9 = 7 := by rw [Int.tmod_eq_emod_of_nonneg (by omega)]; omega
  have hc : Calls Tryd.prog 25 #[.pointer (some ⟨a, 0, none⟩), .int .u32 s.at_, .slice s.da s.dz.length s.dc] W0 fun e w' => ∃ x, e = .returned (.int .i64 x) ∧ Hid (Tried F w a bs w') := by
    by_cases hn : s.dz.length ≤ 4096
    · exact (write_lf F a s.at_ s.dc s.da true bs s.dz [] W0 hT1 hB1 hs.at_ hn hs.dc hs.wf hr1 hR).mono fun e w' ⟨he, q1, q2⟩ => ⟨_, he, _, _, q1, good_write bs s.dz s.at_ (by omega) hN, hK1.trans q2 (fun _ _ h => h)⟩
    · exact (write_badf F a s.dz.length s.dc _ s.da true bs [] W0 hT1 (by omega)).mono fun e w' ⟨he, hw⟩ => ⟨_, he, _, _, by rw [hw]; exact hT1, good_nil bs, by rw [hw]; exact hK1⟩
  clear hobj hT hB hr hT1 hr1 hA0 hR hs
  go_enter Tryd.func27, Tryd.ntmps27
  go_wp2_with (first
    | (go_at_call 25; with_reducible refine hc.mono ?_; rintro e w1 ⟨x, rfl, HQ⟩)
    | fail)
  go_end0
  exact ⟨rfl, HQ⟩
set_option maxHeartbeats 1000000 in
theorem tried8 (F : Nat → Prop) (a : Nat) (bs : List Int) (s : Stp) (w : World) (hs : StpOk s) (h9 : s.d % 9 = 8) (hT : SegF F true w a bs []) (hB : ∀ k, w.heap.size ≤ k → F k) (hr : Reads w s.da s.dz w.heap.size) (_hR : ∀ b off, 0 < s.dz.length → s.da = some ⟨b, off, none⟩ → ¬ F b) :
    Calls Tryd.prog 27 #[.pointer (some ⟨a, 0, none⟩), .agg #[.int .u8 s.d, .int .u8 s.a, .int .u8 s.b, .int .u32 s.at_, .int .u32 s.v, .int .i64 s.n, .bool s.on, .slice s.da s.dz.length s.dc]] w fun e w' => e = .returned (.tuple #[]) ∧ Hid (Tried F w a bs w') := by
  have hA0 : Below w.heap.size w (w.alloc (.cells #[.int .u8 s.d, .int .u8 s.a, .int .u8 s.b, .int .u32 s.at_, .int .u32 s.v, .int .i64 s.n, .bool s.on, .slice s.da s.dz.length s.dc] 54)) := (Below.refl _ _).alloc (Nat.le_refl _) _
  generalize hW0 : w.alloc (.cells #[.int .u8 s.d, .int .u8 s.a, .int .u8 s.b, .int .u32 s.at_, .int .u32 s.v, .int .i64 s.n, .bool s.on, .slice s.da s.dz.length s.dc] 54) = W0 at *
  have hobj : W0.heap[w.heap.size]? = some (.cells #[.int .u8 s.d, .int .u8 s.a, .int .u8 s.b, .int .u32 s.at_, .int .u32 s.v, .int .i64 s.n, .bool s.on, .slice s.da s.dz.length s.dc] 54) := by rw [← hW0]; exact heap_alloc_new w _
  have hB1 : ∀ k, W0.heap.size ≤ k → F k := fun k hk => hB k (Nat.le_trans hA0.size hk)
  have hT1 := SegF.below hA0 hT
  have hK1 : Kp F w W0 := Kp.ofBelow hA0
  have hN := good_bd hT
  have hr1 : Reads W0 s.da s.dz W0.heap.size := (hr.below hA0).mono hA0.size
  have c0 : W0.cell? ⟨w.heap.size, 0, none⟩ = some (.int .u8 s.d) := (obj_cell hobj 0).trans rfl
  have c3 : W0.cell? ⟨w.heap.size, 3, none⟩ = some (.int .u32 s.at_) := (obj_cell hobj 3).trans rfl
  have c4 : W0.cell? ⟨w.heap.size, 4, none⟩ = some (.int .u32 s.v) := (obj_cell hobj 4).trans rfl
  have c5 : W0.cell? ⟨w.heap.size, 5, none⟩ = some (.int .i64 s.n) := (obj_cell hobj 5).trans rfl
  have c7 : W0.cell? ⟨w.heap.size, 7, none⟩ = some (.slice s.da s.dz.length s.dc) := (obj_cell hobj 7).trans rfl
  have e9 : (s.d : Int) % 9 = 8 := by omega
  have e9t : (s.d : Int).tmod 9 = 8 := by rw [Int.tmod_eq_emod_of_nonneg (by omega)]; omega
  have hc : Calls Tryd.prog 23 #[.pointer (some ⟨a, 0, none⟩), .int .u32 s.at_] W0 fun e w' => ∃ x, e = .returned (.int .u32 x) ∧ Hid (Tried F w a bs w') := (load1_lf F a s.at_ true bs [] W0 hT1 hB1 hs.at_).mono fun e w' ⟨he, q1, q2⟩ => ⟨_, he, _, _, q1, good_read bs _ _ (by decide) hN, hK1.trans q2 (fun _ _ h => h)⟩
  clear hobj hT hB hr hT1 hr1 hA0 _hR hs
  go_enter Tryd.func27, Tryd.ntmps27
  go_wp2_with (first
    | (go_at_call 23; with_reducible refine hc.mono ?_; rintro e w1 ⟨x, rfl, HQ⟩)
    | fail)
  go_end0
  exact ⟨rfl, HQ⟩
theorem tried_any (F : Nat → Prop) (a : Nat) (bs : List Int) (s : Stp) (w : World) (hs : StpOk s) (hT : SegF F true w a bs []) (hB : ∀ k, w.heap.size ≤ k → F k) (hr : Reads w s.da s.dz w.heap.size) (hR : ∀ b off, 0 < s.dz.length → s.da = some ⟨b, off, none⟩ → ¬ F b) :
    Calls Tryd.prog 27 #[.pointer (some ⟨a, 0, none⟩), .agg #[.int .u8 s.d, .int .u8 s.a, .int .u8 s.b, .int .u32 s.at_, .int .u32 s.v, .int .i64 s.n, .bool s.on, .slice s.da s.dz.length s.dc]] w fun e w' => e = .returned (.tuple #[]) ∧ Hid (Tried F w a bs w') := by
  have : s.d % 9 = 0 ∨ s.d % 9 = 1 ∨ s.d % 9 = 2 ∨ s.d % 9 = 3 ∨ s.d % 9 = 4 ∨ s.d % 9 = 5 ∨ s.d % 9 = 6 ∨ s.d % 9 = 7 ∨ s.d % 9 = 8 := by omega
  rcases this with h | h | h | h | h | h | h | h | h
  · exact tried0 F a bs s w hs h hT hB hr hR
  · exact tried1 F a bs s w hs h hT hB hr hR
  · exact tried2 F a bs s w hs h hT hB hr hR
  · exact tried3 F a bs s w hs h hT hB hr hR
  · exact tried4 F a bs s w hs h hT hB hr hR
  · exact tried5 F a bs s w hs h hT hB hr hR
  · exact tried6 F a bs s w hs h hT hB hr hR
  · exact tried7 F a bs s w hs h hT hB hr hR
  · exact tried8 F a bs s w hs h hT hB hr hR
end Go.Proofs.YtagflmjiajjkcaaDoor
