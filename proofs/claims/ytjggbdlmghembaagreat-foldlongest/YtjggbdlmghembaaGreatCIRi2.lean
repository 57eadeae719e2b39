import Derived.Test.YtjggbdlmghembaaGreatCIWrd
namespace Go.Proofs.YtjggbdlmghembaaGreat
open Go.RowKit
set_option maxRecDepth 100000
set_option maxHeartbeats 4000000 in
theorem rinfo2 (w : World) : Calls Tryz.prog 23 #[.int .u8 2] w fun e w' => e = .returned (.tuple #[.agg #[.string (opWd 2), .int .i64 (opWi 2), .int .u32 (opMo 2), .int .i64 (opTa 2), .int .i64 (opGi 2), .int .u8 (opKi 2)], .bool true]) ∧ Below w.heap.size w w' := by
  have hw := fun w => word_any 2 w (by decide)
  rw [show opWi 2 = 0 from rfl, show opMo 2 = 0 from rfl, show opTa 2 = 0 from rfl, show opGi 2 = 0 from rfl, show opKi 2 = 8 from rfl]
  rw [show opWd 2 = ⟨#[98, 114, 101, 97, 107]⟩ from rfl] at hw ⊢
  generalize wordsV = V at hw
  go_enter Tryz.func23, Tryz.ntmps23
  go_wp2_with (go_at_call 35; refine (hw _).mono ?_; rintro e wq ⟨rfl, hq⟩; subst wq)
  exact bodyPost_ret (rowRs (by kernel_rfl) _ _ w.heap.size _ rfl (heap3 w _ _ _) _ rfl rfl) rfl ⟨rfl, bel (bel (bel (Below.refl _ _)))⟩
set_option maxHeartbeats 4000000 in
theorem rinfo8 (w : World) : Calls Tryz.prog 23 #[.int .u8 8] w fun e w' => e = .returned (.tuple #[.agg #[.string (opWd 8), .int .i64 (opWi 8), .int .u32 (opMo 8), .int .i64 (opTa 8), .int .i64 (opGi 8), .int .u8 (opKi 8)], .bool true]) ∧ Below w.heap.size w w' := by
  have hw := fun w => word_any 8 w (by decide)
  rw [show opWi 8 = 4 from rfl, show opMo 8 = 4294967295 from rfl, show opTa 8 = 0 from rfl, show opGi 8 = 1 from rfl, show opKi 8 = 1 from rfl]
  rw [show opWd 8 = ⟨#[99, 111, 110, 115, 116]⟩ from rfl] at hw ⊢
  generalize wordsV = V at hw
  go_enter Tryz.func23, Tryz.ntmps23
  go_wp2_with (go_at_call 35; refine (hw _).mono ?_; rintro e wq ⟨rfl, hq⟩; subst wq)
  exact bodyPost_ret (rowRs (by kernel_rfl) _ _ w.heap.size _ rfl (heap3 w _ _ _) _ rfl rfl) rfl ⟨rfl, bel (bel (bel (Below.refl _ _)))⟩
set_option maxHeartbeats 4000000 in
theorem rinfo14 (w : World) : Calls Tryz.prog 23 #[.int .u8 14] w fun e w' => e = .returned (.tuple #[.agg #[.string (opWd 14), .int .i64 (opWi 14), .int .u32 (opMo 14), .int .i64 (opTa 14), .int .i64 (opGi 14), .int .u8 (opKi 14)], .bool true]) ∧ Below w.heap.size w w' := by
  have hw := fun w => word_any 14 w (by decide)
  rw [show opWi 14 = 2 from rfl, show opMo 14 = 16383 from rfl, show opTa 14 = 2 from rfl, show opGi 14 = 0 from rfl, show opKi 14 = 2 from rfl]
  rw [show opWd 14 = ⟨#[110, 101]⟩ from rfl] at hw ⊢
  generalize wordsV = V at hw
  go_enter Tryz.func23, Tryz.ntmps23
  go_wp2_with (go_at_call 35; refine (hw _).mono ?_; rintro e wq ⟨rfl, hq⟩; subst wq)
  exact bodyPost_ret (rowRs (by kernel_rfl) _ _ w.heap.size _ rfl (heap3 w _ _ _) _ rfl rfl) rfl ⟨rfl, bel (bel (bel (Below.refl _ _)))⟩
set_option maxHeartbeats 4000000 in
theorem rinfo20 (w : World) : Calls Tryz.prog 23 #[.int .u8 20] w fun e w' => e = .returned (.tuple #[.agg #[.string (opWd 20), .int .i64 (opWi 20), .int .u32 (opMo 20), .int .i64 (opTa 20), .int .i64 (opGi 20), .int .u8 (opKi 20)], .bool true]) ∧ Below w.heap.size w w' := by
  have hw := fun w => word_any 20 w (by decide)
  rw [show opWi 20 = 2 from rfl, show opMo 20 = 16383 from rfl, show opTa 20 = 2 from rfl, show opGi 20 = 0 from rfl, show opKi 20 = 2 from rfl]
  rw [show opWd 20 = ⟨#[108, 101, 117]⟩ from rfl] at hw ⊢
  generalize wordsV = V at hw
  go_enter Tryz.func23, Tryz.ntmps23
  go_wp2_with (go_at_call 35; refine (hw _).mono ?_; rintro e wq ⟨rfl, hq⟩; subst wq)
  exact bodyPost_ret (rowRs (by kernel_rfl) _ _ w.heap.size _ rfl (heap3 w _ _ _) _ rfl rfl) rfl ⟨rfl, bel (bel (bel (Below.refl _ _)))⟩
set_option maxHeartbeats 4000000 in
theorem rinfo26 (w : World) : Calls Tryz.prog 23 #[.int .u8 26] w fun e w' => e = .returned (.tuple #[.agg #[.string (opWd 26), .int .i64 (opWi 26), .int .u32 (opMo 26), .int .i64 (opTa 26), .int .i64 (opGi 26), .int .u8 (opKi 26)], .bool true]) ∧ Below w.heap.size w w' := by
  have hw := fun w => word_any 26 w (by decide)
  rw [show opWi 26 = 2 from rfl, show opMo 26 = 16383 from rfl, show opTa 26 = 2 from rfl, show opGi 26 = 0 from rfl, show opKi 26 = 2 from rfl]
  rw [show opWd 26 = ⟨#[108, 101, 102]⟩ from rfl] at hw ⊢
  generalize wordsV = V at hw
  go_enter Tryz.func23, Tryz.ntmps23
  go_wp2_with (go_at_call 35; refine (hw _).mono ?_; rintro e wq ⟨rfl, hq⟩; subst wq)
  exact bodyPost_ret (rowRs (by kernel_rfl) _ _ w.heap.size _ rfl (heap3 w _ _ _) _ rfl rfl) rfl ⟨rfl, bel (bel (bel (Below.refl _ _)))⟩
set_option maxHeartbeats 4000000 in
theorem rinfo32 (w : World) : Calls Tryz.prog 23 #[.int .u8 32] w fun e w' => e = .returned (.tuple #[.agg #[.string (opWd 32), .int .i64 (opWi 32), .int .u32 (opMo 32), .int .i64 (opTa 32), .int .i64 (opGi 32), .int .u8 (opKi 32)], .bool true]) ∧ Below w.heap.size w w' := by
  have hw := fun w => word_any 32 w (by decide)
  rw [show opWi 32 = 0 from rfl, show opMo 32 = 0 from rfl, show opTa 32 = 2 from rfl, show opGi 32 = 0 from rfl, show opKi 32 = 1 from rfl]
  rw [show opWd 32 = ⟨#[115, 116, 111, 114, 101, 49]⟩ from rfl] at hw ⊢
  generalize wordsV = V at hw
  go_enter Tryz.func23, Tryz.ntmps23
  go_wp2_with (go_at_call 35; refine (hw _).mono ?_; rintro e wq ⟨rfl, hq⟩; subst wq)
  exact bodyPost_ret (rowRs (by kernel_rfl) _ _ w.heap.size _ rfl (heap3 w _ _ _) _ rfl rfl) rfl ⟨rfl, bel (bel (bel (Below.refl _ _)))⟩
set_option maxHeartbeats 4000000 in
theorem rinfo38 (w : World) : Calls Tryz.prog 23 #[.int .u8 38] w fun e w' => e = .returned (.tuple #[.agg #[.string (opWd 38), .int .i64 (opWi 38), .int .u32 (opMo 38), .int .i64 (opTa 38), .int .i64 (opGi 38), .int .u8 (opKi 38)], .bool true]) ∧ Below w.heap.size w w' := by
  have hw := fun w => word_any 38 w (by decide)
  rw [show opWi 38 = 0 from rfl, show opMo 38 = 0 from rfl, show opTa 38 = 1 from rfl, show opGi 38 = 1 from rfl, show opKi 38 = 1 from rfl]
  rw [show opWd 38 = ⟨#[110, 101, 103]⟩ from rfl] at hw ⊢
  generalize wordsV = V at hw
  go_enter Tryz.func23, Tryz.ntmps23
  go_wp2_with (go_at_call 35; refine (hw _).mono ?_; rintro e wq ⟨rfl, hq⟩; subst wq)
  exact bodyPost_ret (rowRs (by kernel_rfl) _ _ w.heap.size _ rfl (heap3 w _ _ _) _ rfl rfl) rfl ⟨rfl, bel (bel (bel (Below.refl _ _)))⟩
set_option maxHeartbeats 4000000 in
theorem rinfo44 (w : World) : Calls Tryz.prog 23 #[.int .u8 44] w fun e w' => e = .returned (.tuple #[.agg #[.string (opWd 44), .int .i64 (opWi 44), .int .u32 (opMo 44), .int .i64 (opTa 44), .int .i64 (opGi 44), .int .u8 (opKi 44)], .bool true]) ∧ Below w.heap.size w w' := by
  have hw := fun w => word_any 44 w (by decide)
  rw [show opWi 44 = 0 from rfl, show opMo 44 = 0 from rfl, show opTa 44 = 2 from rfl, show opGi 44 = 1 from rfl, show opKi 44 = 1 from rfl]
  rw [show opWd 44 = ⟨#[109, 111, 100, 105]⟩ from rfl] at hw ⊢
  generalize wordsV = V at hw
  go_enter Tryz.func23, Tryz.ntmps23
  go_wp2_with (go_at_call 35; refine (hw _).mono ?_; rintro e wq ⟨rfl, hq⟩; subst wq)
  exact bodyPost_ret (rowRs (by kernel_rfl) _ _ w.heap.size _ rfl (heap3 w _ _ _) _ rfl rfl) rfl ⟨rfl, bel (bel (bel (Below.refl _ _)))⟩
set_option maxHeartbeats 4000000 in
theorem rinfo50 (w : World) : Calls Tryz.prog 23 #[.int .u8 50] w fun e w' => e = .returned (.tuple #[.agg #[.string (opWd 50), .int .i64 (opWi 50), .int .u32 (opMo 50), .int .i64 (opTa 50), .int .i64 (opGi 50), .int .u8 (opKi 50)], .bool true]) ∧ Below w.heap.size w w' := by
  have hw := fun w => word_any 50 w (by decide)
  rw [show opWi 50 = 0 from rfl, show opMo 50 = 0 from rfl, show opTa 50 = 2 from rfl, show opGi 50 = 1 from rfl, show opKi 50 = 1 from rfl]
  rw [show opWd 50 = ⟨#[115, 104, 108]⟩ from rfl] at hw ⊢
  generalize wordsV = V at hw
  go_enter Tryz.func23, Tryz.ntmps23
  go_wp2_with (go_at_call 35; refine (hw _).mono ?_; rintro e wq ⟨rfl, hq⟩; subst wq)
  exact bodyPost_ret (rowRs (by kernel_rfl) _ _ w.heap.size _ rfl (heap3 w _ _ _) _ rfl rfl) rfl ⟨rfl, bel (bel (bel (Below.refl _ _)))⟩
set_option maxHeartbeats 4000000 in
theorem rinfo56 (w : World) : Calls Tryz.prog 23 #[.int .u8 56] w fun e w' => e = .returned (.tuple #[.agg #[.string (opWd 56), .int .i64 (opWi 56), .int .u32 (opMo 56), .int .i64 (opTa 56), .int .i64 (opGi 56), .int .u8 (opKi 56)], .bool true]) ∧ Below w.heap.size w w' := by
  have hw := fun w => word_any 56 w (by decide)
  rw [show opWi 56 = 0 from rfl, show opMo 56 = 0 from rfl, show opTa 56 = 2 from rfl, show opGi 56 = 1 from rfl, show opKi 56 = 1 from rfl]
  rw [show opWd 56 = ⟨#[109, 117, 108, 102]⟩ from rfl] at hw ⊢
  generalize wordsV = V at hw
  go_enter Tryz.func23, Tryz.ntmps23
  go_wp2_with (go_at_call 35; refine (hw _).mono ?_; rintro e wq ⟨rfl, hq⟩; subst wq)
  exact bodyPost_ret (rowRs (by kernel_rfl) _ _ w.heap.size _ rfl (heap3 w _ _ _) _ rfl rfl) rfl ⟨rfl, bel (bel (bel (Below.refl _ _)))⟩
end Go.Proofs.YtjggbdlmghembaaGreat
namespace Go.Proofs.YtjggbdlmghembaaGreat
open Go.RowKit
set_option maxRecDepth 100000
set_option maxHeartbeats 4000000 in
theorem rinfo3 (w : World) : Calls Tryz.prog 23 #[.int .u8 3] w fun e w' => e = .returned (.tuple #[.agg #[.string (opWd 3), .int .i64 (opWi 3), .int .u32 (opMo 3), .int .i64 (opTa 3), .int .i64 (opGi 3), .int .u8 (opKi 3)], .bool true]) ∧ Below w.heap.size w w' := by
  have hw := fun w => word_any 3 w (by decide)
  rw [show opWi 3 = 2 from rfl, show opMo 3 = 65535 from rfl, show opTa 3 = 0 from rfl, show opGi 3 = 0 from rfl, show opKi 3 = 6 from rfl]
  rw [show opWd 3 = ⟨#[101, 110, 116, 101, 114]⟩ from rfl] at hw ⊢
  generalize wordsV = V at hw
  go_enter Tryz.func23, Tryz.ntmps23
  go_wp2_with (go_at_call 35; refine (hw _).mono ?_; rintro e wq ⟨rfl, hq⟩; subst wq)
  exact bodyPost_ret (rowRs (by kernel_rfl) _ _ w.heap.size _ rfl (heap3 w _ _ _) _ rfl rfl) rfl ⟨rfl, bel (bel (bel (Below.refl _ _)))⟩
set_option maxHeartbeats 4000000 in
theorem rinfo9 (w : World) : Calls Tryz.prog 23 #[.int .u8 9] w fun e w' => e = .returned (.tuple #[.agg #[.string (opWd 9), .int .i64 (opWi 9), .int .u32 (opMo 9), .int .i64 (opTa 9), .int .i64 (opGi 9), .int .u8 (opKi 9)], .bool true]) ∧ Below w.heap.size w w' := by
  have hw := fun w => word_any 9 w (by decide)
  rw [show opWi 9 = 4 from rfl, show opMo 9 = 4294967295 from rfl, show opTa 9 = 0 from rfl, show opGi 9 = 1 from rfl, show opKi 9 = 1 from rfl]
  rw [show opWd 9 = ⟨#[108, 111, 99, 97, 108]⟩ from rfl] at hw ⊢
  generalize wordsV = V at hw
  go_enter Tryz.func23, Tryz.ntmps23
  go_wp2_with (go_at_call 35; refine (hw _).mono ?_; rintro e wq ⟨rfl, hq⟩; subst wq)
  exact bodyPost_ret (rowRs (by kernel_rfl) _ _ w.heap.size _ rfl (heap3 w _ _ _) _ rfl rfl) rfl ⟨rfl, bel (bel (bel (Below.refl _ _)))⟩
set_option maxHeartbeats 4000000 in
theorem rinfo15 (w : World) : Calls Tryz.prog 23 #[.int .u8 15] w fun e w' => e = .returned (.tuple #[.agg #[.string (opWd 15), .int .i64 (opWi 15), .int .u32 (opMo 15), .int .i64 (opTa 15), .int .i64 (opGi 15), .int .u8 (opKi 15)], .bool true]) ∧ Below w.heap.size w w' := by
  have hw := fun w => word_any 15 w (by decide)
  rw [show opWi 15 = 2 from rfl, show opMo 15 = 16383 from rfl, show opTa 15 = 2 from rfl, show opGi 15 = 0 from rfl, show opKi 15 = 2 from rfl]
  rw [show opWd 15 = ⟨#[108, 116, 105]⟩ from rfl] at hw ⊢
  generalize wordsV = V at hw
  go_enter Tryz.func23, Tryz.ntmps23
  go_wp2_with (go_at_call 35; refine (hw _).mono ?_; rintro e wq ⟨rfl, hq⟩; subst wq)
  exact bodyPost_ret (rowRs (by kernel_rfl) _ _ w.heap.size _ rfl (heap3 w _ _ _) _ rfl rfl) rfl ⟨rfl, bel (bel (bel (Below.refl _ _)))⟩
set_option maxHeartbeats 4000000 in
theorem rinfo21 (w : World) : Calls Tryz.prog 23 #[.int .u8 21] w fun e w' => e = .returned (.tuple #[.agg #[.string (opWd 21), .int .i64 (opWi 21), .int .u32 (opMo 21), .int .i64 (opTa 21), .int .i64 (opGi 21), .int .u8 (opKi 21)], .bool true]) ∧ Below w.heap.size w w' := by
  have hw := fun w => word_any 21 w (by decide)
  rw [show opWi 21 = 2 from rfl, show opMo 21 = 16383 from rfl, show opTa 21 = 2 from rfl, show opGi 21 = 0 from rfl, show opKi 21 = 2 from rfl]
  rw [show opWd 21 = ⟨#[103, 116, 117]⟩ from rfl] at hw ⊢
  generalize wordsV = V at hw
  go_enter Tryz.func23, Tryz.ntmps23
  go_wp2_with (go_at_call 35; refine (hw _).mono ?_; rintro e wq ⟨rfl, hq⟩; subst wq)
  exact bodyPost_ret (rowRs (by kernel_rfl) _ _ w.heap.size _ rfl (heap3 w _ _ _) _ rfl rfl) rfl ⟨rfl, bel (bel (bel (Below.refl _ _)))⟩
set_option maxHeartbeats 4000000 in
theorem rinfo27 (w : World) : Calls Tryz.prog 23 #[.int .u8 27] w fun e w' => e = .returned (.tuple #[.agg #[.string (opWd 27), .int .i64 (opWi 27), .int .u32 (opMo 27), .int .i64 (opTa 27), .int .i64 (opGi 27), .int .u8 (opKi 27)], .bool true]) ∧ Below w.heap.size w w' := by
  have hw := fun w => word_any 27 w (by decide)
  rw [show opWi 27 = 2 from rfl, show opMo 27 = 16383 from rfl, show opTa 27 = 2 from rfl, show opGi 27 = 0 from rfl, show opKi 27 = 2 from rfl]
  rw [show opWd 27 = ⟨#[103, 116, 102]⟩ from rfl] at hw ⊢
  generalize wordsV = V at hw
  go_enter Tryz.func23, Tryz.ntmps23
  go_wp2_with (go_at_call 35; refine (hw _).mono ?_; rintro e wq ⟨rfl, hq⟩; subst wq)
  exact bodyPost_ret (rowRs (by kernel_rfl) _ _ w.heap.size _ rfl (heap3 w _ _ _) _ rfl rfl) rfl ⟨rfl, bel (bel (bel (Below.refl _ _)))⟩
set_option maxHeartbeats 4000000 in
theorem rinfo33 (w : World) : Calls Tryz.prog 23 #[.int .u8 33] w fun e w' => e = .returned (.tuple #[.agg #[.string (opWd 33), .int .i64 (opWi 33), .int .u32 (opMo 33), .int .i64 (opTa 33), .int .i64 (opGi 33), .int .u8 (opKi 33)], .bool true]) ∧ Below w.heap.size w w' := by
  have hw := fun w => word_any 33 w (by decide)
  rw [show opWi 33 = 0 from rfl, show opMo 33 = 0 from rfl, show opTa 33 = 2 from rfl, show opGi 33 = 0 from rfl, show opKi 33 = 1 from rfl]
  rw [show opWd 33 = ⟨#[115, 116, 111, 114, 101, 50]⟩ from rfl] at hw ⊢
  generalize wordsV = V at hw
  go_enter Tryz.func23, Tryz.ntmps23
  go_wp2_with (go_at_call 35; refine (hw _).mono ?_; rintro e wq ⟨rfl, hq⟩; subst wq)
  exact bodyPost_ret (rowRs (by kernel_rfl) _ _ w.heap.size _ rfl (heap3 w _ _ _) _ rfl rfl) rfl ⟨rfl, bel (bel (bel (Below.refl _ _)))⟩
set_option maxHeartbeats 4000000 in
theorem rinfo39 (w : World) : Calls Tryz.prog 23 #[.int .u8 39] w fun e w' => e = .returned (.tuple #[.agg #[.string (opWd 39), .int .i64 (opWi 39), .int .u32 (opMo 39), .int .i64 (opTa 39), .int .i64 (opGi 39), .int .u8 (opKi 39)], .bool true]) ∧ Below w.heap.size w w' := by
  have hw := fun w => word_any 39 w (by decide)
  rw [show opWi 39 = 0 from rfl, show opMo 39 = 0 from rfl, show opTa 39 = 2 from rfl, show opGi 39 = 1 from rfl, show opKi 39 = 1 from rfl]
  rw [show opWd 39 = ⟨#[97, 100, 100]⟩ from rfl] at hw ⊢
  generalize wordsV = V at hw
  go_enter Tryz.func23, Tryz.ntmps23
  go_wp2_with (go_at_call 35; refine (hw _).mono ?_; rintro e wq ⟨rfl, hq⟩; subst wq)
  exact bodyPost_ret (rowRs (by kernel_rfl) _ _ w.heap.size _ rfl (heap3 w _ _ _) _ rfl rfl) rfl ⟨rfl, bel (bel (bel (Below.refl _ _)))⟩
set_option maxHeartbeats 4000000 in
theorem rinfo45 (w : World) : Calls Tryz.prog 23 #[.int .u8 45] w fun e w' => e = .returned (.tuple #[.agg #[.string (opWd 45), .int .i64 (opWi 45), .int .u32 (opMo 45), .int .i64 (opTa 45), .int .i64 (opGi 45), .int .u8 (opKi 45)], .bool true]) ∧ Below w.heap.size w w' := by
  have hw := fun w => word_any 45 w (by decide)
  rw [show opWi 45 = 0 from rfl, show opMo 45 = 0 from rfl, show opTa 45 = 2 from rfl, show opGi 45 = 1 from rfl, show opKi 45 = 1 from rfl]
  rw [show opWd 45 = ⟨#[109, 111, 100, 117]⟩ from rfl] at hw ⊢
  generalize wordsV = V at hw
  go_enter Tryz.func23, Tryz.ntmps23
  go_wp2_with (go_at_call 35; refine (hw _).mono ?_; rintro e wq ⟨rfl, hq⟩; subst wq)
  exact bodyPost_ret (rowRs (by kernel_rfl) _ _ w.heap.size _ rfl (heap3 w _ _ _) _ rfl rfl) rfl ⟨rfl, bel (bel (bel (Below.refl _ _)))⟩
set_option maxHeartbeats 4000000 in
theorem rinfo51 (w : World) : Calls Tryz.prog 23 #[.int .u8 51] w fun e w' => e = .returned (.tuple #[.agg #[.string (opWd 51), .int .i64 (opWi 51), .int .u32 (opMo 51), .int .i64 (opTa 51), .int .i64 (opGi 51), .int .u8 (opKi 51)], .bool true]) ∧ Below w.heap.size w w' := by
  have hw := fun w => word_any 51 w (by decide)
  rw [show opWi 51 = 0 from rfl, show opMo 51 = 0 from rfl, show opTa 51 = 2 from rfl, show opGi 51 = 1 from rfl, show opKi 51 = 1 from rfl]
  rw [show opWd 51 = ⟨#[115, 104, 114, 105]⟩ from rfl] at hw ⊢
  generalize wordsV = V at hw
  go_enter Tryz.func23, Tryz.ntmps23
  go_wp2_with (go_at_call 35; refine (hw _).mono ?_; rintro e wq ⟨rfl, hq⟩; subst wq)
  exact bodyPost_ret (rowRs (by kernel_rfl) _ _ w.heap.size _ rfl (heap3 w _ _ _) _ rfl rfl) rfl ⟨rfl, bel (bel (bel (Below.refl _ _)))⟩
set_option maxHeartbeats 4000000 in
theorem rinfo57 (w : World) : Calls Tryz.prog 23 #[.int .u8 57] w fun e w' => e = .returned (.tuple #[.agg #[.string (opWd 57), .int .i64 (opWi 57), .int .u32 (opMo 57), .int .i64 (opTa 57), .int .i64 (opGi 57), .int .u8 (opKi 57)], .bool true]) ∧ Below w.heap.size w w' := by
  have hw := fun w => word_any 57 w (by decide)
  rw [show opWi 57 = 0 from rfl, show opMo 57 = 0 from rfl, show opTa 57 = 2 from rfl, show opGi 57 = 1 from rfl, show opKi 57 = 1 from rfl]
  rw [show opWd 57 = ⟨#[100, 105, 118, 102]⟩ from rfl] at hw ⊢
  generalize wordsV = V at hw
  go_enter Tryz.func23, Tryz.ntmps23
  go_wp2_with (go_at_call 35; refine (hw _).mono ?_; rintro e wq ⟨rfl, hq⟩; subst wq)
  exact bodyPost_ret (rowRs (by kernel_rfl) _ _ w.heap.size _ rfl (heap3 w _ _ _) _ rfl rfl) rfl ⟨rfl, bel (bel (bel (Below.refl _ _)))⟩
end Go.Proofs.YtjggbdlmghembaaGreat
namespace Go.Proofs.YtjggbdlmghembaaGreat
open Go.RowKit
set_option maxRecDepth 100000
set_option maxHeartbeats 4000000 in
theorem rinfo4 (w : World) : Calls Tryz.prog 23 #[.int .u8 4] w fun e w' => e = .returned (.tuple #[.agg #[.string (opWd 4), .int .i64 (opWi 4), .int .u32 (opMo 4), .int .i64 (opTa 4), .int .i64 (opGi 4), .int .u8 (opKi 4)], .bool true]) ∧ Below w.heap.size w w' := by
  have hw := fun w => word_any 4 w (by decide)
  rw [show opWi 4 = 2 from rfl, show opMo 4 = 65535 from rfl, show opTa 4 = 1 from rfl, show opGi 4 = 0 from rfl, show opKi 4 = 7 from rfl]
  rw [show opWd 4 = ⟨#[108, 101, 97, 118, 101]⟩ from rfl] at hw ⊢
  generalize wordsV = V at hw
  go_enter Tryz.func23, Tryz.ntmps23
  go_wp2_with (go_at_call 35; refine (hw _).mono ?_; rintro e wq ⟨rfl, hq⟩; subst wq)
  exact bodyPost_ret (rowRs (by kernel_rfl) _ _ w.heap.size _ rfl (heap3 w _ _ _) _ rfl rfl) rfl ⟨rfl, bel (bel (bel (Below.refl _ _)))⟩
set_option maxHeartbeats 4000000 in
theorem rinfo10 (w : World) : Calls Tryz.prog 23 #[.int .u8 10] w fun e w' => e = .returned (.tuple #[.agg #[.string (opWd 10), .int .i64 (opWi 10), .int .u32 (opMo 10), .int .i64 (opTa 10), .int .i64 (opGi 10), .int .u8 (opKi 10)], .bool true]) ∧ Below w.heap.size w w' := by
  have hw := fun w => word_any 10 w (by decide)
  rw [show opWi 10 = 0 from rfl, show opMo 10 = 0 from rfl, show opTa 10 = 1 from rfl, show opGi 10 = 0 from rfl, show opKi 10 = 1 from rfl]
  rw [show opWd 10 = ⟨#[112, 111, 112]⟩ from rfl] at hw ⊢
  generalize wordsV = V at hw
  go_enter Tryz.func23, Tryz.ntmps23
  go_wp2_with (go_at_call 35; refine (hw _).mono ?_; rintro e wq ⟨rfl, hq⟩; subst wq)
  exact bodyPost_ret (rowRs (by kernel_rfl) _ _ w.heap.size _ rfl (heap3 w _ _ _) _ rfl rfl) rfl ⟨rfl, bel (bel (bel (Below.refl _ _)))⟩
set_option maxHeartbeats 4000000 in
theorem rinfo16 (w : World) : Calls Tryz.prog 23 #[.int .u8 16] w fun e w' => e = .returned (.tuple #[.agg #[.string (opWd 16), .int .i64 (opWi 16), .int .u32 (opMo 16), .int .i64 (opTa 16), .int .i64 (opGi 16), .int .u8 (opKi 16)], .bool true]) ∧ Below w.heap.size w w' := by
  have hw := fun w => word_any 16 w (by decide)
  rw [show opWi 16 = 2 from rfl, show opMo 16 = 16383 from rfl, show opTa 16 = 2 from rfl, show opGi 16 = 0 from rfl, show opKi 16 = 2 from rfl]
  rw [show opWd 16 = ⟨#[108, 101, 105]⟩ from rfl] at hw ⊢
  generalize wordsV = V at hw
  go_enter Tryz.func23, Tryz.ntmps23
  go_wp2_with (go_at_call 35; refine (hw _).mono ?_; rintro e wq ⟨rfl, hq⟩; subst wq)
  exact bodyPost_ret (rowRs (by kernel_rfl) _ _ w.heap.size _ rfl (heap3 w _ _ _) _ rfl rfl) rfl ⟨rfl, bel (bel (bel (Below.refl _ _)))⟩
set_option maxHeartbeats 4000000 in
theorem rinfo22 (w : World) : Calls Tryz.prog 23 #[.int .u8 22] w fun e w' => e = .returned (.tuple #[.agg #[.string (opWd 22), .int .i64 (opWi 22), .int .u32 (opMo 22), .int .i64 (opTa 22), .int .i64 (opGi 22), .int .u8 (opKi 22)], .bool true]) ∧ Below w.heap.size w w' := by
  have hw := fun w => word_any 22 w (by decide)
  rw [show opWi 22 = 2 from rfl, show opMo 22 = 16383 from rfl, show opTa 22 = 2 from rfl, show opGi 22 = 0 from rfl, show opKi 22 = 2 from rfl]
  rw [show opWd 22 = ⟨#[103, 101, 117]⟩ from rfl] at hw ⊢
  generalize wordsV = V at hw
  go_enter Tryz.func23, Tryz.ntmps23
  go_wp2_with (go_at_call 35; refine (hw _).mono ?_; rintro e wq ⟨rfl, hq⟩; subst wq)
  exact bodyPost_ret (rowRs (by kernel_rfl) _ _ w.heap.size _ rfl (heap3 w _ _ _) _ rfl rfl) rfl ⟨rfl, bel (bel (bel (Below.refl _ _)))⟩
set_option maxHeartbeats 4000000 in
theorem rinfo28 (w : World) : Calls Tryz.prog 23 #[.int .u8 28] w fun e w' => e = .returned (.tuple #[.agg #[.string (opWd 28), .int .i64 (opWi 28), .int .u32 (opMo 28), .int .i64 (opTa 28), .int .i64 (opGi 28), .int .u8 (opKi 28)], .bool true]) ∧ Below w.heap.size w w' := by
  have hw := fun w => word_any 28 w (by decide)
  rw [show opWi 28 = 2 from rfl, show opMo 28 = 16383 from rfl, show opTa 28 = 2 from rfl, show opGi 28 = 0 from rfl, show opKi 28 = 2 from rfl]
  rw [show opWd 28 = ⟨#[103, 101, 102]⟩ from rfl] at hw ⊢
  generalize wordsV = V at hw
  go_enter Tryz.func23, Tryz.ntmps23
  go_wp2_with (go_at_call 35; refine (hw _).mono ?_; rintro e wq ⟨rfl, hq⟩; subst wq)
  exact bodyPost_ret (rowRs (by kernel_rfl) _ _ w.heap.size _ rfl (heap3 w _ _ _) _ rfl rfl) rfl ⟨rfl, bel (bel (bel (Below.refl _ _)))⟩
set_option maxHeartbeats 4000000 in
theorem rinfo34 (w : World) : Calls Tryz.prog 23 #[.int .u8 34] w fun e w' => e = .returned (.tuple #[.agg #[.string (opWd 34), .int .i64 (opWi 34), .int .u32 (opMo 34), .int .i64 (opTa 34), .int .i64 (opGi 34), .int .u8 (opKi 34)], .bool true]) ∧ Below w.heap.size w w' := by
  have hw := fun w => word_any 34 w (by decide)
  rw [show opWi 34 = 0 from rfl, show opMo 34 = 0 from rfl, show opTa 34 = 2 from rfl, show opGi 34 = 0 from rfl, show opKi 34 = 1 from rfl]
  rw [show opWd 34 = ⟨#[115, 116, 111, 114, 101, 52]⟩ from rfl] at hw ⊢
  generalize wordsV = V at hw
  go_enter Tryz.func23, Tryz.ntmps23
  go_wp2_with (go_at_call 35; refine (hw _).mono ?_; rintro e wq ⟨rfl, hq⟩; subst wq)
  exact bodyPost_ret (rowRs (by kernel_rfl) _ _ w.heap.size _ rfl (heap3 w _ _ _) _ rfl rfl) rfl ⟨rfl, bel (bel (bel (Below.refl _ _)))⟩
set_option maxHeartbeats 4000000 in
theorem rinfo40 (w : World) : Calls Tryz.prog 23 #[.int .u8 40] w fun e w' => e = .returned (.tuple #[.agg #[.string (opWd 40), .int .i64 (opWi 40), .int .u32 (opMo 40), .int .i64 (opTa 40), .int .i64 (opGi 40), .int .u8 (opKi 40)], .bool true]) ∧ Below w.heap.size w w' := by
  have hw := fun w => word_any 40 w (by decide)
  rw [show opWi 40 = 0 from rfl, show opMo 40 = 0 from rfl, show opTa 40 = 2 from rfl, show opGi 40 = 1 from rfl, show opKi 40 = 1 from rfl]
  rw [show opWd 40 = ⟨#[115, 117, 98]⟩ from rfl] at hw ⊢
  generalize wordsV = V at hw
  go_enter Tryz.func23, Tryz.ntmps23
  go_wp2_with (go_at_call 35; refine (hw _).mono ?_; rintro e wq ⟨rfl, hq⟩; subst wq)
  exact bodyPost_ret (rowRs (by kernel_rfl) _ _ w.heap.size _ rfl (heap3 w _ _ _) _ rfl rfl) rfl ⟨rfl, bel (bel (bel (Below.refl _ _)))⟩
set_option maxHeartbeats 4000000 in
theorem rinfo46 (w : World) : Calls Tryz.prog 23 #[.int .u8 46] w fun e w' => e = .returned (.tuple #[.agg #[.string (opWd 46), .int .i64 (opWi 46), .int .u32 (opMo 46), .int .i64 (opTa 46), .int .i64 (opGi 46), .int .u8 (opKi 46)], .bool true]) ∧ Below w.heap.size w w' := by
  have hw := fun w => word_any 46 w (by decide)
  rw [show opWi 46 = 0 from rfl, show opMo 46 = 0 from rfl, show opTa 46 = 2 from rfl, show opGi 46 = 1 from rfl, show opKi 46 = 1 from rfl]
  rw [show opWd 46 = ⟨#[97, 110, 100]⟩ from rfl] at hw ⊢
  generalize wordsV = V at hw
  go_enter Tryz.func23, Tryz.ntmps23
  go_wp2_with (go_at_call 35; refine (hw _).mono ?_; rintro e wq ⟨rfl, hq⟩; subst wq)
  exact bodyPost_ret (rowRs (by kernel_rfl) _ _ w.heap.size _ rfl (heap3 w _ _ _) _ rfl rfl) rfl ⟨rfl, bel (bel (bel (Below.refl _ _)))⟩
set_option maxHeartbeats 4000000 in
theorem rinfo52 (w : World) : Calls Tryz.prog 23 #[.int .u8 52] w fun e w' => e = .returned (.tuple #[.agg #[.string (opWd 52), .int .i64 (opWi 52), .int .u32 (opMo 52), .int .i64 (opTa 52), .int .i64 (opGi 52), .int .u8 (opKi 52)], .bool true]) ∧ Below w.heap.size w w' := by
  have hw := fun w => word_any 52 w (by decide)
  rw [show opWi 52 = 0 from rfl, show opMo 52 = 0 from rfl, show opTa 52 = 2 from rfl, show opGi 52 = 1 from rfl, show opKi 52 = 1 from rfl]
  rw [show opWd 52 = ⟨#[115, 104, 114, 117]⟩ from rfl] at hw ⊢
  generalize wordsV = V at hw
  go_enter Tryz.func23, Tryz.ntmps23
  go_wp2_with (go_at_call 35; refine (hw _).mono ?_; rintro e wq ⟨rfl, hq⟩; subst wq)
  exact bodyPost_ret (rowRs (by kernel_rfl) _ _ w.heap.size _ rfl (heap3 w _ _ _) _ rfl rfl) rfl ⟨rfl, bel (bel (bel (Below.refl _ _)))⟩
set_option maxHeartbeats 4000000 in
theorem rinfo58 (w : World) : Calls Tryz.prog 23 #[.int .u8 58] w fun e w' => e = .returned (.tuple #[.agg #[.string (opWd 58), .int .i64 (opWi 58), .int .u32 (opMo 58), .int .i64 (opTa 58), .int .i64 (opGi 58), .int .u8 (opKi 58)], .bool true]) ∧ Below w.heap.size w w' := by
  have hw := fun w => word_any 58 w (by decide)
  rw [show opWi 58 = 0 from rfl, show opMo 58 = 0 from rfl, show opTa 58 = 1 from rfl, show opGi 58 = 1 from rfl, show opKi 58 = 1 from rfl]
  rw [show opWd 58 = ⟨#[99, 118, 105, 102]⟩ from rfl] at hw ⊢
  generalize wordsV = V at hw
  go_enter Tryz.func23, Tryz.ntmps23
  go_wp2_with (go_at_call 35; refine (hw _).mono ?_; rintro e wq ⟨rfl, hq⟩; subst wq)
  exact bodyPost_ret (rowRs (by kernel_rfl) _ _ w.heap.size _ rfl (heap3 w _ _ _) _ rfl rfl) rfl ⟨rfl, bel (bel (bel (Below.refl _ _)))⟩
end Go.Proofs.YtjggbdlmghembaaGreat
