import Derived.Test.YtibhlcfligfhdaaGreatCDPl
namespace Go.Proofs.YtibhlcfligfhdaaGreat
open Go.RowKit
set_option maxRecDepth 100000
set_option maxHeartbeats 4000000 in
theorem rinfo5 (w : World) : Calls Tryz.prog 49 #[.int .u8 5] w fun e w' => e = .returned (.tuple #[.agg #[.string (opWd 5), .int .i64 (opWi 5), .int .u32 (opMo 5), .int .i64 (opTa 5), .int .i64 (opGi 5), .int .u8 (opKi 5)], .bool true]) ∧ Below w.heap.size w w' := by
 have hw := fun w => word_any 5 w (by decide)
 rw [show opWi 5 = 0 from rfl, show opMo 5 = 0 from rfl, show opTa 5 = 1 from rfl, show opGi 5 = 1 from rfl, show opKi 5 = 5 from rfl]
 rw [show opWd 5 = ⟨#[99, 97, 108, 108]⟩ from rfl] at hw ⊢
 generalize wordsV = V at hw
 go_enter Tryz.func49, Tryz.ntmps49
 go_wp2_with (go_at_call 65; refine (hw _).mono ?_; rintro e wq ⟨rfl, hq⟩; subst wq)
 exact bodyPost_ret (rowRs (by kernel_rfl) _ _ w.heap.size _ rfl (heap3 w _ _ _) _ rfl rfl) rfl ⟨rfl, bel (bel (bel (Below.refl _ _)))⟩
set_option maxHeartbeats 4000000 in
theorem rinfo11 (w : World) : Calls Tryz.prog 49 #[.int .u8 11] w fun e w' => e = .returned (.tuple #[.agg #[.string (opWd 11), .int .i64 (opWi 11), .int .u32 (opMo 11), .int .i64 (opTa 11), .int .i64 (opGi 11), .int .u8 (opKi 11)], .bool true]) ∧ Below w.heap.size w w' := by
 have hw := fun w => word_any 11 w (by decide)
 rw [show opWi 11 = 0 from rfl, show opMo 11 = 0 from rfl, show opTa 11 = 1 from rfl, show opGi 11 = 2 from rfl, show opKi 11 = 1 from rfl]
 rw [show opWd 11 = ⟨#[100, 117, 112]⟩ from rfl] at hw ⊢
 generalize wordsV = V at hw
 go_enter Tryz.func49, Tryz.ntmps49
 go_wp2_with (go_at_call 65; refine (hw _).mono ?_; rintro e wq ⟨rfl, hq⟩; subst wq)
 exact bodyPost_ret (rowRs (by kernel_rfl) _ _ w.heap.size _ rfl (heap3 w _ _ _) _ rfl rfl) rfl ⟨rfl, bel (bel (bel (Below.refl _ _)))⟩
set_option maxHeartbeats 4000000 in
theorem rinfo17 (w : World) : Calls Tryz.prog 49 #[.int .u8 17] w fun e w' => e = .returned (.tuple #[.agg #[.string (opWd 17), .int .i64 (opWi 17), .int .u32 (opMo 17), .int .i64 (opTa 17), .int .i64 (opGi 17), .int .u8 (opKi 17)], .bool true]) ∧ Below w.heap.size w w' := by
 have hw := fun w => word_any 17 w (by decide)
 rw [show opWi 17 = 2 from rfl, show opMo 17 = 16383 from rfl, show opTa 17 = 2 from rfl, show opGi 17 = 0 from rfl, show opKi 17 = 2 from rfl]
 rw [show opWd 17 = ⟨#[103, 116, 105]⟩ from rfl] at hw ⊢
 generalize wordsV = V at hw
 go_enter Tryz.func49, Tryz.ntmps49
 go_wp2_with (go_at_call 65; refine (hw _).mono ?_; rintro e wq ⟨rfl, hq⟩; subst wq)
 exact bodyPost_ret (rowRs (by kernel_rfl) _ _ w.heap.size _ rfl (heap3 w _ _ _) _ rfl rfl) rfl ⟨rfl, bel (bel (bel (Below.refl _ _)))⟩
set_option maxHeartbeats 4000000 in
theorem rinfo23 (w : World) : Calls Tryz.prog 49 #[.int .u8 23] w fun e w' => e = .returned (.tuple #[.agg #[.string (opWd 23), .int .i64 (opWi 23), .int .u32 (opMo 23), .int .i64 (opTa 23), .int .i64 (opGi 23), .int .u8 (opKi 23)], .bool true]) ∧ Below w.heap.size w w' := by
 have hw := fun w => word_any 23 w (by decide)
 rw [show opWi 23 = 2 from rfl, show opMo 23 = 16383 from rfl, show opTa 23 = 2 from rfl, show opGi 23 = 0 from rfl, show opKi 23 = 2 from rfl]
 rw [show opWd 23 = ⟨#[101, 113, 102]⟩ from rfl] at hw ⊢
 generalize wordsV = V at hw
 go_enter Tryz.func49, Tryz.ntmps49
 go_wp2_with (go_at_call 65; refine (hw _).mono ?_; rintro e wq ⟨rfl, hq⟩; subst wq)
 exact bodyPost_ret (rowRs (by kernel_rfl) _ _ w.heap.size _ rfl (heap3 w _ _ _) _ rfl rfl) rfl ⟨rfl, bel (bel (bel (Below.refl _ _)))⟩
set_option maxHeartbeats 4000000 in
theorem rinfo29 (w : World) : Calls Tryz.prog 49 #[.int .u8 29] w fun e w' => e = .returned (.tuple #[.agg #[.string (opWd 29), .int .i64 (opWi 29), .int .u32 (opMo 29), .int .i64 (opTa 29), .int .i64 (opGi 29), .int .u8 (opKi 29)], .bool true]) ∧ Below w.heap.size w w' := by
 have hw := fun w => word_any 29 w (by decide)
 rw [show opWi 29 = 0 from rfl, show opMo 29 = 0 from rfl, show opTa 29 = 1 from rfl, show opGi 29 = 1 from rfl, show opKi 29 = 1 from rfl]
 rw [show opWd 29 = ⟨#[108, 111, 97, 100, 49]⟩ from rfl] at hw ⊢
 generalize wordsV = V at hw
 go_enter Tryz.func49, Tryz.ntmps49
 go_wp2_with (go_at_call 65; refine (hw _).mono ?_; rintro e wq ⟨rfl, hq⟩; subst wq)
 exact bodyPost_ret (rowRs (by kernel_rfl) _ _ w.heap.size _ rfl (heap3 w _ _ _) _ rfl rfl) rfl ⟨rfl, bel (bel (bel (Below.refl _ _)))⟩
set_option maxHeartbeats 4000000 in
theorem rinfo35 (w : World) : Calls Tryz.prog 49 #[.int .u8 35] w fun e w' => e = .returned (.tuple #[.agg #[.string (opWd 35), .int .i64 (opWi 35), .int .u32 (opMo 35), .int .i64 (opTa 35), .int .i64 (opGi 35), .int .u8 (opKi 35)], .bool true]) ∧ Below w.heap.size w w' := by
 have hw := fun w => word_any 35 w (by decide)
 rw [show opWi 35 = 2 from rfl, show opMo 35 = 256 from rfl, show opTa 35 = 2 from rfl, show opGi 35 = 0 from rfl, show opKi 35 = 1 from rfl]
 rw [show opWd 35 = ⟨#[99, 111, 112, 121]⟩ from rfl] at hw ⊢
 generalize wordsV = V at hw
 go_enter Tryz.func49, Tryz.ntmps49
 go_wp2_with (go_at_call 65; refine (hw _).mono ?_; rintro e wq ⟨rfl, hq⟩; subst wq)
 exact bodyPost_ret (rowRs (by kernel_rfl) _ _ w.heap.size _ rfl (heap3 w _ _ _) _ rfl rfl) rfl ⟨rfl, bel (bel (bel (Below.refl _ _)))⟩
set_option maxHeartbeats 4000000 in
theorem rinfo41 (w : World) : Calls Tryz.prog 49 #[.int .u8 41] w fun e w' => e = .returned (.tuple #[.agg #[.string (opWd 41), .int .i64 (opWi 41), .int .u32 (opMo 41), .int .i64 (opTa 41), .int .i64 (opGi 41), .int .u8 (opKi 41)], .bool true]) ∧ Below w.heap.size w w' := by
 have hw := fun w => word_any 41 w (by decide)
 rw [show opWi 41 = 0 from rfl, show opMo 41 = 0 from rfl, show opTa 41 = 2 from rfl, show opGi 41 = 1 from rfl, show opKi 41 = 1 from rfl]
 rw [show opWd 41 = ⟨#[109, 117, 108]⟩ from rfl] at hw ⊢
 generalize wordsV = V at hw
 go_enter Tryz.func49, Tryz.ntmps49
 go_wp2_with (go_at_call 65; refine (hw _).mono ?_; rintro e wq ⟨rfl, hq⟩; subst wq)
 exact bodyPost_ret (rowRs (by kernel_rfl) _ _ w.heap.size _ rfl (heap3 w _ _ _) _ rfl rfl) rfl ⟨rfl, bel (bel (bel (Below.refl _ _)))⟩
set_option maxHeartbeats 4000000 in
theorem rinfo47 (w : World) : Calls Tryz.prog 49 #[.int .u8 47] w fun e w' => e = .returned (.tuple #[.agg #[.string (opWd 47), .int .i64 (opWi 47), .int .u32 (opMo 47), .int .i64 (opTa 47), .int .i64 (opGi 47), .int .u8 (opKi 47)], .bool true]) ∧ Below w.heap.size w w' := by
 have hw := fun w => word_any 47 w (by decide)
 rw [show opWi 47 = 0 from rfl, show opMo 47 = 0 from rfl, show opTa 47 = 2 from rfl, show opGi 47 = 1 from rfl, show opKi 47 = 1 from rfl]
 rw [show opWd 47 = ⟨#[111, 114]⟩ from rfl] at hw ⊢
 generalize wordsV = V at hw
 go_enter Tryz.func49, Tryz.ntmps49
 go_wp2_with (go_at_call 65; refine (hw _).mono ?_; rintro e wq ⟨rfl, hq⟩; subst wq)
 exact bodyPost_ret (rowRs (by kernel_rfl) _ _ w.heap.size _ rfl (heap3 w _ _ _) _ rfl rfl) rfl ⟨rfl, bel (bel (bel (Below.refl _ _)))⟩
set_option maxHeartbeats 4000000 in
theorem rinfo53 (w : World) : Calls Tryz.prog 49 #[.int .u8 53] w fun e w' => e = .returned (.tuple #[.agg #[.string (opWd 53), .int .i64 (opWi 53), .int .u32 (opMo 53), .int .i64 (opTa 53), .int .i64 (opGi 53), .int .u8 (opKi 53)], .bool true]) ∧ Below w.heap.size w w' := by
 have hw := fun w => word_any 53 w (by decide)
 rw [show opWi 53 = 0 from rfl, show opMo 53 = 0 from rfl, show opTa 53 = 1 from rfl, show opGi 53 = 1 from rfl, show opKi 53 = 1 from rfl]
 rw [show opWd 53 = ⟨#[110, 101, 103, 102]⟩ from rfl] at hw ⊢
 generalize wordsV = V at hw
 go_enter Tryz.func49, Tryz.ntmps49
 go_wp2_with (go_at_call 65; refine (hw _).mono ?_; rintro e wq ⟨rfl, hq⟩; subst wq)
 exact bodyPost_ret (rowRs (by kernel_rfl) _ _ w.heap.size _ rfl (heap3 w _ _ _) _ rfl rfl) rfl ⟨rfl, bel (bel (bel (Below.refl _ _)))⟩
set_option maxHeartbeats 4000000 in
theorem rinfo59 (w : World) : Calls Tryz.prog 49 #[.int .u8 59] w fun e w' => e = .returned (.tuple #[.agg #[.string (opWd 59), .int .i64 (opWi 59), .int .u32 (opMo 59), .int .i64 (opTa 59), .int .i64 (opGi 59), .int .u8 (opKi 59)], .bool true]) ∧ Below w.heap.size w w' := by
 have hw := fun w => word_any 59 w (by decide)
 rw [show opWi 59 = 0 from rfl, show opMo 59 = 0 from rfl, show opTa 59 = 1 from rfl, show opGi 59 = 1 from rfl, show opKi 59 = 1 from rfl]
 rw [show opWd 59 = ⟨#[99, 118, 102, 105]⟩ from rfl] at hw ⊢
 generalize wordsV = V at hw
 go_enter Tryz.func49, Tryz.ntmps49
 go_wp2_with (go_at_call 65; refine (hw _).mono ?_; rintro e wq ⟨rfl, hq⟩; subst wq)
 exact bodyPost_ret (rowRs (by kernel_rfl) _ _ w.heap.size _ rfl (heap3 w _ _ _) _ rfl rfl) rfl ⟨rfl, bel (bel (bel (Below.refl _ _)))⟩
end Go.Proofs.YtibhlcfligfhdaaGreat
