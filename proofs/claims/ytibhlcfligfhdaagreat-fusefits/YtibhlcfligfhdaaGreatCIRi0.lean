import Derived.Test.YtibhlcfligfhdaaGreatCDPl
namespace Go.Proofs.YtibhlcfligfhdaaGreat
open Go.RowKit
set_option maxRecDepth 100000
set_option maxHeartbeats 4000000 in
theorem rinfo6 (w : World) : Calls Tryz.prog 49 #[.int .u8 6] w fun e w' => e = .returned (.tuple #[.agg #[.string (opWd 6), .int .i64 (opWi 6), .int .u32 (opMo 6), .int .i64 (opTa 6), .int .i64 (opGi 6), .int .u8 (opKi 6)], .bool true]) ∧ Below w.heap.size w w' := by
 have hw := fun w => word_any 6 w (by decide)
 rw [show opWi 6 = 2 from rfl, show opMo 6 = 16383 from rfl, show opTa 6 = 0 from rfl, show opGi 6 = 0 from rfl, show opKi 6 = 3 from rfl]
 rw [show opWd 6 = ⟨#[103, 111, 116, 111]⟩ from rfl] at hw ⊢
 generalize wordsV = V at hw
 go_enter Tryz.func49, Tryz.ntmps49
 go_wp2_with (go_at_call 65; refine (hw _).mono ?_; rintro e wq ⟨rfl, hq⟩; subst wq)
 exact bodyPost_ret (rowRs (by kernel_rfl) _ _ w.heap.size _ rfl (heap3 w _ _ _) _ rfl rfl) rfl ⟨rfl, bel (bel (bel (Below.refl _ _)))⟩
set_option maxHeartbeats 4000000 in
theorem rinfo12 (w : World) : Calls Tryz.prog 49 #[.int .u8 12] w fun e w' => e = .returned (.tuple #[.agg #[.string (opWd 12), .int .i64 (opWi 12), .int .u32 (opMo 12), .int .i64 (opTa 12), .int .i64 (opGi 12), .int .u8 (opKi 12)], .bool true]) ∧ Below w.heap.size w w' := by
 have hw := fun w => word_any 12 w (by decide)
 rw [show opWi 12 = 1 from rfl, show opMo 12 = 14 from rfl, show opTa 12 = 1 from rfl, show opGi 12 = 0 from rfl, show opKi 12 = 1 from rfl]
 rw [show opWd 12 = ⟨#[97, 114, 103]⟩ from rfl] at hw ⊢
 generalize wordsV = V at hw
 go_enter Tryz.func49, Tryz.ntmps49
 go_wp2_with (go_at_call 65; refine (hw _).mono ?_; rintro e wq ⟨rfl, hq⟩; subst wq)
 exact bodyPost_ret (rowRs (by kernel_rfl) _ _ w.heap.size _ rfl (heap3 w _ _ _) _ rfl rfl) rfl ⟨rfl, bel (bel (bel (Below.refl _ _)))⟩
set_option maxHeartbeats 4000000 in
theorem rinfo18 (w : World) : Calls Tryz.prog 49 #[.int .u8 18] w fun e w' => e = .returned (.tuple #[.agg #[.string (opWd 18), .int .i64 (opWi 18), .int .u32 (opMo 18), .int .i64 (opTa 18), .int .i64 (opGi 18), .int .u8 (opKi 18)], .bool true]) ∧ Below w.heap.size w w' := by
 have hw := fun w => word_any 18 w (by decide)
 rw [show opWi 18 = 2 from rfl, show opMo 18 = 16383 from rfl, show opTa 18 = 2 from rfl, show opGi 18 = 0 from rfl, show opKi 18 = 2 from rfl]
 rw [show opWd 18 = ⟨#[103, 101, 105]⟩ from rfl] at hw ⊢
 generalize wordsV = V at hw
 go_enter Tryz.func49, Tryz.ntmps49
 go_wp2_with (go_at_call 65; refine (hw _).mono ?_; rintro e wq ⟨rfl, hq⟩; subst wq)
 exact bodyPost_ret (rowRs (by kernel_rfl) _ _ w.heap.size _ rfl (heap3 w _ _ _) _ rfl rfl) rfl ⟨rfl, bel (bel (bel (Below.refl _ _)))⟩
set_option maxHeartbeats 4000000 in
theorem rinfo24 (w : World) : Calls Tryz.prog 49 #[.int .u8 24] w fun e w' => e = .returned (.tuple #[.agg #[.string (opWd 24), .int .i64 (opWi 24), .int .u32 (opMo 24), .int .i64 (opTa 24), .int .i64 (opGi 24), .int .u8 (opKi 24)], .bool true]) ∧ Below w.heap.size w w' := by
 have hw := fun w => word_any 24 w (by decide)
 rw [show opWi 24 = 2 from rfl, show opMo 24 = 16383 from rfl, show opTa 24 = 2 from rfl, show opGi 24 = 0 from rfl, show opKi 24 = 2 from rfl]
 rw [show opWd 24 = ⟨#[110, 101, 102]⟩ from rfl] at hw ⊢
 generalize wordsV = V at hw
 go_enter Tryz.func49, Tryz.ntmps49
 go_wp2_with (go_at_call 65; refine (hw _).mono ?_; rintro e wq ⟨rfl, hq⟩; subst wq)
 exact bodyPost_ret (rowRs (by kernel_rfl) _ _ w.heap.size _ rfl (heap3 w _ _ _) _ rfl rfl) rfl ⟨rfl, bel (bel (bel (Below.refl _ _)))⟩
set_option maxHeartbeats 4000000 in
theorem rinfo30 (w : World) : Calls Tryz.prog 49 #[.int .u8 30] w fun e w' => e = .returned (.tuple #[.agg #[.string (opWd 30), .int .i64 (opWi 30), .int .u32 (opMo 30), .int .i64 (opTa 30), .int .i64 (opGi 30), .int .u8 (opKi 30)], .bool true]) ∧ Below w.heap.size w w' := by
 have hw := fun w => word_any 30 w (by decide)
 rw [show opWi 30 = 0 from rfl, show opMo 30 = 0 from rfl, show opTa 30 = 1 from rfl, show opGi 30 = 1 from rfl, show opKi 30 = 1 from rfl]
 rw [show opWd 30 = ⟨#[108, 111, 97, 100, 50]⟩ from rfl] at hw ⊢
 generalize wordsV = V at hw
 go_enter Tryz.func49, Tryz.ntmps49
 go_wp2_with (go_at_call 65; refine (hw _).mono ?_; rintro e wq ⟨rfl, hq⟩; subst wq)
 exact bodyPost_ret (rowRs (by kernel_rfl) _ _ w.heap.size _ rfl (heap3 w _ _ _) _ rfl rfl) rfl ⟨rfl, bel (bel (bel (Below.refl _ _)))⟩
set_option maxHeartbeats 4000000 in
theorem rinfo36 (w : World) : Calls Tryz.prog 49 #[.int .u8 36] w fun e w' => e = .returned (.tuple #[.agg #[.string (opWd 36), .int .i64 (opWi 36), .int .u32 (opMo 36), .int .i64 (opTa 36), .int .i64 (opGi 36), .int .u8 (opKi 36)], .bool true]) ∧ Below w.heap.size w w' := by
 have hw := fun w => word_any 36 w (by decide)
 rw [show opWi 36 = 0 from rfl, show opMo 36 = 0 from rfl, show opTa 36 = 1 from rfl, show opGi 36 = 1 from rfl, show opKi 36 = 1 from rfl]
 rw [show opWd 36 = ⟨#[115, 101, 120, 56]⟩ from rfl] at hw ⊢
 generalize wordsV = V at hw
 go_enter Tryz.func49, Tryz.ntmps49
 go_wp2_with (go_at_call 65; refine (hw _).mono ?_; rintro e wq ⟨rfl, hq⟩; subst wq)
 exact bodyPost_ret (rowRs (by kernel_rfl) _ _ w.heap.size _ rfl (heap3 w _ _ _) _ rfl rfl) rfl ⟨rfl, bel (bel (bel (Below.refl _ _)))⟩
set_option maxHeartbeats 4000000 in
theorem rinfo42 (w : World) : Calls Tryz.prog 49 #[.int .u8 42] w fun e w' => e = .returned (.tuple #[.agg #[.string (opWd 42), .int .i64 (opWi 42), .int .u32 (opMo 42), .int .i64 (opTa 42), .int .i64 (opGi 42), .int .u8 (opKi 42)], .bool true]) ∧ Below w.heap.size w w' := by
 have hw := fun w => word_any 42 w (by decide)
 rw [show opWi 42 = 0 from rfl, show opMo 42 = 0 from rfl, show opTa 42 = 2 from rfl, show opGi 42 = 1 from rfl, show opKi 42 = 1 from rfl]
 rw [show opWd 42 = ⟨#[100, 105, 118, 105]⟩ from rfl] at hw ⊢
 generalize wordsV = V at hw
 go_enter Tryz.func49, Tryz.ntmps49
 go_wp2_with (go_at_call 65; refine (hw _).mono ?_; rintro e wq ⟨rfl, hq⟩; subst wq)
 exact bodyPost_ret (rowRs (by kernel_rfl) _ _ w.heap.size _ rfl (heap3 w _ _ _) _ rfl rfl) rfl ⟨rfl, bel (bel (bel (Below.refl _ _)))⟩
set_option maxHeartbeats 4000000 in
theorem rinfo48 (w : World) : Calls Tryz.prog 49 #[.int .u8 48] w fun e w' => e = .returned (.tuple #[.agg #[.string (opWd 48), .int .i64 (opWi 48), .int .u32 (opMo 48), .int .i64 (opTa 48), .int .i64 (opGi 48), .int .u8 (opKi 48)], .bool true]) ∧ Below w.heap.size w w' := by
 have hw := fun w => word_any 48 w (by decide)
 rw [show opWi 48 = 0 from rfl, show opMo 48 = 0 from rfl, show opTa 48 = 2 from rfl, show opGi 48 = 1 from rfl, show opKi 48 = 1 from rfl]
 rw [show opWd 48 = ⟨#[120, 111, 114]⟩ from rfl] at hw ⊢
 generalize wordsV = V at hw
 go_enter Tryz.func49, Tryz.ntmps49
 go_wp2_with (go_at_call 65; refine (hw _).mono ?_; rintro e wq ⟨rfl, hq⟩; subst wq)
 exact bodyPost_ret (rowRs (by kernel_rfl) _ _ w.heap.size _ rfl (heap3 w _ _ _) _ rfl rfl) rfl ⟨rfl, bel (bel (bel (Below.refl _ _)))⟩
set_option maxHeartbeats 4000000 in
theorem rinfo54 (w : World) : Calls Tryz.prog 49 #[.int .u8 54] w fun e w' => e = .returned (.tuple #[.agg #[.string (opWd 54), .int .i64 (opWi 54), .int .u32 (opMo 54), .int .i64 (opTa 54), .int .i64 (opGi 54), .int .u8 (opKi 54)], .bool true]) ∧ Below w.heap.size w w' := by
 have hw := fun w => word_any 54 w (by decide)
 rw [show opWi 54 = 0 from rfl, show opMo 54 = 0 from rfl, show opTa 54 = 2 from rfl, show opGi 54 = 1 from rfl, show opKi 54 = 1 from rfl]
 rw [show opWd 54 = ⟨#[97, 100, 100, 102]⟩ from rfl] at hw ⊢
 generalize wordsV = V at hw
 go_enter Tryz.func49, Tryz.ntmps49
 go_wp2_with (go_at_call 65; refine (hw _).mono ?_; rintro e wq ⟨rfl, hq⟩; subst wq)
 exact bodyPost_ret (rowRs (by kernel_rfl) _ _ w.heap.size _ rfl (heap3 w _ _ _) _ rfl rfl) rfl ⟨rfl, bel (bel (bel (Below.refl _ _)))⟩
end Go.Proofs.YtibhlcfligfhdaaGreat
