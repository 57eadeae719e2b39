import Derived.Test.YtibhlcfligfhdaaGreatCLWd8
namespace Go.Proofs.YtibhlcfligfhdaaGreat
set_option maxHeartbeats 4000000
open Go.RowKit
set_option maxRecDepth 100000
theorem rinfo2 (w:World):Calls Tryz.prog 49 #[.int .u8 2] w fun e w'=>e=.returned (.tuple #[.agg #[.string (opWd 2),.int .i64 (opWi 2),.int .u32 (opMo 2),.int .i64 (opTa 2),.int .i64 (opGi 2),.int .u8 (opKi 2)],.bool true])∧Below w.heap.size w w':=by
 have hw:=fun w=>word_any 2 w (by decide)
 rw [show opWi 2=0 from rfl,show opMo 2=0 from rfl,show opTa 2=0 from rfl,show opGi 2=0 from rfl,show opKi 2=8 from rfl]
 rw [show opWd 2=⟨#[98,114,101,97,107]⟩ from rfl] at hw ⊢
 generalize wordsV=V at hw
 go_enter Tryz.func49,Tryz.ntmps49
 go_wp2_with (go_at_call 65;refine (hw _).mono ?_;rintro e wq ⟨rfl,hq⟩;subst wq)
 exact bodyPost_ret (rowRs (by kernel_rfl) _ _ w.heap.size _ rfl (heap3 w _ _ _) _ rfl rfl) rfl ⟨rfl,bel (bel (bel (Below.refl _ _)))⟩
theorem rinfo8 (w:World):Calls Tryz.prog 49 #[.int .u8 8] w fun e w'=>e=.returned (.tuple #[.agg #[.string (opWd 8),.int .i64 (opWi 8),.int .u32 (opMo 8),.int .i64 (opTa 8),.int .i64 (opGi 8),.int .u8 (opKi 8)],.bool true])∧Below w.heap.size w w':=by
 have hw:=fun w=>word_any 8 w (by decide)
 rw [show opWi 8=4 from rfl,show opMo 8=4294967295 from rfl,show opTa 8=0 from rfl,show opGi 8=1 from rfl,show opKi 8=1 from rfl]
 rw [show opWd 8=⟨#[99,111,110,115,116]⟩ from rfl] at hw ⊢
 generalize wordsV=V at hw
 go_enter Tryz.func49,Tryz.ntmps49
 go_wp2_with (go_at_call 65;refine (hw _).mono ?_;rintro e wq ⟨rfl,hq⟩;subst wq)
 exact bodyPost_ret (rowRs (by kernel_rfl) _ _ w.heap.size _ rfl (heap3 w _ _ _) _ rfl rfl) rfl ⟨rfl,bel (bel (bel (Below.refl _ _)))⟩
theorem rinfo14 (w:World):Calls Tryz.prog 49 #[.int .u8 14] w fun e w'=>e=.returned (.tuple #[.agg #[.string (opWd 14),.int .i64 (opWi 14),.int .u32 (opMo 14),.int .i64 (opTa 14),.int .i64 (opGi 14),.int .u8 (opKi 14)],.bool true])∧Below w.heap.size w w':=by
 have hw:=fun w=>word_any 14 w (by decide)
 rw [show opWi 14=2 from rfl,show opMo 14=16383 from rfl,show opTa 14=2 from rfl,show opGi 14=0 from rfl,show opKi 14=2 from rfl]
 rw [show opWd 14=⟨#[110,101]⟩ from rfl] at hw ⊢
 generalize wordsV=V at hw
 go_enter Tryz.func49,Tryz.ntmps49
 go_wp2_with (go_at_call 65;refine (hw _).mono ?_;rintro e wq ⟨rfl,hq⟩;subst wq)
 exact bodyPost_ret (rowRs (by kernel_rfl) _ _ w.heap.size _ rfl (heap3 w _ _ _) _ rfl rfl) rfl ⟨rfl,bel (bel (bel (Below.refl _ _)))⟩
theorem rinfo20 (w:World):Calls Tryz.prog 49 #[.int .u8 20] w fun e w'=>e=.returned (.tuple #[.agg #[.string (opWd 20),.int .i64 (opWi 20),.int .u32 (opMo 20),.int .i64 (opTa 20),.int .i64 (opGi 20),.int .u8 (opKi 20)],.bool true])∧Below w.heap.size w w':=by
 have hw:=fun w=>word_any 20 w (by decide)
 rw [show opWi 20=2 from rfl,show opMo 20=16383 from rfl,show opTa 20=2 from rfl,show opGi 20=0 from rfl,show opKi 20=2 from rfl]
 rw [show opWd 20=⟨#[108,101,117]⟩ from rfl] at hw ⊢
 generalize wordsV=V at hw
 go_enter Tryz.func49,Tryz.ntmps49
 go_wp2_with (go_at_call 65;refine (hw _).mono ?_;rintro e wq ⟨rfl,hq⟩;subst wq)
 exact bodyPost_ret (rowRs (by kernel_rfl) _ _ w.heap.size _ rfl (heap3 w _ _ _) _ rfl rfl) rfl ⟨rfl,bel (bel (bel (Below.refl _ _)))⟩
theorem rinfo26 (w:World):Calls Tryz.prog 49 #[.int .u8 26] w fun e w'=>e=.returned (.tuple #[.agg #[.string (opWd 26),.int .i64 (opWi 26),.int .u32 (opMo 26),.int .i64 (opTa 26),.int .i64 (opGi 26),.int .u8 (opKi 26)],.bool true])∧Below w.heap.size w w':=by
 have hw:=fun w=>word_any 26 w (by decide)
 rw [show opWi 26=2 from rfl,show opMo 26=16383 from rfl,show opTa 26=2 from rfl,show opGi 26=0 from rfl,show opKi 26=2 from rfl]
 rw [show opWd 26=⟨#[108,101,102]⟩ from rfl] at hw ⊢
 generalize wordsV=V at hw
 go_enter Tryz.func49,Tryz.ntmps49
 go_wp2_with (go_at_call 65;refine (hw _).mono ?_;rintro e wq ⟨rfl,hq⟩;subst wq)
 exact bodyPost_ret (rowRs (by kernel_rfl) _ _ w.heap.size _ rfl (heap3 w _ _ _) _ rfl rfl) rfl ⟨rfl,bel (bel (bel (Below.refl _ _)))⟩
theorem rinfo32 (w:World):Calls Tryz.prog 49 #[.int .u8 32] w fun e w'=>e=.returned (.tuple #[.agg #[.string (opWd 32),.int .i64 (opWi 32),.int .u32 (opMo 32),.int .i64 (opTa 32),.int .i64 (opGi 32),.int .u8 (opKi 32)],.bool true])∧Below w.heap.size w w':=by
 have hw:=fun w=>word_any 32 w (by decide)
 rw [show opWi 32=0 from rfl,show opMo 32=0 from rfl,show opTa 32=2 from rfl,show opGi 32=0 from rfl,show opKi 32=1 from rfl]
 rw [show opWd 32=⟨#[115,116,111,114,101,49]⟩ from rfl] at hw ⊢
 generalize wordsV=V at hw
 go_enter Tryz.func49,Tryz.ntmps49
 go_wp2_with (go_at_call 65;refine (hw _).mono ?_;rintro e wq ⟨rfl,hq⟩;subst wq)
 exact bodyPost_ret (rowRs (by kernel_rfl) _ _ w.heap.size _ rfl (heap3 w _ _ _) _ rfl rfl) rfl ⟨rfl,bel (bel (bel (Below.refl _ _)))⟩
theorem rinfo38 (w:World):Calls Tryz.prog 49 #[.int .u8 38] w fun e w'=>e=.returned (.tuple #[.agg #[.string (opWd 38),.int .i64 (opWi 38),.int .u32 (opMo 38),.int .i64 (opTa 38),.int .i64 (opGi 38),.int .u8 (opKi 38)],.bool true])∧Below w.heap.size w w':=by
 have hw:=fun w=>word_any 38 w (by decide)
 rw [show opWi 38=0 from rfl,show opMo 38=0 from rfl,show opTa 38=1 from rfl,show opGi 38=1 from rfl,show opKi 38=1 from rfl]
 rw [show opWd 38=⟨#[110,101,103]⟩ from rfl] at hw ⊢
 generalize wordsV=V at hw
 go_enter Tryz.func49,Tryz.ntmps49
 go_wp2_with (go_at_call 65;refine (hw _).mono ?_;rintro e wq ⟨rfl,hq⟩;subst wq)
 exact bodyPost_ret (rowRs (by kernel_rfl) _ _ w.heap.size _ rfl (heap3 w _ _ _) _ rfl rfl) rfl ⟨rfl,bel (bel (bel (Below.refl _ _)))⟩
theorem rinfo44 (w:World):Calls Tryz.prog 49 #[.int .u8 44] w fun e w'=>e=.returned (.tuple #[.agg #[.string (opWd 44),.int .i64 (opWi 44),.int .u32 (opMo 44),.int .i64 (opTa 44),.int .i64 (opGi 44),.int .u8 (opKi 44)],.bool true])∧Below w.heap.size w w':=by
 have hw:=fun w=>word_any 44 w (by decide)
 rw [show opWi 44=0 from rfl,show opMo 44=0 from rfl,show opTa 44=2 from rfl,show opGi 44=1 from rfl,show opKi 44=1 from rfl]
 rw [show opWd 44=⟨#[109,111,100,105]⟩ from rfl] at hw ⊢
 generalize wordsV=V at hw
 go_enter Tryz.func49,Tryz.ntmps49
 go_wp2_with (go_at_call 65;refine (hw _).mono ?_;rintro e wq ⟨rfl,hq⟩;subst wq)
 exact bodyPost_ret (rowRs (by kernel_rfl) _ _ w.heap.size _ rfl (heap3 w _ _ _) _ rfl rfl) rfl ⟨rfl,bel (bel (bel (Below.refl _ _)))⟩
theorem rinfo50 (w:World):Calls Tryz.prog 49 #[.int .u8 50] w fun e w'=>e=.returned (.tuple #[.agg #[.string (opWd 50),.int .i64 (opWi 50),.int .u32 (opMo 50),.int .i64 (opTa 50),.int .i64 (opGi 50),.int .u8 (opKi 50)],.bool true])∧Below w.heap.size w w':=by
 have hw:=fun w=>word_any 50 w (by decide)
 rw [show opWi 50=0 from rfl,show opMo 50=0 from rfl,show opTa 50=2 from rfl,show opGi 50=1 from rfl,show opKi 50=1 from rfl]
 rw [show opWd 50=⟨#[115,104,108]⟩ from rfl] at hw ⊢
 generalize wordsV=V at hw
 go_enter Tryz.func49,Tryz.ntmps49
 go_wp2_with (go_at_call 65;refine (hw _).mono ?_;rintro e wq ⟨rfl,hq⟩;subst wq)
 exact bodyPost_ret (rowRs (by kernel_rfl) _ _ w.heap.size _ rfl (heap3 w _ _ _) _ rfl rfl) rfl ⟨rfl,bel (bel (bel (Below.refl _ _)))⟩
theorem rinfo56 (w:World):Calls Tryz.prog 49 #[.int .u8 56] w fun e w'=>e=.returned (.tuple #[.agg #[.string (opWd 56),.int .i64 (opWi 56),.int .u32 (opMo 56),.int .i64 (opTa 56),.int .i64 (opGi 56),.int .u8 (opKi 56)],.bool true])∧Below w.heap.size w w':=by
 have hw:=fun w=>word_any 56 w (by decide)
 rw [show opWi 56=0 from rfl,show opMo 56=0 from rfl,show opTa 56=2 from rfl,show opGi 56=1 from rfl,show opKi 56=1 from rfl]
 rw [show opWd 56=⟨#[109,117,108,102]⟩ from rfl] at hw ⊢
 generalize wordsV=V at hw
 go_enter Tryz.func49,Tryz.ntmps49
 go_wp2_with (go_at_call 65;refine (hw _).mono ?_;rintro e wq ⟨rfl,hq⟩;subst wq)
 exact bodyPost_ret (rowRs (by kernel_rfl) _ _ w.heap.size _ rfl (heap3 w _ _ _) _ rfl rfl) rfl ⟨rfl,bel (bel (bel (Below.refl _ _)))⟩
end Go.Proofs.YtibhlcfligfhdaaGreat
