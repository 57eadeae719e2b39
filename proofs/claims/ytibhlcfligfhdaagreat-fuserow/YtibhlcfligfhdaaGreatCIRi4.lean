import Derived.Test.YtibhlcfligfhdaaGreatCLWd8
namespace Go.Proofs.YtibhlcfligfhdaaGreat
set_option maxHeartbeats 4000000
open Go.RowKit
set_option maxRecDepth 100000
theorem rinfo4 (w:World):Calls Tryz.prog 49 #[.int .u8 4] w fun e w'=>e=.returned (.tuple #[.agg #[.string (opWd 4),.int .i64 (opWi 4),.int .u32 (opMo 4),.int .i64 (opTa 4),.int .i64 (opGi 4),.int .u8 (opKi 4)],.bool true])∧Below w.heap.size w w':=by
 have hw:=fun w=>word_any 4 w (by decide)
 rw [show opWi 4=2 from rfl,show opMo 4=65535 from rfl,show opTa 4=1 from rfl,show opGi 4=0 from rfl,show opKi 4=7 from rfl]
 rw [show opWd 4=⟨#[108,101,97,118,101]⟩ from rfl] at hw ⊢
 generalize wordsV=V at hw
 go_enter Tryz.func49,Tryz.ntmps49
 go_wp2_with (go_at_call 65;refine (hw _).mono ?_;rintro e wq ⟨rfl,hq⟩;subst wq)
 exact bodyPost_ret (rowRs (by kernel_rfl) _ _ w.heap.size _ rfl (heap3 w _ _ _) _ rfl rfl) rfl ⟨rfl,bel (bel (bel (Below.refl _ _)))⟩
theorem rinfo10 (w:World):Calls Tryz.prog 49 #[.int .u8 10] w fun e w'=>e=.returned (.tuple #[.agg #[.string (opWd 10),.int .i64 (opWi 10),.int .u32 (opMo 10),.int .i64 (opTa 10),.int .i64 (opGi 10),.int .u8 (opKi 10)],.bool true])∧Below w.heap.size w w':=by
 have hw:=fun w=>word_any 10 w (by decide)
 rw [show opWi 10=0 from rfl,show opMo 10=0 from rfl,show opTa 10=1 from rfl,show opGi 10=0 from rfl,show opKi 10=1 from rfl]
 rw [show opWd 10=⟨#[112,111,112]⟩ from rfl] at hw ⊢
 generalize wordsV=V at hw
 go_enter Tryz.func49,Tryz.ntmps49
 go_wp2_with (go_at_call 65;refine (hw _).mono ?_;rintro e wq ⟨rfl,hq⟩;subst wq)
 exact bodyPost_ret (rowRs (by kernel_rfl) _ _ w.heap.size _ rfl (heap3 w _ _ _) _ rfl rfl) rfl ⟨rfl,bel (bel (bel (Below.refl _ _)))⟩
theorem rinfo16 (w:World):Calls Tryz.prog 49 #[.int .u8 16] w fun e w'=>e=.returned (.tuple #[.agg #[.string (opWd 16),.int .i64 (opWi 16),.int .u32 (opMo 16),.int .i64 (opTa 16),.int .i64 (opGi 16),.int .u8 (opKi 16)],.bool true])∧Below w.heap.size w w':=by
 have hw:=fun w=>word_any 16 w (by decide)
 rw [show opWi 16=2 from rfl,show opMo 16=16383 from rfl,show opTa 16=2 from rfl,show opGi 16=0 from rfl,show opKi 16=2 from rfl]
 rw [show opWd 16=⟨#[108,101,105]⟩ from rfl] at hw ⊢
 generalize wordsV=V at hw
 go_enter Tryz.func49,Tryz.ntmps49
 go_wp2_with (go_at_call 65;refine (hw _).mono ?_;rintro e wq ⟨rfl,hq⟩;subst wq)
 exact bodyPost_ret (rowRs (by kernel_rfl) _ _ w.heap.size _ rfl (heap3 w _ _ _) _ rfl rfl) rfl ⟨rfl,bel (bel (bel (Below.refl _ _)))⟩
theorem rinfo22 (w:World):Calls Tryz.prog 49 #[.int .u8 22] w fun e w'=>e=.returned (.tuple #[.agg #[.string (opWd 22),.int .i64 (opWi 22),.int .u32 (opMo 22),.int .i64 (opTa 22),.int .i64 (opGi 22),.int .u8 (opKi 22)],.bool true])∧Below w.heap.size w w':=by
 have hw:=fun w=>word_any 22 w (by decide)
 rw [show opWi 22=2 from rfl,show opMo 22=16383 from rfl,show opTa 22=2 from rfl,show opGi 22=0 from rfl,show opKi 22=2 from rfl]
 rw [show opWd 22=⟨#[103,101,117]⟩ from rfl] at hw ⊢
 generalize wordsV=V at hw
 go_enter Tryz.func49,Tryz.ntmps49
 go_wp2_with (go_at_call 65;refine (hw _).mono ?_;rintro e wq ⟨rfl,hq⟩;subst wq)
 exact bodyPost_ret (rowRs (by kernel_rfl) _ _ w.heap.size _ rfl (heap3 w _ _ _) _ rfl rfl) rfl ⟨rfl,bel (bel (bel (Below.refl _ _)))⟩
theorem rinfo28 (w:World):Calls Tryz.prog 49 #[.int .u8 28] w fun e w'=>e=.returned (.tuple #[.agg #[.string (opWd 28),.int .i64 (opWi 28),.int .u32 (opMo 28),.int .i64 (opTa 28),.int .i64 (opGi 28),.int .u8 (opKi 28)],.bool true])∧Below w.heap.size w w':=by
 have hw:=fun w=>word_any 28 w (by decide)
 rw [show opWi 28=2 from rfl,show opMo 28=16383 from rfl,show opTa 28=2 from rfl,show opGi 28=0 from rfl,show opKi 28=2 from rfl]
 rw [show opWd 28=⟨#[103,101,102]⟩ from rfl] at hw ⊢
 generalize wordsV=V at hw
 go_enter Tryz.func49,Tryz.ntmps49
 go_wp2_with (go_at_call 65;refine (hw _).mono ?_;rintro e wq ⟨rfl,hq⟩;subst wq)
 exact bodyPost_ret (rowRs (by kernel_rfl) _ _ w.heap.size _ rfl (heap3 w _ _ _) _ rfl rfl) rfl ⟨rfl,bel (bel (bel (Below.refl _ _)))⟩
theorem rinfo34 (w:World):Calls Tryz.prog 49 #[.int .u8 34] w fun e w'=>e=.returned (.tuple #[.agg #[.string (opWd 34),.int .i64 (opWi 34),.int .u32 (opMo 34),.int .i64 (opTa 34),.int .i64 (opGi 34),.int .u8 (opKi 34)],.bool true])∧Below w.heap.size w w':=by
 have hw:=fun w=>word_any 34 w (by decide)
 rw [show opWi 34=0 from rfl,show opMo 34=0 from rfl,show opTa 34=2 from rfl,show opGi 34=0 from rfl,show opKi 34=1 from rfl]
 rw [show opWd 34=⟨#[115,116,111,114,101,52]⟩ from rfl] at hw ⊢
 generalize wordsV=V at hw
 go_enter Tryz.func49,Tryz.ntmps49
 go_wp2_with (go_at_call 65;refine (hw _).mono ?_;rintro e wq ⟨rfl,hq⟩;subst wq)
 exact bodyPost_ret (rowRs (by kernel_rfl) _ _ w.heap.size _ rfl (heap3 w _ _ _) _ rfl rfl) rfl ⟨rfl,bel (bel (bel (Below.refl _ _)))⟩
theorem rinfo40 (w:World):Calls Tryz.prog 49 #[.int .u8 40] w fun e w'=>e=.returned (.tuple #[.agg #[.string (opWd 40),.int .i64 (opWi 40),.int .u32 (opMo 40),.int .i64 (opTa 40),.int .i64 (opGi 40),.int .u8 (opKi 40)],.bool true])∧Below w.heap.size w w':=by
 have hw:=fun w=>word_any 40 w (by decide)
 rw [show opWi 40=0 from rfl,show opMo 40=0 from rfl,show opTa 40=2 from rfl,show opGi 40=1 from rfl,show opKi 40=1 from rfl]
 rw [show opWd 40=⟨#[115,117,98]⟩ from rfl] at hw ⊢
 generalize wordsV=V at hw
 go_enter Tryz.func49,Tryz.ntmps49
 go_wp2_with (go_at_call 65;refine (hw _).mono ?_;rintro e wq ⟨rfl,hq⟩;subst wq)
 exact bodyPost_ret (rowRs (by kernel_rfl) _ _ w.heap.size _ rfl (heap3 w _ _ _) _ rfl rfl) rfl ⟨rfl,bel (bel (bel (Below.refl _ _)))⟩
theorem rinfo46 (w:World):Calls Tryz.prog 49 #[.int .u8 46] w fun e w'=>e=.returned (.tuple #[.agg #[.string (opWd 46),.int .i64 (opWi 46),.int .u32 (opMo 46),.int .i64 (opTa 46),.int .i64 (opGi 46),.int .u8 (opKi 46)],.bool true])∧Below w.heap.size w w':=by
 have hw:=fun w=>word_any 46 w (by decide)
 rw [show opWi 46=0 from rfl,show opMo 46=0 from rfl,show opTa 46=2 from rfl,show opGi 46=1 from rfl,show opKi 46=1 from rfl]
 rw [show opWd 46=⟨#[97,110,100]⟩ from rfl] at hw ⊢
 generalize wordsV=V at hw
 go_enter Tryz.func49,Tryz.ntmps49
 go_wp2_with (go_at_call 65;refine (hw _).mono ?_;rintro e wq ⟨rfl,hq⟩;subst wq)
 exact bodyPost_ret (rowRs (by kernel_rfl) _ _ w.heap.size _ rfl (heap3 w _ _ _) _ rfl rfl) rfl ⟨rfl,bel (bel (bel (Below.refl _ _)))⟩
theorem rinfo52 (w:World):Calls Tryz.prog 49 #[.int .u8 52] w fun e w'=>e=.returned (.tuple #[.agg #[.string (opWd 52),.int .i64 (opWi 52),.int .u32 (opMo 52),.int .i64 (opTa 52),.int .i64 (opGi 52),.int .u8 (opKi 52)],.bool true])∧Below w.heap.size w w':=by
 have hw:=fun w=>word_any 52 w (by decide)
 rw [show opWi 52=0 from rfl,show opMo 52=0 from rfl,show opTa 52=2 from rfl,show opGi 52=1 from rfl,show opKi 52=1 from rfl]
 rw [show opWd 52=⟨#[115,104,114,117]⟩ from rfl] at hw ⊢
 generalize wordsV=V at hw
 go_enter Tryz.func49,Tryz.ntmps49
 go_wp2_with (go_at_call 65;refine (hw _).mono ?_;rintro e wq ⟨rfl,hq⟩;subst wq)
 exact bodyPost_ret (rowRs (by kernel_rfl) _ _ w.heap.size _ rfl (heap3 w _ _ _) _ rfl rfl) rfl ⟨rfl,bel (bel (bel (Below.refl _ _)))⟩
theorem rinfo58 (w:World):Calls Tryz.prog 49 #[.int .u8 58] w fun e w'=>e=.returned (.tuple #[.agg #[.string (opWd 58),.int .i64 (opWi 58),.int .u32 (opMo 58),.int .i64 (opTa 58),.int .i64 (opGi 58),.int .u8 (opKi 58)],.bool true])∧Below w.heap.size w w':=by
 have hw:=fun w=>word_any 58 w (by decide)
 rw [show opWi 58=0 from rfl,show opMo 58=0 from rfl,show opTa 58=1 from rfl,show opGi 58=1 from rfl,show opKi 58=1 from rfl]
 rw [show opWd 58=⟨#[99,118,105,102]⟩ from rfl] at hw ⊢
 generalize wordsV=V at hw
 go_enter Tryz.func49,Tryz.ntmps49
 go_wp2_with (go_at_call 65;refine (hw _).mono ?_;rintro e wq ⟨rfl,hq⟩;subst wq)
 exact bodyPost_ret (rowRs (by kernel_rfl) _ _ w.heap.size _ rfl (heap3 w _ _ _) _ rfl rfl) rfl ⟨rfl,bel (bel (bel (Below.refl _ _)))⟩
end Go.Proofs.YtibhlcfligfhdaaGreat
