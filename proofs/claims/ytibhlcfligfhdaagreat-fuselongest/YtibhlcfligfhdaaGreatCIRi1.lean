import Derived.Test.YtibhlcfligfhdaaGreatCLWd8
namespace Go.Proofs.YtibhlcfligfhdaaGreat
set_option maxHeartbeats 4000000
open Go.RowKit
set_option maxRecDepth 100000
theorem rinfo1 (w:World):Calls Tryz.prog 49 #[.int .u8 1] w fun e w'=>e=.returned (.tuple #[.agg #[.string (opWd 1),.int .i64 (opWi 1),.int .u32 (opMo 1),.int .i64 (opTa 1),.int .i64 (opGi 1),.int .u8 (opKi 1)],.bool true])∧Below w.heap.size w w':=by
 have hw:=fun w=>word_any 1 w (by decide)
 rw [show opWi 1=0 from rfl,show opMo 1=0 from rfl,show opTa 1=0 from rfl,show opGi 1=0 from rfl,show opKi 1=1 from rfl]
 rw [show opWd 1=⟨#[110,111,112]⟩ from rfl] at hw ⊢
 generalize wordsV=V at hw
 go_enter Tryz.func49,Tryz.ntmps49
 go_wp2_with (go_at_call 65;refine (hw _).mono ?_;rintro e wq ⟨rfl,hq⟩;subst wq)
 exact bodyPost_ret (rowRs (by kernel_rfl) _ _ w.heap.size _ rfl (heap3 w _ _ _) _ rfl rfl) rfl ⟨rfl,bel (bel (bel (Below.refl _ _)))⟩
theorem rinfo7 (w:World):Calls Tryz.prog 49 #[.int .u8 7] w fun e w'=>e=.returned (.tuple #[.agg #[.string (opWd 7),.int .i64 (opWi 7),.int .u32 (opMo 7),.int .i64 (opTa 7),.int .i64 (opGi 7),.int .u8 (opKi 7)],.bool true])∧Below w.heap.size w w':=by
 have hw:=fun w=>word_any 7 w (by decide)
 rw [show opWi 7=0 from rfl,show opMo 7=0 from rfl,show opTa 7=1 from rfl,show opGi 7=0 from rfl,show opKi 7=4 from rfl]
 rw [show opWd 7=⟨#[106,117,109,112]⟩ from rfl] at hw ⊢
 generalize wordsV=V at hw
 go_enter Tryz.func49,Tryz.ntmps49
 go_wp2_with (go_at_call 65;refine (hw _).mono ?_;rintro e wq ⟨rfl,hq⟩;subst wq)
 exact bodyPost_ret (rowRs (by kernel_rfl) _ _ w.heap.size _ rfl (heap3 w _ _ _) _ rfl rfl) rfl ⟨rfl,bel (bel (bel (Below.refl _ _)))⟩
theorem rinfo13 (w:World):Calls Tryz.prog 49 #[.int .u8 13] w fun e w'=>e=.returned (.tuple #[.agg #[.string (opWd 13),.int .i64 (opWi 13),.int .u32 (opMo 13),.int .i64 (opTa 13),.int .i64 (opGi 13),.int .u8 (opKi 13)],.bool true])∧Below w.heap.size w w':=by
 have hw:=fun w=>word_any 13 w (by decide)
 rw [show opWi 13=2 from rfl,show opMo 13=16383 from rfl,show opTa 13=2 from rfl,show opGi 13=0 from rfl,show opKi 13=2 from rfl]
 rw [show opWd 13=⟨#[101,113]⟩ from rfl] at hw ⊢
 generalize wordsV=V at hw
 go_enter Tryz.func49,Tryz.ntmps49
 go_wp2_with (go_at_call 65;refine (hw _).mono ?_;rintro e wq ⟨rfl,hq⟩;subst wq)
 exact bodyPost_ret (rowRs (by kernel_rfl) _ _ w.heap.size _ rfl (heap3 w _ _ _) _ rfl rfl) rfl ⟨rfl,bel (bel (bel (Below.refl _ _)))⟩
theorem rinfo19 (w:World):Calls Tryz.prog 49 #[.int .u8 19] w fun e w'=>e=.returned (.tuple #[.agg #[.string (opWd 19),.int .i64 (opWi 19),.int .u32 (opMo 19),.int .i64 (opTa 19),.int .i64 (opGi 19),.int .u8 (opKi 19)],.bool true])∧Below w.heap.size w w':=by
 have hw:=fun w=>word_any 19 w (by decide)
 rw [show opWi 19=2 from rfl,show opMo 19=16383 from rfl,show opTa 19=2 from rfl,show opGi 19=0 from rfl,show opKi 19=2 from rfl]
 rw [show opWd 19=⟨#[108,116,117]⟩ from rfl] at hw ⊢
 generalize wordsV=V at hw
 go_enter Tryz.func49,Tryz.ntmps49
 go_wp2_with (go_at_call 65;refine (hw _).mono ?_;rintro e wq ⟨rfl,hq⟩;subst wq)
 exact bodyPost_ret (rowRs (by kernel_rfl) _ _ w.heap.size _ rfl (heap3 w _ _ _) _ rfl rfl) rfl ⟨rfl,bel (bel (bel (Below.refl _ _)))⟩
theorem rinfo25 (w:World):Calls Tryz.prog 49 #[.int .u8 25] w fun e w'=>e=.returned (.tuple #[.agg #[.string (opWd 25),.int .i64 (opWi 25),.int .u32 (opMo 25),.int .i64 (opTa 25),.int .i64 (opGi 25),.int .u8 (opKi 25)],.bool true])∧Below w.heap.size w w':=by
 have hw:=fun w=>word_any 25 w (by decide)
 rw [show opWi 25=2 from rfl,show opMo 25=16383 from rfl,show opTa 25=2 from rfl,show opGi 25=0 from rfl,show opKi 25=2 from rfl]
 rw [show opWd 25=⟨#[108,116,102]⟩ from rfl] at hw ⊢
 generalize wordsV=V at hw
 go_enter Tryz.func49,Tryz.ntmps49
 go_wp2_with (go_at_call 65;refine (hw _).mono ?_;rintro e wq ⟨rfl,hq⟩;subst wq)
 exact bodyPost_ret (rowRs (by kernel_rfl) _ _ w.heap.size _ rfl (heap3 w _ _ _) _ rfl rfl) rfl ⟨rfl,bel (bel (bel (Below.refl _ _)))⟩
theorem rinfo31 (w:World):Calls Tryz.prog 49 #[.int .u8 31] w fun e w'=>e=.returned (.tuple #[.agg #[.string (opWd 31),.int .i64 (opWi 31),.int .u32 (opMo 31),.int .i64 (opTa 31),.int .i64 (opGi 31),.int .u8 (opKi 31)],.bool true])∧Below w.heap.size w w':=by
 have hw:=fun w=>word_any 31 w (by decide)
 rw [show opWi 31=0 from rfl,show opMo 31=0 from rfl,show opTa 31=1 from rfl,show opGi 31=1 from rfl,show opKi 31=1 from rfl]
 rw [show opWd 31=⟨#[108,111,97,100,52]⟩ from rfl] at hw ⊢
 generalize wordsV=V at hw
 go_enter Tryz.func49,Tryz.ntmps49
 go_wp2_with (go_at_call 65;refine (hw _).mono ?_;rintro e wq ⟨rfl,hq⟩;subst wq)
 exact bodyPost_ret (rowRs (by kernel_rfl) _ _ w.heap.size _ rfl (heap3 w _ _ _) _ rfl rfl) rfl ⟨rfl,bel (bel (bel (Below.refl _ _)))⟩
theorem rinfo37 (w:World):Calls Tryz.prog 49 #[.int .u8 37] w fun e w'=>e=.returned (.tuple #[.agg #[.string (opWd 37),.int .i64 (opWi 37),.int .u32 (opMo 37),.int .i64 (opTa 37),.int .i64 (opGi 37),.int .u8 (opKi 37)],.bool true])∧Below w.heap.size w w':=by
 have hw:=fun w=>word_any 37 w (by decide)
 rw [show opWi 37=0 from rfl,show opMo 37=0 from rfl,show opTa 37=1 from rfl,show opGi 37=1 from rfl,show opKi 37=1 from rfl]
 rw [show opWd 37=⟨#[115,101,120,49,54]⟩ from rfl] at hw ⊢
 generalize wordsV=V at hw
 go_enter Tryz.func49,Tryz.ntmps49
 go_wp2_with (go_at_call 65;refine (hw _).mono ?_;rintro e wq ⟨rfl,hq⟩;subst wq)
 exact bodyPost_ret (rowRs (by kernel_rfl) _ _ w.heap.size _ rfl (heap3 w _ _ _) _ rfl rfl) rfl ⟨rfl,bel (bel (bel (Below.refl _ _)))⟩
theorem rinfo43 (w:World):Calls Tryz.prog 49 #[.int .u8 43] w fun e w'=>e=.returned (.tuple #[.agg #[.string (opWd 43),.int .i64 (opWi 43),.int .u32 (opMo 43),.int .i64 (opTa 43),.int .i64 (opGi 43),.int .u8 (opKi 43)],.bool true])∧Below w.heap.size w w':=by
 have hw:=fun w=>word_any 43 w (by decide)
 rw [show opWi 43=0 from rfl,show opMo 43=0 from rfl,show opTa 43=2 from rfl,show opGi 43=1 from rfl,show opKi 43=1 from rfl]
 rw [show opWd 43=⟨#[100,105,118,117]⟩ from rfl] at hw ⊢
 generalize wordsV=V at hw
 go_enter Tryz.func49,Tryz.ntmps49
 go_wp2_with (go_at_call 65;refine (hw _).mono ?_;rintro e wq ⟨rfl,hq⟩;subst wq)
 exact bodyPost_ret (rowRs (by kernel_rfl) _ _ w.heap.size _ rfl (heap3 w _ _ _) _ rfl rfl) rfl ⟨rfl,bel (bel (bel (Below.refl _ _)))⟩
theorem rinfo49 (w:World):Calls Tryz.prog 49 #[.int .u8 49] w fun e w'=>e=.returned (.tuple #[.agg #[.string (opWd 49),.int .i64 (opWi 49),.int .u32 (opMo 49),.int .i64 (opTa 49),.int .i64 (opGi 49),.int .u8 (opKi 49)],.bool true])∧Below w.heap.size w w':=by
 have hw:=fun w=>word_any 49 w (by decide)
 rw [show opWi 49=0 from rfl,show opMo 49=0 from rfl,show opTa 49=1 from rfl,show opGi 49=1 from rfl,show opKi 49=1 from rfl]
 rw [show opWd 49=⟨#[110,111,116]⟩ from rfl] at hw ⊢
 generalize wordsV=V at hw
 go_enter Tryz.func49,Tryz.ntmps49
 go_wp2_with (go_at_call 65;refine (hw _).mono ?_;rintro e wq ⟨rfl,hq⟩;subst wq)
 exact bodyPost_ret (rowRs (by kernel_rfl) _ _ w.heap.size _ rfl (heap3 w _ _ _) _ rfl rfl) rfl ⟨rfl,bel (bel (bel (Below.refl _ _)))⟩
theorem rinfo55 (w:World):Calls Tryz.prog 49 #[.int .u8 55] w fun e w'=>e=.returned (.tuple #[.agg #[.string (opWd 55),.int .i64 (opWi 55),.int .u32 (opMo 55),.int .i64 (opTa 55),.int .i64 (opGi 55),.int .u8 (opKi 55)],.bool true])∧Below w.heap.size w w':=by
 have hw:=fun w=>word_any 55 w (by decide)
 rw [show opWi 55=0 from rfl,show opMo 55=0 from rfl,show opTa 55=2 from rfl,show opGi 55=1 from rfl,show opKi 55=1 from rfl]
 rw [show opWd 55=⟨#[115,117,98,102]⟩ from rfl] at hw ⊢
 generalize wordsV=V at hw
 go_enter Tryz.func49,Tryz.ntmps49
 go_wp2_with (go_at_call 65;refine (hw _).mono ?_;rintro e wq ⟨rfl,hq⟩;subst wq)
 exact bodyPost_ret (rowRs (by kernel_rfl) _ _ w.heap.size _ rfl (heap3 w _ _ _) _ rfl rfl) rfl ⟨rfl,bel (bel (bel (Below.refl _ _)))⟩
end Go.Proofs.YtibhlcfligfhdaaGreat
