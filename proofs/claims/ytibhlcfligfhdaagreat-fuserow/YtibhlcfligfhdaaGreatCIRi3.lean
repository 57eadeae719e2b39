import Derived.Test.YtibhlcfligfhdaaGreatCLWd8
namespace Go.Proofs.YtibhlcfligfhdaaGreat
set_option maxHeartbeats 4000000
open Go.RowKit
set_option maxRecDepth 100000
theorem rinfo3 (w:World):Calls Tryz.prog 49 #[.int .u8 3] w fun e w'=>e=.returned (.tuple #[.agg #[.string (opWd 3),.int .i64 (opWi 3),.int .u32 (opMo 3),.int .i64 (opTa 3),.int .i64 (opGi 3),.int .u8 (opKi 3)],.bool true])∧Below w.heap.size w w':=by
 have hw:=fun w=>word_any 3 w (by decide)
 rw [show opWi 3=2 from rfl,show opMo 3=65535 from rfl,show opTa 3=0 from rfl,show opGi 3=0 from rfl,show opKi 3=6 from rfl]
 rw [show opWd 3=⟨#[101,110,116,101,114]⟩ from rfl] at hw ⊢
 generalize wordsV=V at hw
 go_enter Tryz.func49,Tryz.ntmps49
 go_wp2_with (go_at_call 65;refine (hw _).mono ?_;rintro e wq ⟨rfl,hq⟩;subst wq)
 exact bodyPost_ret (rowRs (by kernel_rfl) _ _ w.heap.size _ rfl (heap3 w _ _ _) _ rfl rfl) rfl ⟨rfl,bel (bel (bel (Below.refl _ _)))⟩
theorem rinfo9 (w:World):Calls Tryz.prog 49 #[.int .u8 9] w fun e w'=>e=.returned (.tuple #[.agg #[.string (opWd 9),.int .i64 (opWi 9),.int .u32 (opMo 9),.int .i64 (opTa 9),.int .i64 (opGi 9),.int .u8 (opKi 9)],.bool true])∧Below w.heap.size w w':=by
 have hw:=fun w=>word_any 9 w (by decide)
 rw [show opWi 9=4 from rfl,show opMo 9=4294967295 from rfl,show opTa 9=0 from rfl,show opGi 9=1 from rfl,show opKi 9=1 from rfl]
 rw [show opWd 9=⟨#[108,111,99,97,108]⟩ from rfl] at hw ⊢
 generalize wordsV=V at hw
 go_enter Tryz.func49,Tryz.ntmps49
 go_wp2_with (go_at_call 65;refine (hw _).mono ?_;rintro e wq ⟨rfl,hq⟩;subst wq)
 exact bodyPost_ret (rowRs (by kernel_rfl) _ _ w.heap.size _ rfl (heap3 w _ _ _) _ rfl rfl) rfl ⟨rfl,bel (bel (bel (Below.refl _ _)))⟩
theorem rinfo15 (w:World):Calls Tryz.prog 49 #[.int .u8 15] w fun e w'=>e=.returned (.tuple #[.agg #[.string (opWd 15),.int .i64 (opWi 15),.int .u32 (opMo 15),.int .i64 (opTa 15),.int .i64 (opGi 15),.int .u8 (opKi 15)],.bool true])∧Below w.heap.size w w':=by
 have hw:=fun w=>word_any 15 w (by decide)
 rw [show opWi 15=2 from rfl,show opMo 15=16383 from rfl,show opTa 15=2 from rfl,show opGi 15=0 from rfl,show opKi 15=2 from rfl]
 rw [show opWd 15=⟨#[108,116,105]⟩ from rfl] at hw ⊢
 generalize wordsV=V at hw
 go_enter Tryz.func49,Tryz.ntmps49
 go_wp2_with (go_at_call 65;refine (hw _).mono ?_;rintro e wq ⟨rfl,hq⟩;subst wq)
 exact bodyPost_ret (rowRs (by kernel_rfl) _ _ w.heap.size _ rfl (heap3 w _ _ _) _ rfl rfl) rfl ⟨rfl,bel (bel (bel (Below.refl _ _)))⟩
theorem rinfo21 (w:World):Calls Tryz.prog 49 #[.int .u8 21] w fun e w'=>e=.returned (.tuple #[.agg #[.string (opWd 21),.int .i64 (opWi 21),.int .u32 (opMo 21),.int .i64 (opTa 21),.int .i64 (opGi 21),.int .u8 (opKi 21)],.bool true])∧Below w.heap.size w w':=by
 have hw:=fun w=>word_any 21 w (by decide)
 rw [show opWi 21=2 from rfl,show opMo 21=16383 from rfl,show opTa 21=2 from rfl,show opGi 21=0 from rfl,show opKi 21=2 from rfl]
 rw [show opWd 21=⟨#[103,116,117]⟩ from rfl] at hw ⊢
 generalize wordsV=V at hw
 go_enter Tryz.func49,Tryz.ntmps49
 go_wp2_with (go_at_call 65;refine (hw _).mono ?_;rintro e wq ⟨rfl,hq⟩;subst wq)
 exact bodyPost_ret (rowRs (by kernel_rfl) _ _ w.heap.size _ rfl (heap3 w _ _ _) _ rfl rfl) rfl ⟨rfl,bel (bel (bel (Below.refl _ _)))⟩
theorem rinfo27 (w:World):Calls Tryz.prog 49 #[.int .u8 27] w fun e w'=>e=.returned (.tuple #[.agg #[.string (opWd 27),.int .i64 (opWi 27),.int .u32 (opMo 27),.int .i64 (opTa 27),.int .i64 (opGi 27),.int .u8 (opKi 27)],.bool true])∧Below w.heap.size w w':=by
 have hw:=fun w=>word_any 27 w (by decide)
 rw [show opWi 27=2 from rfl,show opMo 27=16383 from rfl,show opTa 27=2 from rfl,show opGi 27=0 from rfl,show opKi 27=2 from rfl]
 rw [show opWd 27=⟨#[103,116,102]⟩ from rfl] at hw ⊢
 generalize wordsV=V at hw
 go_enter Tryz.func49,Tryz.ntmps49
 go_wp2_with (go_at_call 65;refine (hw _).mono ?_;rintro e wq ⟨rfl,hq⟩;subst wq)
 exact bodyPost_ret (rowRs (by kernel_rfl) _ _ w.heap.size _ rfl (heap3 w _ _ _) _ rfl rfl) rfl ⟨rfl,bel (bel (bel (Below.refl _ _)))⟩
theorem rinfo33 (w:World):Calls Tryz.prog 49 #[.int .u8 33] w fun e w'=>e=.returned (.tuple #[.agg #[.string (opWd 33),.int .i64 (opWi 33),.int .u32 (opMo 33),.int .i64 (opTa 33),.int .i64 (opGi 33),.int .u8 (opKi 33)],.bool true])∧Below w.heap.size w w':=by
 have hw:=fun w=>word_any 33 w (by decide)
 rw [show opWi 33=0 from rfl,show opMo 33=0 from rfl,show opTa 33=2 from rfl,show opGi 33=0 from rfl,show opKi 33=1 from rfl]
 rw [show opWd 33=⟨#[115,116,111,114,101,50]⟩ from rfl] at hw ⊢
 generalize wordsV=V at hw
 go_enter Tryz.func49,Tryz.ntmps49
 go_wp2_with (go_at_call 65;refine (hw _).mono ?_;rintro e wq ⟨rfl,hq⟩;subst wq)
 exact bodyPost_ret (rowRs (by kernel_rfl) _ _ w.heap.size _ rfl (heap3 w _ _ _) _ rfl rfl) rfl ⟨rfl,bel (bel (bel (Below.refl _ _)))⟩
theorem rinfo39 (w:World):Calls Tryz.prog 49 #[.int .u8 39] w fun e w'=>e=.returned (.tuple #[.agg #[.string (opWd 39),.int .i64 (opWi 39),.int .u32 (opMo 39),.int .i64 (opTa 39),.int .i64 (opGi 39),.int .u8 (opKi 39)],.bool true])∧Below w.heap.size w w':=by
 have hw:=fun w=>word_any 39 w (by decide)
 rw [show opWi 39=0 from rfl,show opMo 39=0 from rfl,show opTa 39=2 from rfl,show opGi 39=1 from rfl,show opKi 39=1 from rfl]
 rw [show opWd 39=⟨#[97,100,100]⟩ from rfl] at hw ⊢
 generalize wordsV=V at hw
 go_enter Tryz.func49,Tryz.ntmps49
 go_wp2_with (go_at_call 65;refine (hw _).mono ?_;rintro e wq ⟨rfl,hq⟩;subst wq)
 exact bodyPost_ret (rowRs (by kernel_rfl) _ _ w.heap.size _ rfl (heap3 w _ _ _) _ rfl rfl) rfl ⟨rfl,bel (bel (bel (Below.refl _ _)))⟩
theorem rinfo45 (w:World):Calls Tryz.prog 49 #[.int .u8 45] w fun e w'=>e=.returned (.tuple #[.agg #[.string (opWd 45),.int .i64 (opWi 45),.int .u32 (opMo 45),.int .i64 (opTa 45),.int .i64 (opGi 45),.int .u8 (opKi 45)],.bool true])∧Below w.heap.size w w':=by
 have hw:=fun w=>word_any 45 w (by decide)
 rw [show opWi 45=0 from rfl,show opMo 45=0 from rfl,show opTa 45=2 from rfl,show opGi 45=1 from rfl,show opKi 45=1 from rfl]
 rw [show opWd 45=⟨#[109,111,100,117]⟩ from rfl] at hw ⊢
 generalize wordsV=V at hw
 go_enter Tryz.func49,Tryz.ntmps49
 go_wp2_with (go_at_call 65;refine (hw _).mono ?_;rintro e wq ⟨rfl,hq⟩;subst wq)
 exact bodyPost_ret (rowRs (by kernel_rfl) _ _ w.heap.size _ rfl (heap3 w _ _ _) _ rfl rfl) rfl ⟨rfl,bel (bel (bel (Below.refl _ _)))⟩
theorem rinfo51 (w:World):Calls Tryz.prog 49 #[.int .u8 51] w fun e w'=>e=.returned (.tuple #[.agg #[.string (opWd 51),.int .i64 (opWi 51),.int .u32 (opMo 51),.int .i64 (opTa 51),.int .i64 (opGi 51),.int .u8 (opKi 51)],.bool true])∧Below w.heap.size w w':=by
 have hw:=fun w=>word_any 51 w (by decide)
 rw [show opWi 51=0 from rfl,show opMo 51=0 from rfl,show opTa 51=2 from rfl,show opGi 51=1 from rfl,show opKi 51=1 from rfl]
 rw [show opWd 51=⟨#[115,104,114,105]⟩ from rfl] at hw ⊢
 generalize wordsV=V at hw
 go_enter Tryz.func49,Tryz.ntmps49
 go_wp2_with (go_at_call 65;refine (hw _).mono ?_;rintro e wq ⟨rfl,hq⟩;subst wq)
 exact bodyPost_ret (rowRs (by kernel_rfl) _ _ w.heap.size _ rfl (heap3 w _ _ _) _ rfl rfl) rfl ⟨rfl,bel (bel (bel (Below.refl _ _)))⟩
theorem rinfo57 (w:World):Calls Tryz.prog 49 #[.int .u8 57] w fun e w'=>e=.returned (.tuple #[.agg #[.string (opWd 57),.int .i64 (opWi 57),.int .u32 (opMo 57),.int .i64 (opTa 57),.int .i64 (opGi 57),.int .u8 (opKi 57)],.bool true])∧Below w.heap.size w w':=by
 have hw:=fun w=>word_any 57 w (by decide)
 rw [show opWi 57=0 from rfl,show opMo 57=0 from rfl,show opTa 57=2 from rfl,show opGi 57=1 from rfl,show opKi 57=1 from rfl]
 rw [show opWd 57=⟨#[100,105,118,102]⟩ from rfl] at hw ⊢
 generalize wordsV=V at hw
 go_enter Tryz.func49,Tryz.ntmps49
 go_wp2_with (go_at_call 65;refine (hw _).mono ?_;rintro e wq ⟨rfl,hq⟩;subst wq)
 exact bodyPost_ret (rowRs (by kernel_rfl) _ _ w.heap.size _ rfl (heap3 w _ _ _) _ rfl rfl) rfl ⟨rfl,bel (bel (bel (Below.refl _ _)))⟩
end Go.Proofs.YtibhlcfligfhdaaGreat
