import Derived.Test.YtibhlcfligfhdaaGreatCLWd8
import Derived.Test.YtibhlcfligfhdaaGreatCIRi1
import Derived.Test.YtibhlcfligfhdaaGreatCIRi2
import Derived.Test.YtibhlcfligfhdaaGreatCIRi3
import Derived.Test.YtibhlcfligfhdaaGreatCIRi4
import Derived.Test.YtibhlcfligfhdaaGreatCITab
namespace Go.Proofs.YtibhlcfligfhdaaGreat
set_option maxHeartbeats 4000000
open Go.RowKit
set_option maxRecDepth 100000
theorem rinfo5 (w:World):Calls Tryz.prog 49 #[.int .u8 5] w fun e w'=>e=.returned (.tuple #[.agg #[.string (opWd 5),.int .i64 (opWi 5),.int .u32 (opMo 5),.int .i64 (opTa 5),.int .i64 (opGi 5),.int .u8 (opKi 5)],.bool true])∧Below w.heap.size w w':=by
 have hw:=fun w=>word_any 5 w (by decide)
 rw [show opWi 5=0 from rfl,show opMo 5=0 from rfl,show opTa 5=1 from rfl,show opGi 5=1 from rfl,show opKi 5=5 from rfl]
 rw [show opWd 5=⟨#[99,97,108,108]⟩ from rfl] at hw ⊢
 generalize wordsV=V at hw
 go_enter Tryz.func49,Tryz.ntmps49
 go_wp2_with (go_at_call 65;refine (hw _).mono ?_;rintro e wq ⟨rfl,hq⟩;subst wq)
 exact bodyPost_ret (rowRs (by kernel_rfl) _ _ w.heap.size _ rfl (heap3 w _ _ _) _ rfl rfl) rfl ⟨rfl,bel (bel (bel (Below.refl _ _)))⟩
theorem rinfo11 (w:World):Calls Tryz.prog 49 #[.int .u8 11] w fun e w'=>e=.returned (.tuple #[.agg #[.string (opWd 11),.int .i64 (opWi 11),.int .u32 (opMo 11),.int .i64 (opTa 11),.int .i64 (opGi 11),.int .u8 (opKi 11)],.bool true])∧Below w.heap.size w w':=by
 have hw:=fun w=>word_any 11 w (by decide)
 rw [show opWi 11=0 from rfl,show opMo 11=0 from rfl,show opTa 11=1 from rfl,show opGi 11=2 from rfl,show opKi 11=1 from rfl]
 rw [show opWd 11=⟨#[100,117,112]⟩ from rfl] at hw ⊢
 generalize wordsV=V at hw
 go_enter Tryz.func49,Tryz.ntmps49
 go_wp2_with (go_at_call 65;refine (hw _).mono ?_;rintro e wq ⟨rfl,hq⟩;subst wq)
 exact bodyPost_ret (rowRs (by kernel_rfl) _ _ w.heap.size _ rfl (heap3 w _ _ _) _ rfl rfl) rfl ⟨rfl,bel (bel (bel (Below.refl _ _)))⟩
theorem rinfo17 (w:World):Calls Tryz.prog 49 #[.int .u8 17] w fun e w'=>e=.returned (.tuple #[.agg #[.string (opWd 17),.int .i64 (opWi 17),.int .u32 (opMo 17),.int .i64 (opTa 17),.int .i64 (opGi 17),.int .u8 (opKi 17)],.bool true])∧Below w.heap.size w w':=by
 have hw:=fun w=>word_any 17 w (by decide)
 rw [show opWi 17=2 from rfl,show opMo 17=16383 from rfl,show opTa 17=2 from rfl,show opGi 17=0 from rfl,show opKi 17=2 from rfl]
 rw [show opWd 17=⟨#[103,116,105]⟩ from rfl] at hw ⊢
 generalize wordsV=V at hw
 go_enter Tryz.func49,Tryz.ntmps49
 go_wp2_with (go_at_call 65;refine (hw _).mono ?_;rintro e wq ⟨rfl,hq⟩;subst wq)
 exact bodyPost_ret (rowRs (by kernel_rfl) _ _ w.heap.size _ rfl (heap3 w _ _ _) _ rfl rfl) rfl ⟨rfl,bel (bel (bel (Below.refl _ _)))⟩
theorem rinfo23 (w:World):Calls Tryz.prog 49 #[.int .u8 23] w fun e w'=>e=.returned (.tuple #[.agg #[.string (opWd 23),.int .i64 (opWi 23),.int .u32 (opMo 23),.int .i64 (opTa 23),.int .i64 (opGi 23),.int .u8 (opKi 23)],.bool true])∧Below w.heap.size w w':=by
 have hw:=fun w=>word_any 23 w (by decide)
 rw [show opWi 23=2 from rfl,show opMo 23=16383 from rfl,show opTa 23=2 from rfl,show opGi 23=0 from rfl,show opKi 23=2 from rfl]
 rw [show opWd 23=⟨#[101,113,102]⟩ from rfl] at hw ⊢
 generalize wordsV=V at hw
 go_enter Tryz.func49,Tryz.ntmps49
 go_wp2_with (go_at_call 65;refine (hw _).mono ?_;rintro e wq ⟨rfl,hq⟩;subst wq)
 exact bodyPost_ret (rowRs (by kernel_rfl) _ _ w.heap.size _ rfl (heap3 w _ _ _) _ rfl rfl) rfl ⟨rfl,bel (bel (bel (Below.refl _ _)))⟩
theorem rinfo29 (w:World):Calls Tryz.prog 49 #[.int .u8 29] w fun e w'=>e=.returned (.tuple #[.agg #[.string (opWd 29),.int .i64 (opWi 29),.int .u32 (opMo 29),.int .i64 (opTa 29),.int .i64 (opGi 29),.int .u8 (opKi 29)],.bool true])∧Below w.heap.size w w':=by
 have hw:=fun w=>word_any 29 w (by decide)
 rw [show opWi 29=0 from rfl,show opMo 29=0 from rfl,show opTa 29=1 from rfl,show opGi 29=1 from rfl,show opKi 29=1 from rfl]
 rw [show opWd 29=⟨#[108,111,97,100,49]⟩ from rfl] at hw ⊢
 generalize wordsV=V at hw
 go_enter Tryz.func49,Tryz.ntmps49
 go_wp2_with (go_at_call 65;refine (hw _).mono ?_;rintro e wq ⟨rfl,hq⟩;subst wq)
 exact bodyPost_ret (rowRs (by kernel_rfl) _ _ w.heap.size _ rfl (heap3 w _ _ _) _ rfl rfl) rfl ⟨rfl,bel (bel (bel (Below.refl _ _)))⟩
theorem rinfo35 (w:World):Calls Tryz.prog 49 #[.int .u8 35] w fun e w'=>e=.returned (.tuple #[.agg #[.string (opWd 35),.int .i64 (opWi 35),.int .u32 (opMo 35),.int .i64 (opTa 35),.int .i64 (opGi 35),.int .u8 (opKi 35)],.bool true])∧Below w.heap.size w w':=by
 have hw:=fun w=>word_any 35 w (by decide)
 rw [show opWi 35=2 from rfl,show opMo 35=256 from rfl,show opTa 35=2 from rfl,show opGi 35=0 from rfl,show opKi 35=1 from rfl]
 rw [show opWd 35=⟨#[99,111,112,121]⟩ from rfl] at hw ⊢
 generalize wordsV=V at hw
 go_enter Tryz.func49,Tryz.ntmps49
 go_wp2_with (go_at_call 65;refine (hw _).mono ?_;rintro e wq ⟨rfl,hq⟩;subst wq)
 exact bodyPost_ret (rowRs (by kernel_rfl) _ _ w.heap.size _ rfl (heap3 w _ _ _) _ rfl rfl) rfl ⟨rfl,bel (bel (bel (Below.refl _ _)))⟩
theorem rinfo41 (w:World):Calls Tryz.prog 49 #[.int .u8 41] w fun e w'=>e=.returned (.tuple #[.agg #[.string (opWd 41),.int .i64 (opWi 41),.int .u32 (opMo 41),.int .i64 (opTa 41),.int .i64 (opGi 41),.int .u8 (opKi 41)],.bool true])∧Below w.heap.size w w':=by
 have hw:=fun w=>word_any 41 w (by decide)
 rw [show opWi 41=0 from rfl,show opMo 41=0 from rfl,show opTa 41=2 from rfl,show opGi 41=1 from rfl,show opKi 41=1 from rfl]
 rw [show opWd 41=⟨#[109,117,108]⟩ from rfl] at hw ⊢
 generalize wordsV=V at hw
 go_enter Tryz.func49,Tryz.ntmps49
 go_wp2_with (go_at_call 65;refine (hw _).mono ?_;rintro e wq ⟨rfl,hq⟩;subst wq)
 exact bodyPost_ret (rowRs (by kernel_rfl) _ _ w.heap.size _ rfl (heap3 w _ _ _) _ rfl rfl) rfl ⟨rfl,bel (bel (bel (Below.refl _ _)))⟩
theorem rinfo47 (w:World):Calls Tryz.prog 49 #[.int .u8 47] w fun e w'=>e=.returned (.tuple #[.agg #[.string (opWd 47),.int .i64 (opWi 47),.int .u32 (opMo 47),.int .i64 (opTa 47),.int .i64 (opGi 47),.int .u8 (opKi 47)],.bool true])∧Below w.heap.size w w':=by
 have hw:=fun w=>word_any 47 w (by decide)
 rw [show opWi 47=0 from rfl,show opMo 47=0 from rfl,show opTa 47=2 from rfl,show opGi 47=1 from rfl,show opKi 47=1 from rfl]
 rw [show opWd 47=⟨#[111,114]⟩ from rfl] at hw ⊢
 generalize wordsV=V at hw
 go_enter Tryz.func49,Tryz.ntmps49
 go_wp2_with (go_at_call 65;refine (hw _).mono ?_;rintro e wq ⟨rfl,hq⟩;subst wq)
 exact bodyPost_ret (rowRs (by kernel_rfl) _ _ w.heap.size _ rfl (heap3 w _ _ _) _ rfl rfl) rfl ⟨rfl,bel (bel (bel (Below.refl _ _)))⟩
theorem rinfo53 (w:World):Calls Tryz.prog 49 #[.int .u8 53] w fun e w'=>e=.returned (.tuple #[.agg #[.string (opWd 53),.int .i64 (opWi 53),.int .u32 (opMo 53),.int .i64 (opTa 53),.int .i64 (opGi 53),.int .u8 (opKi 53)],.bool true])∧Below w.heap.size w w':=by
 have hw:=fun w=>word_any 53 w (by decide)
 rw [show opWi 53=0 from rfl,show opMo 53=0 from rfl,show opTa 53=1 from rfl,show opGi 53=1 from rfl,show opKi 53=1 from rfl]
 rw [show opWd 53=⟨#[110,101,103,102]⟩ from rfl] at hw ⊢
 generalize wordsV=V at hw
 go_enter Tryz.func49,Tryz.ntmps49
 go_wp2_with (go_at_call 65;refine (hw _).mono ?_;rintro e wq ⟨rfl,hq⟩;subst wq)
 exact bodyPost_ret (rowRs (by kernel_rfl) _ _ w.heap.size _ rfl (heap3 w _ _ _) _ rfl rfl) rfl ⟨rfl,bel (bel (bel (Below.refl _ _)))⟩
theorem rinfo59 (w:World):Calls Tryz.prog 49 #[.int .u8 59] w fun e w'=>e=.returned (.tuple #[.agg #[.string (opWd 59),.int .i64 (opWi 59),.int .u32 (opMo 59),.int .i64 (opTa 59),.int .i64 (opGi 59),.int .u8 (opKi 59)],.bool true])∧Below w.heap.size w w':=by
 have hw:=fun w=>word_any 59 w (by decide)
 rw [show opWi 59=0 from rfl,show opMo 59=0 from rfl,show opTa 59=1 from rfl,show opGi 59=1 from rfl,show opKi 59=1 from rfl]
 rw [show opWd 59=⟨#[99,118,102,105]⟩ from rfl] at hw ⊢
 generalize wordsV=V at hw
 go_enter Tryz.func49,Tryz.ntmps49
 go_wp2_with (go_at_call 65;refine (hw _).mono ?_;rintro e wq ⟨rfl,hq⟩;subst wq)
 exact bodyPost_ret (rowRs (by kernel_rfl) _ _ w.heap.size _ rfl (heap3 w _ _ _) _ rfl rfl) rfl ⟨rfl,bel (bel (bel (Below.refl _ _)))⟩
theorem rinfoT (w:World):∀ op:Nat,(1≤op∧op≤59)→Calls Tryz.prog 49 #[.int .u8 (op:Int)] w fun e w'=>e=.returned (.tuple #[.agg #[.string (opWd op),.int .i64 (opWi op),.int .u32 (opMo op),.int .i64 (opTa op),.int .i64 (opGi op),.int .u8 (opKi op)],.bool true])∧Below w.heap.size w w'
 |0,h=>absurd h.1 (by decide)
 |1,_=>rinfo1 w
 |2,_=>rinfo2 w
 |3,_=>rinfo3 w
 |4,_=>rinfo4 w
 |5,_=>rinfo5 w
 |6,_=>rinfo6 w
 |7,_=>rinfo7 w
 |8,_=>rinfo8 w
 |9,_=>rinfo9 w
 |10,_=>rinfo10 w
 |11,_=>rinfo11 w
 |12,_=>rinfo12 w
 |13,_=>rinfo13 w
 |14,_=>rinfo14 w
 |15,_=>rinfo15 w
 |16,_=>rinfo16 w
 |17,_=>rinfo17 w
 |18,_=>rinfo18 w
 |19,_=>rinfo19 w
 |20,_=>rinfo20 w
 |21,_=>rinfo21 w
 |22,_=>rinfo22 w
 |23,_=>rinfo23 w
 |24,_=>rinfo24 w
 |25,_=>rinfo25 w
 |26,_=>rinfo26 w
 |27,_=>rinfo27 w
 |28,_=>rinfo28 w
 |29,_=>rinfo29 w
 |30,_=>rinfo30 w
 |31,_=>rinfo31 w
 |32,_=>rinfo32 w
 |33,_=>rinfo33 w
 |34,_=>rinfo34 w
 |35,_=>rinfo35 w
 |36,_=>rinfo36 w
 |37,_=>rinfo37 w
 |38,_=>rinfo38 w
 |39,_=>rinfo39 w
 |40,_=>rinfo40 w
 |41,_=>rinfo41 w
 |42,_=>rinfo42 w
 |43,_=>rinfo43 w
 |44,_=>rinfo44 w
 |45,_=>rinfo45 w
 |46,_=>rinfo46 w
 |47,_=>rinfo47 w
 |48,_=>rinfo48 w
 |49,_=>rinfo49 w
 |50,_=>rinfo50 w
 |51,_=>rinfo51 w
 |52,_=>rinfo52 w
 |53,_=>rinfo53 w
 |54,_=>rinfo54 w
 |55,_=>rinfo55 w
 |56,_=>rinfo56 w
 |57,_=>rinfo57 w
 |58,_=>rinfo58 w
 |59,_=>rinfo59 w
 |n+60,h=>absurd h.2 (by omega)
theorem rinfo_any (op:Nat) (w:World) (h:op<256):Calls Tryz.prog 49 #[.int .u8 op] w fun e w'=>e=.returned (.tuple #[.agg #[.string (opWd op),.int .i64 (opWi op),.int .u32 (opMo op),.int .i64 (opTa op),.int .i64 (opGi op),.int .u8 (opKi op)],.bool (isOp op)])∧Below w.heap.size w w':=by
 by_cases h1:1≤op∧op≤59
 · rw [show isOp op=true from decide_eq_true h1];exact rinfoT w op h1
 · rw [show isOp op=false from decide_eq_false h1];exact rinfoNo op w h h1
theorem rcheck_any (op arg:Nat) (w:World) (h:op<256) :
   Calls Tryz.prog 25 #[.agg #[.int .u8 op,.int .u32 arg]] w fun e w'=>e=.returned (.int .i64 (erV op arg))∧Below w.heap.size w w':=by
 have hI:=fun w=>rinfo_any op w h
 have hMo:=opMo_lt op
 unfold erV
 generalize opWd op=a0 at *
 generalize opWi op=a1 at *
 generalize opMo op=a2 at *
 generalize opTa op=a3 at *
 generalize opGi op=a4 at *
 generalize opKi op=a5 at *
 cases hb:isOp op
 · rw [hb] at hI
   clear hb
   go_enter Tryz.func25,Tryz.ntmps25
   go_wp2_with (go_at_call 49;refine (hI _).mono ?_;rintro e wq ⟨rfl,hq⟩;have c1:=cellC hq 1 _ rfl)
   go_ret
   exact ⟨rfl,bel (bt (bel (Below.refl _ _)) hq)⟩
 rw [hb] at hI
 clear hb
 by_cases hm:a2<arg
 · rw [if_neg (by simp),if_pos hm]
   have hm':(a2:Int)<arg:=by omega
   go_enter Tryz.func25,Tryz.ntmps25
   go_wp2_with (go_at_call 49;refine (hI _).mono ?_;rintro e wq ⟨rfl,hq⟩;have c1:=cellC hq 1 _ rfl)
   go_ret
   exact ⟨rfl,bel (bt (bel (Below.refl _ _)) hq)⟩
 · rw [if_neg (by simp),if_neg hm]
   have hm':¬ (a2:Int)<arg:=by omega
   go_enter Tryz.func25,Tryz.ntmps25
   go_wp2_with (go_at_call 49;refine (hI _).mono ?_;rintro e wq ⟨rfl,hq⟩;have c1:=cellC hq 1 _ rfl)
   go_ret
   exact ⟨rfl,bel (bt (bel (Below.refl _ _)) hq)⟩
end Go.Proofs.YtibhlcfligfhdaaGreat
