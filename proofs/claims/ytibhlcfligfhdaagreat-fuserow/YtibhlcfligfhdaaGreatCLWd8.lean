import Derived.Test.YtibhlcfligfhdaaGreatCDOo
import Derived.Laws.AppendOwn
import Derived.Laws.MakeOwn
import Derived.Lib.Tables
import Derived.Laws.CopyOwn
import Derived.Test.YtibhlcfligfhdaaGreatCITab
namespace Go.Proofs.YtibhlcfligfhdaaGreat
set_option maxHeartbeats 4000000
open Go.RowKit
set_option maxRecDepth 100000



def wordsV:Array Value:=((List.range 60).map fun k=>Value.string (opWd k)).toArray
def wordsZ:Array Value:=(List.replicate 60 (Value.string ⟨#[]⟩)).toArray
theorem infoWs:(Tryz.prog.info? 101).map (fun i=>(i.zero,i.size))=some (some (.agg wordsZ),60):=by kernel_rfl
theorem upon_value_of {P:Program} {o:Oper} {a:Act} {next:Act→World→Prop} {Q:Exit→Act→World→Prop} {w:World} (v:Value) (w':World)
   (hr:(execOp a.eval o).run P w=.ok (.value v) w') (h:next (a.put o.dst v) w'):o.upon P a next Q ((execOp a.eval o).run P w):=by
 rw [hr];exact h
theorem upon_skip_of {P:Program} {o:Oper} {a:Act} {next:Act→World→Prop} {Q:Exit→Act→World→Prop} {w:World} (w':World)
   (hr:(execOp a.eval o).run P w=.ok .skip w') (h:next (a.put o.dst undef) w'):o.upon P a next Q ((execOp a.eval o).run P w):=by
 rw [hr];exact h
theorem wp_act_eq {P:Program} {c:Code} {Q:Exit→Act→World→Prop} {a:Act} {w:World} (a':Act) (h:a=a') (hw:c.wp P Q a' w):c.wp P Q a w:=by
 rw [h];exact hw
theorem store_new (o:Oper) (t:Nat) (p q:Operand) (ho:o.op=.store t p q) (a:Act) (w:World) (cs cs':Array Value) (h0:a.eval p=.pointer (some ⟨w.heap.size,0,none⟩)) (h1:a.eval q=.agg cs')
   (hi:(Tryz.prog.info? t).map (·.size)=some cs'.size) (hs:cs.size=cs'.size) (h2:cs'.all (·.oneCell')=true) :
   (execOp a.eval o).run Tryz.prog (w.alloc (.cells cs t))=.ok .skip (w.alloc (.cells cs' t)):=by
 have:=run_storeAt_new (P:=Tryz.prog) w t cs cs' hi hs h2
 simp only [execOp,ho,h0,h1,Sem.run_bind,this,Result.andThen,Sem.run_pure]
theorem alloc_new (o:Oper) (t:Nat) (ho:o.op=.alloc t) (a:Act) (w:World) (cs:Array Value) (hz:∀ w,(zeroValue t).run Tryz.prog w=.ok (.agg cs) w) :
   (execOp a.eval o).run Tryz.prog w=.ok (.value (.pointer (some ⟨w.heap.size,0,none⟩))) (w.alloc (.cells cs t)):=by
 simp [execOp,ho,Instr.alloc,hz,Result.andThen,go_sem]
theorem wordsV_all:wordsV.all (·.oneCell')=true:=by kernel_rfl
theorem wordsV_size:wordsV.size=60:=by kernel_rfl
theorem wordsZ_size:wordsZ.size=60:=by kernel_rfl
theorem wordsV_get (k:Nat) (h:k<60):wordsV[k]?=some (.string (opWd k)):=by
 unfold wordsV
 rw [List.getElem?_toArray,List.getElem?_map,List.getElem?_range h]
 rfl
theorem word_any (n:Nat) (w:World) (h:n<256):Calls Tryz.prog 65 #[.int .i64 n] w fun e w'=>e=.returned (.string (opWd n))∧w'=w.alloc (.cells wordsV 101):=by
 obtain ⟨hz,hs⟩:=zero_of_info infoWs
 go_enter Tryz.func65,Tryz.ntmps65
 refine wp_seq_k fun K0 hK0=>wp_region_list ?_
 refine wpList_one rfl ?_
 refine upon_value_of (.string ⟨#[]⟩) w rfl ?_
 refine wpList_nil (hK0 _ _ ?_)
 refine wp_seq_k fun K1 hK1=>wp_region_list ?_
 refine wpList_one rfl ?_
 refine upon_value_of (.agg wordsV) w (by kernel_rfl) ?_
 refine wpList_one rfl ?_
 refine upon_value_of _ _ (alloc_new _ _ rfl _ w _ hz) ?_
 refine wpList_one rfl ?_
 refine upon_skip_of _ (store_new _ _ _ _ rfl _ w _ wordsV (by kernel_rfl) (by kernel_rfl) (by rw [hs,wordsV_size]) (by rw [wordsZ_size,wordsV_size]) wordsV_all) ?_
 refine wpList_nil (hK1 _ _ ?_)
 refine wp_act_eq { tmps:=#[.int .i64 n,undef,.string ⟨#[]⟩,.pointer (some ⟨w.heap.size,0,none⟩),.agg wordsV,undef,undef,undef,undef,undef,undef,undef,undef,undef],defers:=[] } (by kernel_rfl) ?_
 clear hz hs
 by_cases h1:n=0
 · subst h1
   generalize hV:wordsV=V
   go_wp2
   go_ret
   exact ⟨rfl,rfl⟩
 by_cases h2:59<n
 · rw [(opT_zero n (by omega)).1]
   have hlt:¬ ((n:Int)<1):=by omega
   have hgt:(59:Int)<n:=by omega
   generalize hV:wordsV=V
   go_wp2
   go_ret
   exact ⟨rfl,rfl⟩
 have hlt:¬ ((n:Int)<1):=by omega
 have hgt:¬ (59:Int)<n:=by omega
 have hn:n<60:=by omega
 have hc:(w.alloc (.cells wordsV 101)).cell? ⟨w.heap.size,n,none⟩=some (.string (opWd n)):=by
   rw [World.cell?_alloc_new];exact wordsV_get n hn
 generalize hV:wordsV=V at *
 generalize opWd n=W at *
 clear hV
 go_wp2
 go_ret
 exact ⟨rfl,rfl⟩
theorem heap3 (w:World) (A B C:Obj):(((w.alloc A).alloc B).alloc C).heap[w.heap.size]?=some A:=by
 rw [Below.heap_alloc _ _ _ (by simp;omega),Below.heap_alloc _ _ _ (by simp)]
 exact heap_alloc_last w A
theorem rowRs {fn:Func} (hres:fn.results=#[.cell 2 80,.tmp 3]) (t2:Value) (W:World) (b:Nat) (cs:Array Value) (h6:cs.size=6) (hb:W.heap[b]?=some (.cells cs 80)) (tmps:Array Value) (h2:tmps.getD 2 undef=.pointer (some ⟨b,0,none⟩)) (h3:tmps.getD 3 undef=t2) :
   (results fn tmps).run Tryz.prog W=.ok (.tuple #[.agg cs,t2]) W:=by
 obtain ⟨fs,hu⟩:=undR
 rw [results_cell_tmp hres,h2,h3]
 have:=run_loadVar_row (P:=Tryz.prog) W b 80 80 cs (0,0) _ hb hu rfl (by rw [infoR,h6])
 simp only [asAddr,Sem.run_pure,Result.andThen,this]
theorem rinfoNo (op:Nat) (w:World) (h:op<256) (hn:¬ (1≤op∧op≤59)):Calls Tryz.prog 49 #[.int .u8 op] w fun e w'=>e=.returned (.tuple #[.agg #[.string (opWd op),.int .i64 (opWi op),.int .u32 (opMo op),.int .i64 (opTa op),.int .i64 (opGi op),.int .u8 (opKi op)],.bool false])∧Below w.heap.size w w':=by
 have hT:=opT_zero op hn
 rw [hT.1,hT.2.1,hT.2.2.1,hT.2.2.2.1,hT.2.2.2.2.1,hT.2.2.2.2.2]
 clear hT
 by_cases h1:op=0
 · subst h1
   go_enter Tryz.func49,Tryz.ntmps49
   go_wp2
   exact bodyPost_ret (rowRs (by kernel_rfl) _ _ w.heap.size _ rfl (heap_alloc_last w _) _ rfl rfl) rfl ⟨rfl,bel (Below.refl _ _)⟩
 have h2:59<op:=by omega
 have hlt:¬ ((op:Int)<1):=by omega
 have hgt:(59:Int)<op:=by omega
 have hwr:IntKind.i64.wrap (op:Int)=op:=by rw [IntKind.wrap_i64];omega
 clear hn
 go_enter Tryz.func49,Tryz.ntmps49
 go_wp2
 exact bodyPost_ret (rowRs (by kernel_rfl) _ _ w.heap.size _ rfl (heap_alloc_last w _) _ rfl rfl) rfl ⟨rfl,bel (Below.refl _ _)⟩
theorem rinfo6 (w:World):Calls Tryz.prog 49 #[.int .u8 6] w fun e w'=>e=.returned (.tuple #[.agg #[.string (opWd 6),.int .i64 (opWi 6),.int .u32 (opMo 6),.int .i64 (opTa 6),.int .i64 (opGi 6),.int .u8 (opKi 6)],.bool true])∧Below w.heap.size w w':=by
 have hw:=fun w=>word_any 6 w (by decide)
 rw [show opWi 6=2 from rfl,show opMo 6=16383 from rfl,show opTa 6=0 from rfl,show opGi 6=0 from rfl,show opKi 6=3 from rfl]
 rw [show opWd 6=⟨#[103,111,116,111]⟩ from rfl] at hw ⊢
 generalize wordsV=V at hw
 go_enter Tryz.func49,Tryz.ntmps49
 go_wp2_with (go_at_call 65;refine (hw _).mono ?_;rintro e wq ⟨rfl,hq⟩;subst wq)
 exact bodyPost_ret (rowRs (by kernel_rfl) _ _ w.heap.size _ rfl (heap3 w _ _ _) _ rfl rfl) rfl ⟨rfl,bel (bel (bel (Below.refl _ _)))⟩
theorem rinfo12 (w:World):Calls Tryz.prog 49 #[.int .u8 12] w fun e w'=>e=.returned (.tuple #[.agg #[.string (opWd 12),.int .i64 (opWi 12),.int .u32 (opMo 12),.int .i64 (opTa 12),.int .i64 (opGi 12),.int .u8 (opKi 12)],.bool true])∧Below w.heap.size w w':=by
 have hw:=fun w=>word_any 12 w (by decide)
 rw [show opWi 12=1 from rfl,show opMo 12=14 from rfl,show opTa 12=1 from rfl,show opGi 12=0 from rfl,show opKi 12=1 from rfl]
 rw [show opWd 12=⟨#[97,114,103]⟩ from rfl] at hw ⊢
 generalize wordsV=V at hw
 go_enter Tryz.func49,Tryz.ntmps49
 go_wp2_with (go_at_call 65;refine (hw _).mono ?_;rintro e wq ⟨rfl,hq⟩;subst wq)
 exact bodyPost_ret (rowRs (by kernel_rfl) _ _ w.heap.size _ rfl (heap3 w _ _ _) _ rfl rfl) rfl ⟨rfl,bel (bel (bel (Below.refl _ _)))⟩
theorem rinfo18 (w:World):Calls Tryz.prog 49 #[.int .u8 18] w fun e w'=>e=.returned (.tuple #[.agg #[.string (opWd 18),.int .i64 (opWi 18),.int .u32 (opMo 18),.int .i64 (opTa 18),.int .i64 (opGi 18),.int .u8 (opKi 18)],.bool true])∧Below w.heap.size w w':=by
 have hw:=fun w=>word_any 18 w (by decide)
 rw [show opWi 18=2 from rfl,show opMo 18=16383 from rfl,show opTa 18=2 from rfl,show opGi 18=0 from rfl,show opKi 18=2 from rfl]
 rw [show opWd 18=⟨#[103,101,105]⟩ from rfl] at hw ⊢
 generalize wordsV=V at hw
 go_enter Tryz.func49,Tryz.ntmps49
 go_wp2_with (go_at_call 65;refine (hw _).mono ?_;rintro e wq ⟨rfl,hq⟩;subst wq)
 exact bodyPost_ret (rowRs (by kernel_rfl) _ _ w.heap.size _ rfl (heap3 w _ _ _) _ rfl rfl) rfl ⟨rfl,bel (bel (bel (Below.refl _ _)))⟩
theorem rinfo24 (w:World):Calls Tryz.prog 49 #[.int .u8 24] w fun e w'=>e=.returned (.tuple #[.agg #[.string (opWd 24),.int .i64 (opWi 24),.int .u32 (opMo 24),.int .i64 (opTa 24),.int .i64 (opGi 24),.int .u8 (opKi 24)],.bool true])∧Below w.heap.size w w':=by
 have hw:=fun w=>word_any 24 w (by decide)
 rw [show opWi 24=2 from rfl,show opMo 24=16383 from rfl,show opTa 24=2 from rfl,show opGi 24=0 from rfl,show opKi 24=2 from rfl]
 rw [show opWd 24=⟨#[110,101,102]⟩ from rfl] at hw ⊢
 generalize wordsV=V at hw
 go_enter Tryz.func49,Tryz.ntmps49
 go_wp2_with (go_at_call 65;refine (hw _).mono ?_;rintro e wq ⟨rfl,hq⟩;subst wq)
 exact bodyPost_ret (rowRs (by kernel_rfl) _ _ w.heap.size _ rfl (heap3 w _ _ _) _ rfl rfl) rfl ⟨rfl,bel (bel (bel (Below.refl _ _)))⟩
theorem rinfo30 (w:World):Calls Tryz.prog 49 #[.int .u8 30] w fun e w'=>e=.returned (.tuple #[.agg #[.string (opWd 30),.int .i64 (opWi 30),.int .u32 (opMo 30),.int .i64 (opTa 30),.int .i64 (opGi 30),.int .u8 (opKi 30)],.bool true])∧Below w.heap.size w w':=by
 have hw:=fun w=>word_any 30 w (by decide)
 rw [show opWi 30=0 from rfl,show opMo 30=0 from rfl,show opTa 30=1 from rfl,show opGi 30=1 from rfl,show opKi 30=1 from rfl]
 rw [show opWd 30=⟨#[108,111,97,100,50]⟩ from rfl] at hw ⊢
 generalize wordsV=V at hw
 go_enter Tryz.func49,Tryz.ntmps49
 go_wp2_with (go_at_call 65;refine (hw _).mono ?_;rintro e wq ⟨rfl,hq⟩;subst wq)
 exact bodyPost_ret (rowRs (by kernel_rfl) _ _ w.heap.size _ rfl (heap3 w _ _ _) _ rfl rfl) rfl ⟨rfl,bel (bel (bel (Below.refl _ _)))⟩
theorem rinfo36 (w:World):Calls Tryz.prog 49 #[.int .u8 36] w fun e w'=>e=.returned (.tuple #[.agg #[.string (opWd 36),.int .i64 (opWi 36),.int .u32 (opMo 36),.int .i64 (opTa 36),.int .i64 (opGi 36),.int .u8 (opKi 36)],.bool true])∧Below w.heap.size w w':=by
 have hw:=fun w=>word_any 36 w (by decide)
 rw [show opWi 36=0 from rfl,show opMo 36=0 from rfl,show opTa 36=1 from rfl,show opGi 36=1 from rfl,show opKi 36=1 from rfl]
 rw [show opWd 36=⟨#[115,101,120,56]⟩ from rfl] at hw ⊢
 generalize wordsV=V at hw
 go_enter Tryz.func49,Tryz.ntmps49
 go_wp2_with (go_at_call 65;refine (hw _).mono ?_;rintro e wq ⟨rfl,hq⟩;subst wq)
 exact bodyPost_ret (rowRs (by kernel_rfl) _ _ w.heap.size _ rfl (heap3 w _ _ _) _ rfl rfl) rfl ⟨rfl,bel (bel (bel (Below.refl _ _)))⟩
theorem rinfo42 (w:World):Calls Tryz.prog 49 #[.int .u8 42] w fun e w'=>e=.returned (.tuple #[.agg #[.string (opWd 42),.int .i64 (opWi 42),.int .u32 (opMo 42),.int .i64 (opTa 42),.int .i64 (opGi 42),.int .u8 (opKi 42)],.bool true])∧Below w.heap.size w w':=by
 have hw:=fun w=>word_any 42 w (by decide)
 rw [show opWi 42=0 from rfl,show opMo 42=0 from rfl,show opTa 42=2 from rfl,show opGi 42=1 from rfl,show opKi 42=1 from rfl]
 rw [show opWd 42=⟨#[100,105,118,105]⟩ from rfl] at hw ⊢
 generalize wordsV=V at hw
 go_enter Tryz.func49,Tryz.ntmps49
 go_wp2_with (go_at_call 65;refine (hw _).mono ?_;rintro e wq ⟨rfl,hq⟩;subst wq)
 exact bodyPost_ret (rowRs (by kernel_rfl) _ _ w.heap.size _ rfl (heap3 w _ _ _) _ rfl rfl) rfl ⟨rfl,bel (bel (bel (Below.refl _ _)))⟩
theorem rinfo48 (w:World):Calls Tryz.prog 49 #[.int .u8 48] w fun e w'=>e=.returned (.tuple #[.agg #[.string (opWd 48),.int .i64 (opWi 48),.int .u32 (opMo 48),.int .i64 (opTa 48),.int .i64 (opGi 48),.int .u8 (opKi 48)],.bool true])∧Below w.heap.size w w':=by
 have hw:=fun w=>word_any 48 w (by decide)
 rw [show opWi 48=0 from rfl,show opMo 48=0 from rfl,show opTa 48=2 from rfl,show opGi 48=1 from rfl,show opKi 48=1 from rfl]
 rw [show opWd 48=⟨#[120,111,114]⟩ from rfl] at hw ⊢
 generalize wordsV=V at hw
 go_enter Tryz.func49,Tryz.ntmps49
 go_wp2_with (go_at_call 65;refine (hw _).mono ?_;rintro e wq ⟨rfl,hq⟩;subst wq)
 exact bodyPost_ret (rowRs (by kernel_rfl) _ _ w.heap.size _ rfl (heap3 w _ _ _) _ rfl rfl) rfl ⟨rfl,bel (bel (bel (Below.refl _ _)))⟩
theorem rinfo54 (w:World):Calls Tryz.prog 49 #[.int .u8 54] w fun e w'=>e=.returned (.tuple #[.agg #[.string (opWd 54),.int .i64 (opWi 54),.int .u32 (opMo 54),.int .i64 (opTa 54),.int .i64 (opGi 54),.int .u8 (opKi 54)],.bool true])∧Below w.heap.size w w':=by
 have hw:=fun w=>word_any 54 w (by decide)
 rw [show opWi 54=0 from rfl,show opMo 54=0 from rfl,show opTa 54=2 from rfl,show opGi 54=1 from rfl,show opKi 54=1 from rfl]
 rw [show opWd 54=⟨#[97,100,100,102]⟩ from rfl] at hw ⊢
 generalize wordsV=V at hw
 go_enter Tryz.func49,Tryz.ntmps49
 go_wp2_with (go_at_call 65;refine (hw _).mono ?_;rintro e wq ⟨rfl,hq⟩;subst wq)
 exact bodyPost_ret (rowRs (by kernel_rfl) _ _ w.heap.size _ rfl (heap3 w _ _ _) _ rfl rfl) rfl ⟨rfl,bel (bel (bel (Below.refl _ _)))⟩
end Go.Proofs.YtibhlcfligfhdaaGreat
