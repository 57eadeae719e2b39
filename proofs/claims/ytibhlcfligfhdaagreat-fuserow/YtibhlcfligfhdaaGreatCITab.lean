import Derived.Test.YtibhlcfligfhdaaGreatRows
import Derived.WalkKit
import Derived.WalkSmall
import Derived.Laws.BitsAllLaws
import Derived.Deep.WholeRow
import Derived.Deep.QuietTactic
import Derived.BigQuiet
import Derived.Test.YtibhlcfligfhdaaGreatCPKp
import Derived.Test.YtibhlcfligfhdaaGreatCABinA
import Derived.Test.YtibhlcfligfhdaaGreatCSInB
import Derived.Deep.RegionHeld3
namespace Go.Proofs.YtibhlcfligfhdaaGreat
set_option maxHeartbeats 4000000
open Go.RowKit
set_option maxRecDepth 100000
def ops:List (List UInt8 × Nat × Nat × Nat × Nat × Nat):=[
 ([],0,0,0,0,0),
 ([110,111,112],0,0,0,0,1),
 ([98,114,101,97,107],0,0,0,0,8),
 ([101,110,116,101,114],2,65535,0,0,6),
 ([108,101,97,118,101],2,65535,1,0,7),
 ([99,97,108,108],0,0,1,1,5),
 ([103,111,116,111],2,16383,0,0,3),
 ([106,117,109,112],0,0,1,0,4),
 ([99,111,110,115,116],4,4294967295,0,1,1),
 ([108,111,99,97,108],4,4294967295,0,1,1),
 ([112,111,112],0,0,1,0,1),
 ([100,117,112],0,0,1,2,1),
 ([97,114,103],1,14,1,0,1),
 ([101,113],2,16383,2,0,2),
 ([110,101],2,16383,2,0,2),
 ([108,116,105],2,16383,2,0,2),
 ([108,101,105],2,16383,2,0,2),
 ([103,116,105],2,16383,2,0,2),
 ([103,101,105],2,16383,2,0,2),
 ([108,116,117],2,16383,2,0,2),
 ([108,101,117],2,16383,2,0,2),
 ([103,116,117],2,16383,2,0,2),
 ([103,101,117],2,16383,2,0,2),
 ([101,113,102],2,16383,2,0,2),
 ([110,101,102],2,16383,2,0,2),
 ([108,116,102],2,16383,2,0,2),
 ([108,101,102],2,16383,2,0,2),
 ([103,116,102],2,16383,2,0,2),
 ([103,101,102],2,16383,2,0,2),
 ([108,111,97,100,49],0,0,1,1,1),
 ([108,111,97,100,50],0,0,1,1,1),
 ([108,111,97,100,52],0,0,1,1,1),
 ([115,116,111,114,101,49],0,0,2,0,1),
 ([115,116,111,114,101,50],0,0,2,0,1),
 ([115,116,111,114,101,52],0,0,2,0,1),
 ([99,111,112,121],2,256,2,0,1),
 ([115,101,120,56],0,0,1,1,1),
 ([115,101,120,49,54],0,0,1,1,1),
 ([110,101,103],0,0,1,1,1),
 ([97,100,100],0,0,2,1,1),
 ([115,117,98],0,0,2,1,1),
 ([109,117,108],0,0,2,1,1),
 ([100,105,118,105],0,0,2,1,1),
 ([100,105,118,117],0,0,2,1,1),
 ([109,111,100,105],0,0,2,1,1),
 ([109,111,100,117],0,0,2,1,1),
 ([97,110,100],0,0,2,1,1),
 ([111,114],0,0,2,1,1),
 ([120,111,114],0,0,2,1,1),
 ([110,111,116],0,0,1,1,1),
 ([115,104,108],0,0,2,1,1),
 ([115,104,114,105],0,0,2,1,1),
 ([115,104,114,117],0,0,2,1,1),
 ([110,101,103,102],0,0,1,1,1),
 ([97,100,100,102],0,0,2,1,1),
 ([115,117,98,102],0,0,2,1,1),
 ([109,117,108,102],0,0,2,1,1),
 ([100,105,118,102],0,0,2,1,1),
 ([99,118,105,102],0,0,1,1,1),
 ([99,118,102,105],0,0,1,1,1)]
def opT (k:Nat):List UInt8 × Nat × Nat × Nat × Nat × Nat:=ops.getD k ([],0,0,0,0,0)
def opWd (k:Nat):ByteArray:=⟨(opT k).1.toArray⟩
def opWi (k:Nat):Nat:=(opT k).2.1
def opMo (k:Nat):Nat:=(opT k).2.2.1
def opTa (k:Nat):Nat:=(opT k).2.2.2.1
def opGi (k:Nat):Nat:=(opT k).2.2.2.2.1
def opKi (k:Nat):Nat:=(opT k).2.2.2.2.2
def rowL (k:Nat):List Value:=[.string (opWd k),.int .i64 (opWi k),.int .u32 (opMo k),.int .i64 (opTa k),.int .i64 (opGi k),.int .u8 (opKi k)]
def rowV (k:Nat):Value:=.agg (rowL k).toArray
def opsV:Array Value:=((List.range 60).flatMap rowL).toArray
def opsZ:Array Value:=((List.range 60).flatMap (fun _=>rowL 0)).toArray
theorem infoOps:(Tryz.prog.info? 93).map (fun i=>(i.zero,i.size))=some (some (.agg opsZ),360):=by kernel_rfl
def Pures (P:Program) (w:World):List Oper→List Value→Prop
 | [],[]=>True
 |o :: l,v :: vs=>(o.guard=none∧∀ a:Act,(execOp a.eval o).run P w=.ok (.value v) w)∧Pures P w l vs
 |_,_=>False
theorem wpList_pures {P:Program} {ops:Array Oper} {Q:Exit→Act→World→Prop} {rest:List Oper} {w:World}:∀ (l:List Oper) (vs:List Value) (_:Pures P w l vs) (a:Act),
   wpList P ops Q rest ((l.zip vs).foldl (fun a p=>a.put p.1.dst p.2) a) w→wpList P ops Q (l ++ rest) a w
 | [],[],_,a,hk=>hk
 | [],_ :: _,h,_,_=>h.elim
 |_ :: _,[],h,_,_=>h.elim
 | o :: l,v :: vs,h,a,hk=>by
   obtain ⟨⟨hg,hr⟩,hrest⟩:=h
   show wpList P ops Q (o :: (l ++ rest)) a w
   unfold wpList
   rw [if_pos (by simp [Region.wanted,hg])]
   refine Or.inl ?_
   show Oper.upon P o a _ Q ((execOp a.eval o).run P w)
   rw [hr a,Oper.upon_value]
   exact wpList_pures l vs hrest _ hk
def posT (l:List Nat):String:=String.ofList (l.map Char.ofNat)
def pos17:String:=posT [116,97,98,108,101,46,103,111,58,49,55]
def pos9:String:=posT [116,97,98,108,101,46,103,111,58,57]
def rop (d k:Nat):Oper:={ dst:=some d,op:=.build 92 #[(0,.const (.string (opWd k))),(1,.const (.int .i64 (opWi k))),(2,.const (.int .u32 (opMo k))),(3,.const (.int .i64 (opTa k))),(4,.const (.int .i64 (opGi k))),(5,.const (.int .u8 (opKi k)))],type:=92,pos:=pos17,after:=#[],guard:=none }
theorem rop_run (d k:Nat) (w:World) (a:Act):(execOp a.eval (rop d k)).run Tryz.prog w=.ok (.value (rowV k)) w:=by kernel_rfl
def ropN:Nat→List Nat→List Oper
 |_,[]=>[]
 |d,k :: l=>rop d k :: ropN (d+1) l
theorem rop_vals (w:World):∀ (l:List Nat) (d:Nat),Pures Tryz.prog w (ropN d l) (l.map rowV)
 | [],_=>trivial
 |k :: l,d=>⟨⟨rfl,fun a=>rop_run d k w a⟩,rop_vals w l (d+1)⟩
def perm:List Nat:=[1,2,3,4,5,6,7,8,9,10,11,12,13,14,15,16,17,18,19,20,21,22,23,24,25,26,27,28,29,30,31,32,33,34,35,36,37,38,49,53,58,59,39,40,41,42,43,44,45,46,47,48,50,51,52,54,55,56,57]
def bop:Oper:={ dst:=some 60,op:=.build 93 ((perm.zip (List.range 59)).map fun p=>(p.1,Operand.tmp (p.2+1))).toArray,type:=93,pos:=pos17,after:=((List.range 59).map fun k=>{ on:=k,ground:=Ground.data }).toArray,guard:=none }
def sop:Oper:={ dst:=none,op:=.store 93 (.tmp 0) (.tmp 60),type:=0,pos:=pos17,after:=({ on:=59,ground:=Ground.data } :: (List.range 60).map fun k=>{ on:=k,ground:=Ground.phase }).toArray,guard:=none }
def reg1:List Oper:=ropN 1 perm ++ [bop,sop]
theorem body18:Tryz.f66.body=some (.seq (.region 0 #[{ dst:=some 0,op:=Op.alloc 93,type:=0,pos:=pos9,after:=#[],guard:=none }] false) (.seq (.region 1 reg1.toArray false) .ret)):=by kernel_rfl
def act0 (p:Value):Act:={ tmps:=(p :: List.replicate 60 undef).toArray,defers:=[] }
def act1 (p:Value):Act:=((ropN 1 perm).zip (perm.map rowV)).foldl (fun a p=>a.put p.1.dst p.2) (act0 p)
theorem bop_run (p:Value) (w:World):(execOp (act1 p).eval bop).run Tryz.prog w=.ok (.value (.agg opsV)) w:=by kernel_rfl
theorem act1_60 (p:Value):((act1 p).put (some 60) (.agg opsV)).eval (.tmp 60)=.agg opsV:=by kernel_rfl
theorem act1_0 (p:Value):((act1 p).put (some 60) (.agg opsV)).eval (.tmp 0)=p:=by kernel_rfl
theorem wpList_one {P:Program} {ops:Array Oper} {Q:Exit→Act→World→Prop} {rest:List Oper} {a:Act} {w:World} {o:Oper} (hg:o.guard=none)
   (h:o.upon P a (wpList P ops Q rest) Q ((execOp a.eval o).run P w)):wpList P ops Q (o :: rest) a w:=by
 unfold wpList
 rw [if_pos (by simp [Region.wanted,hg])]
 exact Or.inl h
theorem startA (p:Value):({ tmps:=#[] ++ Array.replicate (Tryz.f66.ntmps-(#[]:Array Value).size) undef,defers:=[] }:Act).put (some 0) p=act0 p:=by kernel_rfl
theorem act2_0 (p:Value):(((act1 p).put (some 60) (.agg opsV)).put sop.dst undef).tmps.getD 0 undef=p:=by kernel_rfl
theorem act2_d (p:Value):(((act1 p).put (some 60) (.agg opsV)).put sop.dst undef).defers=[]:=by kernel_rfl
theorem opsV_all:opsV.all (·.oneCell')=true:=by kernel_rfl
theorem opsV_size:opsV.size=360:=by kernel_rfl
theorem opsZ_size:opsZ.size=360:=by kernel_rfl
theorem ops_res:Tryz.f66.results=#[ResultVar.cell 0 93]:=by kernel_rfl
theorem ops_und:Tryz.prog.underlying 93=some (.array 60 92):=by kernel_rfl
theorem ops_any (w:World):Calls Tryz.prog 66 #[] w fun e w'=>e=.returned (.agg opsV)∧w'=w.alloc (.cells opsV 93):=by
 refine calls_of_wp Tryz.func66 body18 ?_
 obtain ⟨hz,hs⟩:=zero_of_info infoOps
 refine wp_seq (wp_region_list ?_)
 refine wpList_one rfl ?_
 have e1:∀ a:Act,(execOp a.eval { dst:=some 0,op:=Op.alloc 93,type:=0,pos:=pos9,after:=#[],guard:=none }).run Tryz.prog w=.ok (.value (.pointer (some ⟨w.heap.size,0,none⟩))) (w.alloc (.cells opsZ 93)):=by
   intro a
   simp [execOp,Instr.alloc,hz,Result.andThen,go_sem]
 rw [e1,Oper.upon_value]
 refine wpList_nil ?_
 show Code.wp _ _ _ _ _
 refine wp_seq (wp_region_lit ?_)
 rw [startA]
 refine wpList_pures _ _ (rop_vals _ perm 1) _ ?_
 refine wpList_one rfl ?_
 show Oper.upon _ _ (act1 _) _ _ ((execOp (act1 _).eval bop).run _ _)
 rw [bop_run,Oper.upon_value]
 refine wpList_one rfl ?_
 have e2:∀ a:Act,a.eval (.tmp 0)=.pointer (some ⟨w.heap.size,0,none⟩)→a.eval (.tmp 60)=.agg opsV→(execOp a.eval sop).run Tryz.prog (w.alloc (.cells opsZ 93))=.ok .skip (w.alloc (.cells opsV 93)):=by
   intro a h0 h1
   have:=run_storeAt_new (P:=Tryz.prog) w 93 opsZ opsV (by rw [hs,opsV_size]) (by rw [opsZ_size,opsV_size]) opsV_all
   simp only [execOp,sop,h0,h1,Sem.run_bind,this,Result.andThen,Sem.run_pure]
 rw [show bop.dst=some 60 from rfl,e2 _ (act1_0 _) (act1_60 _),Oper.upon_skip]
 refine wpList_nil ?_
 show Code.wp _ _ _ _ _
 refine wp_ret ?_
 refine bodyPost_ret (v:=.agg opsV) ?_ ?_ ⟨rfl,rfl⟩
 · exact results_cell_row ops_res _ _ w.heap.size _ opsV (0,0) _ (act2_0 _) (heap_alloc_last w _) ops_und rfl (by rw [hs,opsV_size])
 · exact act2_d _
theorem bt {w a b:World} (h1:Below w.heap.size w a) (h2:Below a.heap.size a b):Below w.heap.size w b:=h1.trans (h2.mono h1.size)
theorem infoR:(Tryz.prog.info? 80).map (·.size)=some 6:=by kernel_rfl
theorem undR:∃ fs,Tryz.prog.underlying 80=some (.struct fs):=by
 have h:(match Tryz.prog.underlying 80 with|some (.struct _)=>true|_=>false)=true:=by kernel_rfl
 split at h
 · exact ⟨_,by assumption⟩
 · cases h
theorem rowRes (t2:Value) (W:World) (b:Nat) (cs:Array Value) (h6:cs.size=6) (hb:W.heap[b]?=some (.cells cs 80)) (tmps:Array Value) (h2:tmps.getD 2 undef=.pointer (some ⟨b,0,none⟩)) (h3:tmps.getD 3 undef=t2) :
   (results Tryz.f54 tmps).run Tryz.prog W=.ok (.tuple #[.agg cs,t2]) W:=by
 obtain ⟨fs,hu⟩:=undR
 rw [results_cell_tmp (p:=2) (u:=3) (ty:=80) (by kernel_rfl),h2,h3]
 have:=run_loadVar_row (P:=Tryz.prog) W b 80 80 cs (0,0) _ hb hu rfl (by rw [infoR,h6])
 simp only [asAddr,Sem.run_pure,Result.andThen,this]
theorem index_ops (w:World):∀ (op:Nat),op<60→(Instr.index 93 (.agg opsV) (.int .u8 (op:Int))).run Tryz.prog w=.ok (.agg #[.string (opWd op),.int .i64 (opWi op),.int .u32 (opMo op),.int .i64 (opTa op),.int .i64 (opGi op),.int .u8 (opKi op)]) w
 |0,_=>by kernel_rfl
 |1,_=>by kernel_rfl
 |2,_=>by kernel_rfl
 |3,_=>by kernel_rfl
 |4,_=>by kernel_rfl
 |5,_=>by kernel_rfl
 |6,_=>by kernel_rfl
 |7,_=>by kernel_rfl
 |8,_=>by kernel_rfl
 |9,_=>by kernel_rfl
 |10,_=>by kernel_rfl
 |11,_=>by kernel_rfl
 |12,_=>by kernel_rfl
 |13,_=>by kernel_rfl
 |14,_=>by kernel_rfl
 |15,_=>by kernel_rfl
 |16,_=>by kernel_rfl
 |17,_=>by kernel_rfl
 |18,_=>by kernel_rfl
 |19,_=>by kernel_rfl
 |20,_=>by kernel_rfl
 |21,_=>by kernel_rfl
 |22,_=>by kernel_rfl
 |23,_=>by kernel_rfl
 |24,_=>by kernel_rfl
 |25,_=>by kernel_rfl
 |26,_=>by kernel_rfl
 |27,_=>by kernel_rfl
 |28,_=>by kernel_rfl
 |29,_=>by kernel_rfl
 |30,_=>by kernel_rfl
 |31,_=>by kernel_rfl
 |32,_=>by kernel_rfl
 |33,_=>by kernel_rfl
 |34,_=>by kernel_rfl
 |35,_=>by kernel_rfl
 |36,_=>by kernel_rfl
 |37,_=>by kernel_rfl
 |38,_=>by kernel_rfl
 |39,_=>by kernel_rfl
 |40,_=>by kernel_rfl
 |41,_=>by kernel_rfl
 |42,_=>by kernel_rfl
 |43,_=>by kernel_rfl
 |44,_=>by kernel_rfl
 |45,_=>by kernel_rfl
 |46,_=>by kernel_rfl
 |47,_=>by kernel_rfl
 |48,_=>by kernel_rfl
 |49,_=>by kernel_rfl
 |50,_=>by kernel_rfl
 |51,_=>by kernel_rfl
 |52,_=>by kernel_rfl
 |53,_=>by kernel_rfl
 |54,_=>by kernel_rfl
 |55,_=>by kernel_rfl
 |56,_=>by kernel_rfl
 |57,_=>by kernel_rfl
 |58,_=>by kernel_rfl
 |59,_=>by kernel_rfl
 |n+60,h=>absurd h (by omega)
theorem opT_zero (k:Nat) (h:¬ (1≤k∧k≤59)):opWd k=⟨#[]⟩∧opWi k=0∧opMo k=0∧opTa k=0∧opGi k=0∧opKi k=0:=by
 have:opT k=([],0,0,0,0,0):=by
   by_cases h0:k=0
   · subst h0;rfl
   · have hl:ops.length≤k:=by show 60≤k;omega
     unfold opT
     rw [List.getD_eq_getElem?_getD,List.getElem?_eq_none hl]
     rfl
 simp [opWd,opWi,opMo,opTa,opGi,opKi,this]
def isOp (k:Nat):Bool:=decide (1≤k∧k≤59)
theorem info_any (op:Nat) (w:World) (h:op<256) :
   Calls Tryz.prog 54 #[.int .u8 op] w fun e w'=>e=.returned (.tuple #[.agg #[.string (opWd op),.int .i64 (opWi op),.int .u32 (opMo op),.int .i64 (opTa op),.int .i64 (opGi op),.int .u8 (opKi op)],.bool (isOp op)])∧Below w.heap.size w w':=by
 by_cases h1:op=0
 · subst h1
   go_enter Tryz.func54,Tryz.ntmps54
   go_wp2
   refine bodyPost_ret (v:=.tuple #[.agg #[.string ⟨#[]⟩,.int .i64 0,.int .u32 0,.int .i64 0,.int .i64 0,.int .u8 0],.bool false]) (rowRes _ _ w.heap.size _ rfl (heap_alloc_last w _) _ rfl rfl) rfl ⟨rfl,bel (Below.refl _ _)⟩
 by_cases h2:59<op
 · have hT:=opT_zero op (by omega)
   have hI:isOp op=false:=by unfold isOp;exact decide_eq_false (by omega)
   rw [hT.1,hT.2.1,hT.2.2.1,hT.2.2.2.1,hT.2.2.2.2.1,hT.2.2.2.2.2,hI]
   clear hT hI
   have hlt:¬ ((op:Int)<1):=by omega
   have hgt:(59:Int)<op:=by omega
   go_enter Tryz.func54,Tryz.ntmps54
   go_wp2
   refine bodyPost_ret (v:=.tuple #[.agg #[.string ⟨#[]⟩,.int .i64 0,.int .u32 0,.int .i64 0,.int .i64 0,.int .u8 0],.bool false]) (rowRes _ _ w.heap.size _ rfl (heap_alloc_last w _) _ rfl rfl) rfl ⟨rfl,bel (Below.refl _ _)⟩
 have hlt:¬ ((op:Int)<1):=by omega
 have hgt:¬ (59:Int)<op:=by omega
 have hI:isOp op=true:=by unfold isOp;exact decide_eq_true (by omega)
 rw [hI]
 clear hI
 have hix:=fun w=>index_ops w op (by omega)
 generalize opWd op=a0 at hix ⊢
 generalize opWi op=a1 at hix ⊢
 generalize opMo op=a2 at hix ⊢
 generalize opTa op=a3 at hix ⊢
 generalize opGi op=a4 at hix ⊢
 generalize opKi op=a5 at hix ⊢
 go_enter Tryz.func54,Tryz.ntmps54
 go_wp2_with (go_at_call 66;refine (ops_any _).mono ?_;rintro e wq ⟨rfl,hq⟩;subst wq;generalize hV:opsV=V at *;clear hV)
 exact bodyPost_ret (rowRes _ _ w.heap.size _ rfl (heap_alloc2_old w _ _) _ rfl rfl) rfl ⟨rfl,bel (bel (Below.refl _ _))⟩
def szV (op arg:Nat):Nat:=if isOp op=false then 0 else if opMo op<arg then 0 else 1+opWi op
def erV (op arg:Nat):Nat:=if isOp op=false then 70 else if opMo op<arg then 71 else 0
theorem opWi_le (k:Nat):opWi k≤4:=by
 by_cases h:1≤k∧k≤59
 · have:∀ j,j<60→opWi j≤4:=by decide
   exact this k (by omega)
 · rw [(opT_zero k h).2.1];omega
theorem opMo_lt (k:Nat):opMo k<4294967296:=by
 by_cases h:1≤k∧k≤59
 · have:∀ j,j<60→opMo j<4294967296:=by decide
   exact this k (by omega)
 · rw [(opT_zero k h).2.2.1];omega
theorem cellB {w W:World} {cs:Array Value} {t:Nat} (h:Below (w.alloc (.cells cs t)).heap.size (w.alloc (.cells cs t)) W) (i:Nat):W.cell? ⟨w.heap.size,i,none⟩=cs[i]?:=by
 refine (h.cell (p:=⟨w.heap.size,i,none⟩) (by simp)).trans ?_
 exact World.cell?_alloc_new _ _ _ _
theorem neB {w W:World} {o:Obj} (h:Below (w.alloc o).heap.size (w.alloc o) W):¬ w.heap.size=W.heap.size:=by
 have:=h.size;simp at this;omega
theorem cellC {w W:World} {cs:Array Value} {t:Nat} (h:Below (w.alloc (.cells cs t)).heap.size (w.alloc (.cells cs t)) W) (i:Nat) (v:Value) (hv:cs[i]?=some v) (o:Obj):(W.alloc o).cell? ⟨w.heap.size,i,none⟩=some v:=by
 rw [World.cell?_alloc_old _ _ _ (by simpa using neB h),cellB h i,hv]
theorem sized_any (op arg:Nat) (w:World) (h:op<256) :
   Calls Tryz.prog 47 #[.agg #[.int .u8 op,.int .u32 arg]] w fun e w'=>e=.returned (.tuple #[.int .i64 (szV op arg),.int .i64 (erV op arg)])∧Below w.heap.size w w':=by
 have hI:=fun w=>info_any op w h
 have hWi:=opWi_le op
 have hMo:=opMo_lt op
 unfold szV erV
 cases hb:isOp op
 · rw [hb] at hI
   generalize opWd op=a0 at *
   generalize opWi op=a1 at *
   generalize opMo op=a2 at *
   generalize opTa op=a3 at *
   generalize opGi op=a4 at *
   generalize opKi op=a5 at *
   clear hb
   go_enter Tryz.func47,Tryz.ntmps47
   go_wp2_with (go_at_call 54;refine (hI _).mono ?_;rintro e wq ⟨rfl,hq⟩;have c1:=cellC hq 1 _ rfl)
   go_ret2
   exact ⟨rfl,bel (bt (bel (Below.refl _ _)) hq)⟩
 · rw [hb] at hI
   generalize opWd op=a0 at *
   generalize opWi op=a1 at *
   generalize opMo op=a2 at *
   generalize opTa op=a3 at *
   generalize opGi op=a4 at *
   generalize opKi op=a5 at *
   clear hb
   by_cases hm:a2<arg
   · rw [if_neg (by simp),if_pos hm,if_neg (by simp),if_pos hm]
     have hm':(a2:Int)<arg:=by omega
     go_enter Tryz.func47,Tryz.ntmps47
     go_wp2_with (go_at_call 54;refine (hI _).mono ?_;rintro e wq ⟨rfl,hq⟩;have c1:=cellC hq 1 _ rfl)
     go_ret2
     exact ⟨rfl,bel (bt (bel (Below.refl _ _)) hq)⟩
   · rw [if_neg (by simp),if_neg hm,if_neg (by simp),if_neg hm]
     have hm':¬ (a2:Int)<arg:=by omega
     have hwr:wrap64 (1+(a1:Int))=1+a1:=by unfold wrap64;omega
     go_enter Tryz.func47,Tryz.ntmps47
     go_wp2_with (go_at_call 54;refine (hI _).mono ?_;rintro e wq ⟨rfl,hq⟩;have c1:=cellC hq 1 _ rfl)
     go_ret2
     exact ⟨by rfl,bel (bt (bel (Below.refl _ _)) hq)⟩
open Go.WideShapes
theorem dhid {p:Prop} (h:p):Hid p:=h
structure RoS (b:Nat) (w:World) (ws:List Nat):Prop where
 obj:∃ cs:Array Value,w.heap[b]?=some (.cells cs 104 (0,0))∧cs.size=65∧cs[64]?=some (.int .i64 (ws.length:Int))∧(∀ i,i<ws.length→cs[i]?=some (.int .u32 ((ws.getD i 0:Nat):Int)))
 le:ws.length≤64
 bd:∀ x∈ws,x<4294967296
theorem RoS.lt {b:Nat} {w:World} {ws:List Nat} (h:RoS b w ws):b<w.heap.size:=by
 obtain ⟨cs,h1,_⟩:=h.obj
 exact (Array.getElem?_eq_some_iff.1 h1).1
theorem RoS.cnt {b:Nat} {w:World} {ws:List Nat} (h:RoS b w ws):w.cell? ⟨b,64,none⟩=some (.int .i64 (ws.length:Int)):=by
 obtain ⟨cs,h1,_,h3,_⟩:=h.obj
 rw [obj_cell h1];exact h3
theorem RoS.frz {b:Nat} {w:World} {ws:List Nat} (h:RoS b w ws) (i:Nat):w.frozen? ⟨b,i,none⟩=false:=by
 obtain ⟨cs,h1,_⟩:=h.obj
 exact obj_frozen h1 i
theorem RoS.wd {b:Nat} {w:World} {ws:List Nat} (h:RoS b w ws) {i:Nat} (hi:i<ws.length):w.cell? ⟨b,i,none⟩=some (.int .u32 ((ws.getD i 0:Nat):Int)):=by
 obtain ⟨cs,h1,_,_,h4⟩:=h.obj
 rw [obj_cell h1];exact h4 i hi
theorem RoS.there {b:Nat} {w:World} {ws:List Nat} (h:RoS b w ws) {i:Nat} (hi:i<65):∃ v,w.cell? ⟨b,i,none⟩=some v:=by
 obtain ⟨cs,h1,h2,_⟩:=h.obj
 exact ⟨cs[i]'(by omega),by rw [obj_cell h1];exact Array.getElem?_eq_getElem (by omega)⟩
theorem RoS.kept {b:Nat} {w w':World} {ws:List Nat} (h:RoS b w ws) {S:Nat→Prop} (hk:Kp S w w') (hn:¬ S b):RoS b w' ws:=by
 obtain ⟨cs,h1,h2⟩:=h.obj
 exact ⟨⟨cs,(hk.block b h.lt hn).trans h1,h2⟩,h.le,h.bd⟩
theorem getD_app_lt {ws:List Nat} {x i:Nat} (h:i<ws.length):(ws ++ [x]).getD i 0=ws.getD i 0:=by
 simp [List.getD,List.getElem?_append_left h]
theorem getD_app_eq (ws:List Nat) (x:Nat):(ws ++ [x]).getD ws.length 0=x:=by
 simp [List.getD]
theorem RoS.put {b:Nat} {w:World} {ws:List Nat} (h:RoS b w ws) {x:Nat} (hx:x<4294967296) (hl:ws.length<64) :
   RoS b ((w.setCell ⟨b,ws.length,none⟩ (.int .u32 (x:Int))).setCell ⟨b,64,none⟩ (.int .i64 ((ws.length:Int)+1))) (ws ++ [x]):=by
 obtain ⟨cs,h1,h2,h3,h4⟩:=h.obj
 have e1:=heap_setCell_same w b ws.length _ _ (.int .u32 (x:Int)) h1
 have e2:=heap_setCell_same _ b 64 _ _ (.int .i64 ((ws.length:Int)+1)) e1
 refine ⟨⟨_,e2,by simp [h2],?_,?_⟩,by simp;omega,?_⟩
 · rw [Array.getElem?_setIfInBounds_self_of_lt (by simp [h2])]
   simp
 · intro i hi
   simp only [List.length_append,List.length_cons,List.length_nil] at hi
   rw [Array.getElem?_setIfInBounds_ne (by omega)]
   by_cases hlt:i<ws.length
   · rw [Array.getElem?_setIfInBounds_ne (by omega),getD_app_lt hlt]
     exact h4 i hlt
   · have:i=ws.length:=by omega
     subst this
     rw [Array.getElem?_setIfInBounds_self_of_lt (by omega),getD_app_eq]
 · intro y hy
   rw [List.mem_append,List.mem_singleton] at hy
   rcases hy with hy|rfl
   · exact h.bd y hy
   · exact hx
theorem RoS.drop {b:Nat} {w:World} {ws:List Nat} {x:Nat} (h:RoS b w (ws ++ [x])) :
   RoS b (w.setCell ⟨b,64,none⟩ (.int .i64 (ws.length:Int))) ws:=by
 obtain ⟨cs,h1,h2,h3,h4⟩:=h.obj
 have e1:=heap_setCell_same w b 64 _ _ (.int .i64 (ws.length:Int)) h1
 have hle:=h.le
 simp only [List.length_append,List.length_cons,List.length_nil] at hle
 refine ⟨⟨_,e1,by simp [h2],?_,?_⟩,by omega,fun y hy=>h.bd y (List.mem_append_left _ hy)⟩
 · rw [Array.getElem?_setIfInBounds_self_of_lt (by omega)]
 · intro i hi
   rw [Array.getElem?_setIfInBounds_ne (by omega),←getD_app_lt (x:=x) hi]
   exact h4 i (by simp;omega)
theorem RoS.drewN {b:Nat} {w:World} {ws:List Nat} (h:RoS b w ws) (n:Nat):RoS b (w.drewN n) ws:=⟨h.obj,h.le,h.bd⟩
theorem RoS.drew {b:Nat} {w:World} {ws:List Nat} (h:RoS b w ws):RoS b w.drew ws:=⟨h.obj,h.le,h.bd⟩
theorem push_any (b x:Nat) (w:World) (ws:List Nat) (h:RoS b w ws) (hx:x<4294967296) (hl:ws.length<64) :
   Calls Tryz.prog 86 #[.pointer (some ⟨b,0,none⟩),.int .u32 (x:Int)] w fun e w'=>e=.returned (.tuple #[])∧RoS b w' (ws ++ [x])∧Kp (fun k=>k=b) w w':=by
 have c64:=h.cnt
 obtain ⟨v,cn⟩:=h.there (i:=ws.length) (by omega)
 have f64:=h.frz 64
 have fn:=h.frz ws.length
 have HP:=dhid ((h.put hx hl).drew)
 have hd:decide ((ws.length:Int)<64)=true:=by simp;omega
 have hlt:(ws.length:Int)<64:=by omega
 have hne:¬ ws.length=64:=by omega
 clear h
 generalize hn:ws.length=n at *
 go_enter Tryz.func86,Tryz.ntmps86
 go_wp2
 go_region
 go_wp2
 first|go_end0|refine bodyPost_ret (results_none rfl _ _ _) rfl ?_
 refine ⟨rfl,?_,?_⟩
 · exact HP.out
 · exact ⟨rfl,rfl,rfl,by simp,fun k hk hn=>(Below.heap_setCell _ _ _ _ hn).trans (Below.heap_setCell _ _ _ _ hn)⟩
theorem pop_any (b x:Nat) (w:World) (ws:List Nat) (h:RoS b w (ws ++ [x])) :
   Calls Tryz.prog 87 #[.pointer (some ⟨b,0,none⟩)] w fun e w'=>e=.returned (.int .u32 (x:Int))∧RoS b w' ws∧Kp (fun k=>k=b) w w':=by
 have c64:=h.cnt
 have hle:=h.le
 rw [List.length_append,List.length_singleton] at c64 hle
 have cn:=h.wd (i:=ws.length) (by simp)
 rw [getD_app_eq] at cn
 have f64:=h.frz 64
 have HP:=dhid (fun n=>h.drop.drewN n)
 have hd:decide ((ws.length:Int)<64)=true:=by simp;omega
 have hlt:(ws.length:Int)<64:=by omega
 have hne:¬ ws.length=64:=by omega
 have hne':¬ 64=ws.length:=by omega
 clear h
 generalize hn:ws.length=n at *
 go_enter Tryz.func87,Tryz.ntmps87
 go_wp2
 go_quiet (fail)
 go_wp2
 go_ret
 refine ⟨rfl,?_,?_⟩
 · exact HP.out _
 · exact ⟨rfl,rfl,rfl,by simp,fun k hk hn=>Below.heap_setCell _ _ _ _ hn⟩
theorem pop2_any (b x y:Nat) (w:World) (ws:List Nat) (h:RoS b w (ws ++ [x] ++ [y])) :
   Calls Tryz.prog 84 #[.pointer (some ⟨b,0,none⟩)] w fun e w'=>e=.returned (.tuple #[.int .u32 (x:Int),.int .u32 (y:Int)])∧RoS b w' ws∧Kp (fun k=>k=b) w w':=by
 have H1:=dhid (pop_any b y w (ws ++ [x]) h)
 have H2:=dhid (fun w'=>pop_any b x w' ws)
 clear h
 go_enter Tryz.func84,Tryz.ntmps84
 go_wp2_with (go_at_call 87;first|(refine H1.out.mono ?_;rintro e w1 ⟨rfl,h1,k1⟩)|(refine (H2.out _ h1).mono ?_;rintro e w2 ⟨rfl,h2,k2⟩))
 go_ret2
 exact ⟨rfl,h2,k1.trans k2 (fun _ _ e=>e)⟩
theorem unV_lt (op a:Nat) (ha:a<4294967296):unV op a<4294967296:=by
 unfold unV
 repeat' split
 all_goals first|(unfold sex8;split <;> omega)|(unfold sex16;split <;> omega)|exact tn_lt ha|exact fof_lt _|omega
theorem pow_div_le (a b:Nat):a / 2 ^ (b % 32)≤a:=Nat.div_le_self _ _
theorem ite_lt' {c:Prop} [Decidable c] {x y n:Nat} (hx:x<n) (hy:y<n):(if c then x else y)<n:=by split <;> assumption
theorem binV_lt (op a b:Nat) (ha:a<4294967296) (hb:b<4294967296):binV op a b<4294967296:=by
 have h1:=Nat.and_le_left (n:=a) (m:=b)
 have h2:a ||| b<2 ^ 32:=Nat.or_lt_two_pow (by omega) (by omega)
 have h3:a ^^^ b<2 ^ 32:=Nat.xor_lt_two_pow (by omega) (by omega)
 have h4:=Nat.div_le_self a b
 have h5:=Nat.mod_le a b
 have h6:=pow_div_le a b
 unfold binV
 repeat' refine ite_lt' ?_ ?_
 all_goals first|exact fsum_lt _ _|exact fmul_lt _ _|exact fdiv_lt _ _|omega
theorem last_cut (ws:List Nat) (h:0<ws.length):ws=ws.dropLast ++ [ws.getLastD 0]:=by
 cases ws with
 |nil=>simp at h
 |cons x xs=>simp [List.getLastD_eq_getLast?,List.getLast?_eq_some_getLast,List.dropLast_concat_getLast]
theorem dropLast_len (ws:List Nat):ws.dropLast.length=ws.length-1:=by simp
theorem dropLast_bd {ws:List Nat} (h:∀ x∈ws,x<4294967296):∀ x∈ws.dropLast,x<4294967296:=fun x hx=>h x (List.dropLast_subset _ hx)
theorem getLastD_bd {ws:List Nat} (h:∀ x∈ws,x<4294967296):ws.getLastD 0<4294967296:=by
 by_cases hl:0<ws.length
 · exact h _ (by rw [last_cut ws hl];simp)
 · have:ws=[]:=List.length_eq_zero_iff.1 (by omega)
   subst this;decide
def wkV (ws:List Nat) (op:Nat):Option (List Nat):=
 if opTa op=1 then (if unE op=0 then some (ws.dropLast ++ [unV op (ws.getLastD 0)]) else none)
 else if opTa op=2 then (if binE op (ws.getLastD 0)=0 then some (ws.dropLast.dropLast ++ [binV op (ws.dropLast.getLastD 0) (ws.getLastD 0)]) else none)
 else none
def plV (ws:List Nat) (op arg:Nat):Option (List Nat):=
 if op=1 then some ws else if op=8 then some (ws ++ [arg]) else if op=10 then some ws.dropLast else if op=11 then some (ws.dropLast ++ [ws.getLastD 0] ++ [ws.getLastD 0]) else wkV ws op
def brB (ws:List Nat) (op:Nat):Bool:=decide (opTa op≤ws.length∧ws.length-opTa op+opGi op≤64)
def leftV (ws:List Nat) (len:Nat):Nat × Nat × Nat:=if ws.length=0 then (len,4,0) else (len,2,ws.getD 0 0)
def cmpV (ws:List Nat) (op arg len:Nat):Nat × Nat × Nat:=if hoV op (ws.getD 0 0) (ws.getD 1 0) then (len,3,arg) else (len,4,0)
def lgF:List (Nat × Nat)→List Nat→Nat→Nat × Nat × Nat→Nat × Nat × Nat
 | [],_,_,c=>c
 | p :: r,ws,i,c=>
   if erV p.1 p.2=0∧brB ws p.1=true then
     (if opKi p.1=2 then (if ws.length=opTa p.1 then cmpV ws p.1 p.2 (i+1) else c)
      else match plV ws p.1 p.2 with
       |none=>c
       |some ws'=>lgF r ws' (i+1) (if 0<i∧ws'.length≤1 then leftV ws' (i+1) else c))
   else c
def lgV (L:List (Nat × Nat)):Nat × Nat × Nat:=lgF L [] 0 (1,1,0)
theorem ta_small:∀ op,op<256→opTa op≤2000000∧opGi op≤2000000:=by decide +kernel
theorem ta_cmp:∀ op,op<256→opKi op=2→opTa op=2:=by decide +kernel
theorem ta_8:opTa 8=0∧opGi 8=1:=by decide +kernel
theorem ta_10:opTa 10=1:=by decide +kernel
theorem ta_11:opTa 11=1∧opGi 11=2:=by decide +kernel
def doD (ws:List Nat) (op arg:Nat):Option (List Nat):=
 if op=1 then some ws
 else if op=8 then (if ws.length+1≤64 then some (ws ++ [arg]) else none)
 else if op=10 then (if 1≤ws.length then some ws.dropLast else none)
 else if op=11 then (if 1≤ws.length∧ws.length+1≤64 then some (ws ++ [ws.getLastD 0]) else none)
 else if unE op=0 then (if 1≤ws.length then some (ws.dropLast ++ [unV op (ws.getLastD 0)]) else none)
 else if binE op 1=0 then (if 2≤ws.length∧binE op (ws.getLastD 0)=0 then some (ws.dropLast.dropLast ++ [binV op (ws.dropLast.getLastD 0) (ws.getLastD 0)]) else none)
 else none
theorem tab_un:∀ op,op<256→unE op=0→opTa op=1∧opGi op=1∧¬ op=1∧¬ op=8∧¬ op=10∧¬ op=11:=by decide +kernel
theorem tab_bin:∀ op,op<256→binE op 1=0→opTa op=2∧opGi op=1∧¬ op=1∧¬ op=8∧¬ op=10∧¬ op=11:=by decide +kernel
theorem tab_1:opTa 1=0∧opGi 1=0:=by decide +kernel
theorem tab_10:opTa 10=1∧opGi 10=0:=by decide +kernel
theorem binE_61 {op:Nat} (h:¬ binE op 1=0) (b:Nat):¬ binE op b=0:=by
 unfold binE at *
 by_cases h1:op=42∨op=43∨op=44∨op=45
 · rw [if_pos h1,if_neg (by decide)] at h;exact absurd rfl h
 · rw [if_neg h1] at h ⊢;exact h
theorem doD_eq {ws:List Nat} {op arg:Nat} (hop:op<256) (hl:ws.length≤64):doD ws op arg=if brB ws op=true then plV ws op arg else none:=by
 unfold doD plV
 by_cases h1:op=1
 · subst h1;simp [brB,tab_1,hl]
 by_cases h8:op=8
 · subst h8;simp [brB,ta_8]
 by_cases h10:op=10
 · subst h10
   show (if 1≤ws.length then some ws.dropLast else none)=if brB ws 10=true then some ws.dropLast else none
   simp only [brB,tab_10,decide_eq_true_eq]
   by_cases hw:1≤ws.length
   · rw [if_pos hw,if_pos (by omega)]
   · rw [if_neg hw,if_neg (by omega)]
 by_cases h11:op=11
 · subst h11
   show (if 1≤ws.length∧ws.length+1≤64 then some (ws ++ [ws.getLastD 0]) else none)=if brB ws 11=true then some (ws.dropLast ++ [ws.getLastD 0] ++ [ws.getLastD 0]) else none
   simp only [brB,ta_11,decide_eq_true_eq]
   by_cases hw:1≤ws.length∧ws.length+1≤64
   · rw [if_pos hw,if_pos (by omega),←last_cut ws hw.1]
   · rw [if_neg hw,if_neg (by omega)]
 simp only [h1,h8,h10,h11,if_false]
 unfold wkV
 by_cases hu:unE op=0
 · obtain ⟨t1,t2,_⟩:=tab_un op hop hu
   simp only [hu,if_true,t1,brB,t2,decide_eq_true_eq]
   by_cases hw:1≤ws.length
   · rw [if_pos hw,if_pos (by omega)]
   · rw [if_neg hw,if_neg (by omega)]
 · simp only [hu,if_false]
   by_cases hb:binE op 1=0
   · obtain ⟨t1,t2,_⟩:=tab_bin op hop hb
     simp only [hb,if_true,t1,brB,t2,decide_eq_true_eq]
     by_cases hw:2≤ws.length
     · rw [if_pos (show 2≤ws.length∧ws.length-2+1≤64 by omega)]
       simp [hw]
     · rw [if_neg (fun e=>hw e.1),if_neg (by omega)]
   · simp only [hb,if_false]
     split
     · split
       · rfl
       · split
         · rw [if_neg (binE_61 hb _)]
         · rfl
     · rfl
def plD:List (Nat × Nat)→List Nat→Option (Nat × Nat)
 | [],ws=>if ws.length=0 then some (4,0) else if ws.length=1 then some (2,ws.getD 0 0) else none
 | p :: r,ws=>
   if erV p.1 p.2=0 then
     (if opKi p.1=2 then (if r=[]∧ws.length=2 then some (if hoV p.1 (ws.getD 0 0) (ws.getD 1 0) then (3,p.2) else (4,0)) else none)
      else match doD ws p.1 p.2 with
       |none=>none
       |some ws'=>plD r ws')
   else none
theorem doD_len {ws ws':List Nat} {op arg:Nat} (hl:ws.length≤64) (h:doD ws op arg=some ws'):ws'.length≤64:=by
 unfold doD at h
 split at h
 · cases h;exact hl
 split at h
 · split at h <;> cases h;simp;omega
 split at h
 · split at h <;> cases h;simp;omega
 split at h
 · split at h <;> cases h;simp;omega
 split at h
 · split at h <;> cases h;simp;omega
 split at h
 · split at h <;> cases h;simp;omega
 · cases h
def Bst (L:List (Nat × Nat)) (ws:List Nat) (i:Nat) (c res:Nat × Nat × Nat):Prop:=
 (∃ n k v,1≤n∧n≤L.length∧2≤i+n∧plD (L.take n) ws=some (k,v)∧res=(i+n,k,v)∧∀ m,n<m→m≤L.length→plD (L.take m) ws=none)
 ∨ (∀ n,1≤n→n≤L.length→2≤i+n→plD (L.take n) ws=none)∧res=c
theorem plD_er {p:Nat × Nat} {r:List (Nat × Nat)} {ws:List Nat} (h:¬ erV p.1 p.2=0):plD (p :: r) ws=none:=by simp [plD,h]
theorem plD_no {p:Nat × Nat} {r:List (Nat × Nat)} {ws:List Nat} (h2:¬ opKi p.1=2) (h3:doD ws p.1 p.2=none):plD (p :: r) ws=none:=by simp [plD,h2,h3]
theorem plD_on {p:Nat × Nat} {r:List (Nat × Nat)} {ws ws':List Nat} (h1:erV p.1 p.2=0) (h2:¬ opKi p.1=2) (h3:doD ws p.1 p.2=some ws'):plD (p :: r) ws=plD r ws':=by simp [plD,h1,h2,h3]
theorem plD_cmp {p:Nat × Nat} {r:List (Nat × Nat)} {ws:List Nat} (h1:erV p.1 p.2=0) (h2:opKi p.1=2):plD (p :: r) ws=if r=[]∧ws.length=2 then some (if hoV p.1 (ws.getD 0 0) (ws.getD 1 0) then (3,p.2) else (4,0)) else none:=by simp [plD,h1,h2]
theorem take_pos {p:Nat × Nat} {r:List (Nat × Nat)} {n:Nat} (h:1≤n):(p :: r).take n=p :: r.take (n-1):=by
 obtain ⟨k,rfl⟩:∃ k,n=k+1:=⟨n-1,by omega⟩
 simp
theorem bst_none {L:List (Nat × Nat)} {ws:List Nat} {i:Nat} {c:Nat × Nat × Nat} (h:∀ n,1≤n→n≤L.length→plD (L.take n) ws=none):Bst L ws i c c:=.inr ⟨fun n h1 h2 _=>h n h1 h2,rfl⟩
theorem tab_cmpb:∀ op,op<256→opKi op=2→opTa op=2∧opGi op=0:=by decide +kernel
theorem lgF_bst:∀ (L:List (Nat × Nat)) (ws:List Nat) (i:Nat) (c:Nat × Nat × Nat),(∀ p∈L,p.1<256)→ws.length≤64→(i=0→ws=[])→Bst L ws i c (lgF L ws i c)
 | [],ws,i,c,_,_,_=>bst_none (fun n h1 h2=>absurd h2 (by simp;omega))
 | p :: r, ws, i,c,hL,hl,h0=>by
   have hop:=hL p (by simp)
   by_cases h1:erV p.1 p.2=0
   · by_cases h2:opKi p.1=2
     · obtain ⟨t1,t2⟩:=tab_cmpb p.1 hop h2
       by_cases hw:ws.length=2
       · have hbr:brB ws p.1=true:=by simp [brB,t1,t2,hw]
         have e:lgF (p :: r) ws i c=cmpV ws p.1 p.2 (i+1):=by simp [lgF,h1,hbr,h2,hw,t1]
         have hi:0<i:=by
           rcases Nat.eq_zero_or_pos i with h|h
           · rw [h0 h] at hw;simp at hw
           · exact h
         rw [e]
         unfold cmpV
         refine .inl ⟨1,if hoV p.1 (ws.getD 0 0) (ws.getD 1 0) then 3 else 4,if hoV p.1 (ws.getD 0 0) (ws.getD 1 0) then p.2 else 0,Nat.le_refl _,by simp,by omega,?_,?_,?_⟩
         · rw [take_pos (Nat.le_refl _),plD_cmp h1 h2,if_pos ⟨by simp,hw⟩]
           split <;> rfl
         · split <;> rfl
         · intro m hm hm2
           rw [take_pos (by omega),plD_cmp h1 h2,if_neg]
           rintro ⟨h,_⟩
           have:=congrArg List.length h
           rw [List.length_take,List.length_nil] at this
           rw [List.length_cons] at hm2
           omega
       · have e:lgF (p :: r) ws i c=c:=by
           simp only [lgF,h1,h2,t1,if_true]
           simp [hw]
         rw [e]
         exact bst_none (fun n hn _=>by rw [take_pos hn,plD_cmp h1 h2,if_neg (fun h=>hw h.2)])
     · have hd := doD_eq (arg:=p.2) hop hl
       cases hdo:doD ws p.1 p.2 with
       | none=>
         rw [hdo] at hd
         have e:lgF (p :: r) ws i c=c:=by
           by_cases hb:brB ws p.1=true
           · rw [if_pos hb] at hd
             simp [lgF,h1,h2,hb,←hd]
           · simp [lgF,hb]
         rw [e]
         exact bst_none (fun n hn _=>by rw [take_pos hn];exact plD_no h2 hdo)
       | some ws'=>
         rw [hdo] at hd
         have hb:brB ws p.1=true:=by
           cases h:brB ws p.1 with
           |true=>rfl
           |false=>rw [h] at hd;simp at hd
         rw [if_pos hb] at hd
         have e:lgF (p :: r) ws i c=lgF r ws' (i+1) (if 0<i∧ws'.length≤1 then leftV ws' (i+1) else c):=by simp [lgF,h1,h2,hb,←hd]
         rw [e]
         have ih:=lgF_bst r ws' (i+1) (if 0<i∧ws'.length≤1 then leftV ws' (i+1) else c) (fun q hq=>hL q (by simp [hq])) (doD_len hl hdo) (fun h=>by omega)
         have ht:∀ n,1≤n→plD ((p :: r).take n) ws=plD (r.take (n-1)) ws':=fun n hn=>by rw [take_pos hn];exact plD_on h1 h2 hdo
         rcases ih with ⟨n,k,v,n1,n2,n3,n4,n5,n6⟩|⟨a1,a2⟩
         · refine .inl ⟨n+1,k,v,by omega,by simpa using n2,by omega,?_,?_,?_⟩
           · rw [ht _ (by omega)];exact n4
           · rw [n5];congr 1;omega
           · intro m hm hm2
             rw [ht _ (by omega)]
             exact n6 (m-1) (by omega) (by simp at hm2;omega)
         · rw [a2]
           by_cases hc:0<i∧ws'.length≤1
           · rw [if_pos hc]
             refine .inl ⟨1,if ws'.length=0 then 4 else 2,if ws'.length=0 then 0 else ws'.getD 0 0,Nat.le_refl _,by simp,by omega,?_,?_,?_⟩
             · rw [ht _ (Nat.le_refl _)]
               simp only [Nat.sub_self,List.take_zero,plD]
               by_cases hz:ws'.length=0
               · simp [hz]
               · rw [if_neg hz,if_pos (by omega),if_neg hz,if_neg hz]
             · unfold leftV
               split <;> rfl
             · intro m hm hm2
               rw [ht _ (by omega)]
               exact a1 (m-1) (by omega) (by simp at hm2;omega) (by omega)
           · rw [if_neg hc]
             refine .inr ⟨?_,rfl⟩
             intro n hn hn2 hn3
             rw [ht _ hn]
             by_cases hn1:n=1
             · subst hn1
               simp only [Nat.sub_self,List.take_zero,plD]
               rw [if_neg (by omega),if_neg (by omega)]
             · exact a1 (n-1) (by omega) (by simp at hn2;omega) (by omega)
   · rw [show lgF (p :: r) ws i c=c by simp [lgF,h1]]
     exact bst_none (fun n hn _=>by rw [take_pos hn];exact plD_er h1)
def kn (op:Nat):Bool:=decide (op=1∨op=8∨op=10∨op=11∨unE op=0∨binE op 1=0∨opKi op=2)
theorem doD_unk {ws:List Nat} {op arg:Nat} (h:kn op=false):doD ws op arg=none∧¬ opKi op=2:=by
 have h':=of_decide_eq_false h
 simp only [not_or] at h'
 obtain ⟨h1,h8,h10,h11,hu,hb,hk⟩:=h'
 exact ⟨by simp only [doD,h1,h8,h10,h11,hu,hb,if_false],hk⟩
theorem plD_unk {p:Nat × Nat} (h:kn p.1=false):∀ (A B:List (Nat × Nat)) (ws:List Nat),plD (A ++ p :: B) ws=none
 | [],_,ws=>plD_no (doD_unk (ws:=ws) (arg:=p.2) h).2 (doD_unk h).1
 | q :: A,B,ws=>by
   rw [List.cons_append]
   by_cases h1:erV q.1 q.2=0
   · by_cases h2:opKi q.1=2
     · rw [plD_cmp h1 h2,if_neg (by simp)]
     · cases hd:doD ws q.1 q.2 with
       |none=>exact plD_no h2 hd
       |some ws'=>rw [plD_on h1 h2 hd];exact plD_unk h A B ws'
   · exact plD_er h1
theorem plD_far {M:List (Nat × Nat)} {k n:Nat} (hk:k<M.length) (hkn:kn (M.getD k (0,0)).1=false) (hn:k<n) (hnl:n≤M.length) (ws:List Nat):plD (M.take n) ws=none:=by
 have e:M.take n=M.take k ++ M.getD k (0,0) :: (M.take n).drop (k+1):=by
   have e1:M.take n=(M.take n).take k ++ (M.take n).drop k:=(List.take_append_drop k _).symm
   rw [List.take_take,Nat.min_eq_left (by omega)] at e1
   have hl:k<(M.take n).length:=by rw [List.length_take];omega
   rw [List.drop_eq_getElem_cons hl] at e1
   rw [e1]
   congr 2
   · rw [List.getElem_take,List.getD_eq_getElem?_getD,List.getElem?_eq_getElem hk];rfl
   · rw [←e1]
 rw [e]
 exact plD_unk hkn _ _ ws
def srch (M:List (Nat × Nat)):Nat→Nat × Nat × Nat
 |0=>(1,1,0)
 |1=>(1,1,0)
 | n+2=>match plD (M.take (n+2)) [] with
   |some q=>(n+2,q.1,q.2)
   |none=>srch M (n+1)
theorem srch_hit {M:List (Nat × Nat)} {n k v:Nat} (h2:2≤n) (h:plD (M.take n) []=some (k,v)):srch M n=(n,k,v):=by
 obtain ⟨j,rfl⟩:∃ j,n=j+2:=⟨n-2,by omega⟩
 simp [srch,h]
theorem srch_miss {M:List (Nat × Nat)} {n:Nat} (h:plD (M.take (n+1)) []=none) (h1:1≤n):srch M (n+1)=srch M n:=by
 obtain ⟨j,rfl⟩:∃ j,n=j+1:=⟨n-1,by omega⟩
 simp [srch,h]
theorem srch_down {M:List (Nat × Nat)} {n:Nat} (h1:1≤n):∀ d,(∀ m,n<m→m≤n+d→plD (M.take m) []=none)→srch M (n+d)=srch M n
 |0,_=>rfl
 | d+1,h=>by
   rw [←Nat.add_assoc,srch_miss (h _ (by omega) (by omega)) (by omega)]
   exact srch_down h1 d (fun m a b=>h m a (by omega))
theorem srch_lgV {M:List (Nat × Nat)} {t:Nat} (hM:∀ p∈M,p.1<256) (ht:t≤M.length) (hf:∀ n,t<n→n≤M.length→plD (M.take n) []=none):srch M t=lgV M:=by
 have hb:=lgF_bst M [] 0 (1,1,0) hM (by decide) (fun _=>rfl)
 unfold lgV
 rcases hb with ⟨n,k,v,n1,n2,n3,n4,n5,n6⟩|⟨a1,a2⟩
 · have hnt:n≤t:=by
     by_cases h:n≤t
     · exact h
     · rw [hf n (by omega) n2] at n4;cases n4
   rw [n5]
   obtain ⟨d,rfl⟩:∃ d,t=n+d:=⟨t-n,by omega⟩
   rw [srch_down n1 d (fun m h1 h2=>n6 m h1 (by omega)),srch_hit (by omega) n4]
   simp
 · rw [a2]
   rcases Nat.eq_zero_or_pos t with rfl|h
   · rfl
   · obtain ⟨d,rfl⟩:∃ d,t=1+d:=⟨t-1,by omega⟩
     rw [srch_down (Nat.le_refl _) d (fun m h1 h2=>a1 m (by omega) (by omega) (by omega))]
     rfl
theorem rsig_any (a:Nat) (w:World) (ha:a<4294967296) :
   Calls Tryz.prog 80 #[.int .u32 a] w fun e w'=>e=.returned (.int .i64 (sx a))∧w'=w:=by
 unfold sx
 by_cases h':a<2147483648
 · rw [if_pos h']
   have g1:decide ((2147483648:Int)≤(a:Int))=false:=decide_eq_false (by omega)
   obtain ⟨x,hx⟩:∃ x:Int,x=(a:Int):=⟨_,rfl⟩
   rw [←hx] at g1 ⊢
   have x0:0≤x:=by omega
   have x1:x≤2147483647:=by omega
   clear hx ha h'
   go_enter Tryz.func80,Tryz.ntmps80
   go_wp2
   go_ret
   exact ⟨rfl,rfl⟩
 · rw [if_neg h']
   have g1:decide ((2147483648:Int)≤(a:Int))=true:=decide_eq_true (by omega)
   obtain ⟨x,hx⟩:∃ x:Int,x=(a:Int):=⟨_,rfl⟩
   rw [←hx] at g1 ⊢
   have x0:0≤x:=by omega
   have x1:x≤4294967295:=by omega
   have hw:wrap64 (x-4294967296)=x-4294967296:=by unfold wrap64;omega
   clear hx ha h'
   go_enter Tryz.func80,Tryz.ntmps80
   go_wp2
   go_ret
   exact ⟨rfl,rfl⟩
theorem tmod_cases (z:Int):z.tmod 4294967296=z % 4294967296∧0≤z.tmod 4294967296∨z.tmod 4294967296=z % 4294967296-4294967296∧z.tmod 4294967296<0∨z.tmod 4294967296=0∧z % 4294967296=0:=by
 by_cases h:0≤z
 · left
   rw [Int.tmod_eq_emod_of_nonneg h]
   exact ⟨rfl,Int.emod_nonneg _ (by decide)⟩
 · have e:z.tmod 4294967296 = -((-z) % 4294967296):=by
     rw [←Int.tmod_eq_emod_of_nonneg (by omega:0 ≤ -z),Int.neg_tmod,Int.neg_neg]
   rw [e]
   omega
theorem rwrap_any (z:Int) (w:World) : 
   Calls Tryz.prog 89 #[.int .i64 z] w fun e w'=>e=.returned (.int .u32 (z % 4294967296))∧w'=w:=by
 have e0:(0:Int)≤z % 4294967296:=Int.emod_nonneg _ (by decide)
 have e1:z % 4294967296<4294967296:=Int.emod_lt_of_pos _ (by decide)
 have hc:=tmod_cases z
 obtain ⟨r,hr⟩:∃ r,z % 4294967296=r:=⟨_,rfl⟩
 obtain ⟨y,hy⟩:∃ y,z.tmod 4294967296=y:=⟨_,rfl⟩
 rw [hr] at e0 e1 hc ⊢
 rw [hy] at hc
 have hn:y<0∧y+4294967296=r∨¬ y<0∧y=r:=by omega
 have hw0:wrap64 y=y:=by unfold wrap64;omega
 rcases hn with ⟨h1,h2⟩|⟨h1,h2⟩
 · have hw:wrap64 (y+4294967296)=r:=by unfold wrap64;omega
   have hv:r % 4294967296=r:=by omega
   clear hc hr
   go_enter Tryz.func89,Tryz.ntmps89
   go_wp2
   go_ret
   exact ⟨rfl,rfl⟩
 · subst h2
   have hv:y % 4294967296=y:=by omega
   clear hc hr
   go_enter Tryz.func89,Tryz.ntmps89
   go_wp2
   go_ret
   exact ⟨rfl,rfl⟩
theorem btw {a W w1:World} (h:Below W.heap.size W w1) (h':Below a.heap.size a W):Below a.heap.size a w1:=h'.trans (h.mono h'.size)
theorem rpow_any (n:Nat) (w:World) (hn:n≤32) :
   Calls Tryz.prog 96 #[.int .u32 n] w fun e w'=>e=.returned (.int .i64 ((2 ^ n:Nat):Int))∧w'=w:=by
 go_enter Tryz.func96,Tryz.ntmps96
 go_wp2
 go_loop [3,4] (fun p i=>∃ k:Nat,k≤n∧i=.int .u32 k∧p=.int .i64 ((2 ^ k:Nat):Int)) (fun _ i=>n-(intOf i).toNat)
 case atStart=>exact ⟨0,by omega,rfl,by simp⟩
 case round=>
   obtain ⟨k,hk,rfl,rfl⟩:=hrel
   by_cases hlt:k<n
   · have hI:(k:Int)<(n:Int):=by omega
     have hp:(2:Nat) ^ (k+1)≤4294967296:=Nat.pow_le_pow_right (by decide) (show k+1≤32 by omega)
     have hs:(2:Nat) ^ (k+1)=2 ^ k*2:=Nat.pow_succ ..
     have HS:Hid ((2:Nat) ^ (k+1)=2 ^ k*2):=hs
     obtain ⟨g,hg⟩:∃ g,(2:Nat) ^ k=g:=⟨_,rfl⟩
     rw [hs,hg] at hp
     have hw:wrap64 ((g:Int)*2)=(g:Int)*2:=by unfold wrap64;omega
     have hw2:IntKind.u32.wrap ((k:Int)+1)=(k:Int)+1:=by simp [IntKind.wrap,IntKind.signed,IntKind.bits];omega
     have HG:Hid ((2:Nat) ^ k=g):=hg
     rw [hg]
     clear hs hg
     go_wp2
     go_round
     case rel=>exact ⟨k+1,by omega,by go_num,by rw [HS.out,HG.out];simp⟩
     case measure=>simp [intOf];omega
   · obtain rfl:k=n:=by omega
     go_wp2
     go_ret
     exact ⟨rfl,rfl⟩
theorem floor_eq (x p:Int) (hp:0<p):x / p=if x.tmod p<0 then x.tdiv p-1 else x.tdiv p:=by
 by_cases h:0≤x
 · rw [Int.tdiv_eq_ediv_of_nonneg h,Int.tmod_eq_emod_of_nonneg h,if_neg (by have:=Int.emod_nonneg x (show p≠0 by omega);omega)]
 · have e1:x.tmod p = -((-x) % p):=by rw [←Int.tmod_eq_emod_of_nonneg (by omega:0 ≤ -x),Int.neg_tmod,Int.neg_neg]
   have e2:x.tdiv p = -((-x) / p):=by rw [←Int.tdiv_eq_ediv_of_nonneg (by omega:0 ≤ -x),Int.neg_tdiv,Int.neg_neg]
   have e3:=Int.mul_ediv_add_emod (-x) p
   have e4:=Int.emod_nonneg (-x) (show p≠0 by omega)
   have e5:=Int.emod_lt_of_pos (-x) hp
   rw [e1,e2]
   generalize hq:(-x) / p=q at *
   generalize hr:(-x) % p=r at *
   by_cases hr0:r=0
   · rw [if_neg (by omega)]
     subst hr0
     rw [show x = -(p*q) by omega,Int.neg_ediv_of_dvd ⟨q,rfl⟩,Int.mul_ediv_cancel_left _ (by omega)]
   · rw [if_pos (by omega)]
     rw [show x=(p-r)+p*(-q-1) by rw [Int.mul_sub,Int.mul_neg];omega,Int.add_mul_ediv_left _ _ (by omega),Int.ediv_eq_zero_of_lt (by omega) (by omega)]
     omega
theorem rfloor_any (x p:Int) (w:World) (hx1 : -2147483648≤x) (hx2:x≤2147483647) (hp:0<p) :
   Calls Tryz.prog 97 #[.int .i64 x,.int .i64 p] w fun e w'=>e=.returned (.int .i64 (x / p))∧w'=w:=by
 rw [floor_eq x p hp]
 have hb:(x.tdiv p).natAbs≤x.natAbs:=by rw [Int.natAbs_tdiv];exact Nat.div_le_self _ _
 have hb2:(x.tmod p).natAbs≤x.natAbs:=by rw [Int.natAbs_tmod];exact Nat.mod_le _ _
 have hz:¬ p=0:=by omega
 obtain ⟨q,hq⟩:∃ q,x.tdiv p=q:=⟨_,rfl⟩
 obtain ⟨r,hr⟩:∃ r,x.tmod p=r:=⟨_,rfl⟩
 rw [hq] at hb
 rw [hr] at hb2
 have hw:wrap64 q=q:=by unfold wrap64;omega
 have hw1:wrap64 (q-1)=q-1:=by unfold wrap64;omega
 have hw2:wrap64 r=r:=by unfold wrap64;omega
 rw [hq,hr]
 clear hb hb2
 by_cases h:r<0
 · rw [if_pos h]
   go_enter Tryz.func97,Tryz.ntmps97
   go_wp2
   go_ret
   exact ⟨congrArg (fun z=>Ending.returned (.int .i64 z)) hw1,rfl⟩
 · rw [if_neg h]
   go_enter Tryz.func97,Tryz.ntmps97
   go_wp2
   go_ret
   exact ⟨rfl,rfl⟩
theorem rdiv_zero (op a:Nat) (w:World) :
   Calls Tryz.prog 94 #[.int .u8 op,.int .u32 a,.int .u32 0] w fun e w'=>e=.returned (.tuple #[.int .u32 0,.int .i64 60])∧w'=w:=by
 go_enter Tryz.func94,Tryz.ntmps94
 go_wp2
 simp [bodyPost,results,Tryz.results94]
theorem rdivu (a b q:Nat) (w:World) (ha:a<4294967296) (hb:b<4294967296) (hz:b≠0) (hq:a / b=q) :
   Calls Tryz.prog 94 #[.int .u8 43,.int .u32 a,.int .u32 b] w fun e w'=>e=.returned (.tuple #[.int .u32 q,.int .i64 0])∧w'=w:=by
 have hle:=Nat.div_le_self a b
 rw [hq] at hle
 have z1:¬ (b:Int)=0:=by omega
 have e1:(a:Int).tdiv (b:Int)=(q:Int):=by rw [Int.tdiv_eq_ediv_of_nonneg (by omega),←hq];rfl
 have e2:(a:Int) / (b:Int)=(q:Int):=by rw [←hq];rfl
 have hw:wrap64 (q:Int)=(q:Int):=by unfold wrap64;omega
 have cw:∀ w,Calls Tryz.prog 89 #[.int .i64 q] w fun e w'=>e=.returned (.int .u32 q)∧w'=w:=fun w=>by
   have:=rwrap_any q w
   rw [show (q:Int) % 4294967296=(q:Int) by omega] at this
   exact this
 clear hq hle
 go_enter Tryz.func94,Tryz.ntmps94
 go_wp2_with (go_at_call 89;with_reducible refine (cw _).mono ?_;rintro e wq ⟨rfl,hq⟩;subst wq)
 simp [bodyPost,results,Tryz.results94]
theorem rmodu (a b q:Nat) (w:World) (ha:a<4294967296) (hb:b<4294967296) (hz:b≠0) (hq:a % b=q) :
   Calls Tryz.prog 94 #[.int .u8 45,.int .u32 a,.int .u32 b] w fun e w'=>e=.returned (.tuple #[.int .u32 q,.int .i64 0])∧w'=w:=by
 have hle:=Nat.mod_le a b
 rw [hq] at hle
 have z1:¬ (b:Int)=0:=by omega
 have e1:(a:Int).tmod (b:Int)=(q:Int):=by rw [Int.tmod_eq_emod_of_nonneg (by omega),←hq];rfl
 have e2:(a:Int) % (b:Int)=(q:Int):=by rw [←hq];rfl
 have hw:wrap64 (q:Int)=(q:Int):=by unfold wrap64;omega
 have cw:∀ w,Calls Tryz.prog 89 #[.int .i64 q] w fun e w'=>e=.returned (.int .u32 q)∧w'=w:=fun w=>by
   have:=rwrap_any q w
   rw [show (q:Int) % 4294967296=(q:Int) by omega] at this
   exact this
 clear hq hle
 go_enter Tryz.func94,Tryz.ntmps94
 go_wp2_with (go_at_call 89;with_reducible refine (cw _).mono ?_;rintro e wq ⟨rfl,hq⟩;subst wq)
 simp [bodyPost,results,Tryz.results94]
theorem rdivi (a b:Nat) (x y q:Int) (Q:Nat) (w:World) (hy:y≠0) (hq:x.tdiv y=q) (hQ:q % 4294967296=(Q:Int)) (hx1 : -2147483648≤x) (hx2:x≤2147483647) (hb:¬ (b:Int)=0)
   (s0:∀ w,Calls Tryz.prog 80 #[.int .u32 a] w fun e w'=>e=.returned (.int .i64 x)∧w'=w) (s1:∀ w,Calls Tryz.prog 80 #[.int .u32 b] w fun e w'=>e=.returned (.int .i64 y)∧w'=w) :
   Calls Tryz.prog 94 #[.int .u8 42,.int .u32 a,.int .u32 b] w fun e w'=>e=.returned (.tuple #[.int .u32 Q,.int .i64 0])∧w'=w:=by
 have hle:q.natAbs≤x.natAbs:=by rw [←hq,Int.natAbs_tdiv];exact Nat.div_le_self _ _
 have hw:wrap64 q=q:=by unfold wrap64;omega
 have cw:∀ w,Calls Tryz.prog 89 #[.int .i64 q] w fun e w'=>e=.returned (.int .u32 Q)∧w'=w:=fun w=>by
   have:=rwrap_any q w
   rw [hQ] at this
   exact this
 clear hle hQ
 go_enter Tryz.func94,Tryz.ntmps94
 go_wp2_with (first
   |(go_at_call 80;with_reducible refine (s0 _).mono ?_;rintro e wq ⟨rfl,hq⟩;subst wq)
   |(go_at_call 80;with_reducible refine (s1 _).mono ?_;rintro e wq ⟨rfl,hq⟩;subst wq)
   |(go_at_call 89;with_reducible refine (cw _).mono ?_;rintro e wq ⟨rfl,hq⟩;subst wq))
 simp [bodyPost,results,Tryz.results94]
theorem rmodi (a b:Nat) (x y q m r:Int) (R:Nat) (w:World) (hy:y≠0) (hq:x.tdiv y=q) (hm:q*y=m) (hr:x-m=r) (hR:r % 4294967296=(R:Int)) (hx1 : -2147483648≤x) (hx2:x≤2147483647) (hr':x.tmod y=r) (hb:¬ (b:Int)=0)
   (s0:∀ w,Calls Tryz.prog 80 #[.int .u32 a] w fun e w'=>e=.returned (.int .i64 x)∧w'=w) (s1:∀ w,Calls Tryz.prog 80 #[.int .u32 b] w fun e w'=>e=.returned (.int .i64 y)∧w'=w) :
   Calls Tryz.prog 94 #[.int .u8 44,.int .u32 a,.int .u32 b] w fun e w'=>e=.returned (.tuple #[.int .u32 R,.int .i64 0])∧w'=w:=by
 have hle:q.natAbs≤x.natAbs:=by rw [←hq,Int.natAbs_tdiv];exact Nat.div_le_self _ _
 have hle2:r.natAbs≤x.natAbs:=by rw [←hr',Int.natAbs_tmod];exact Nat.mod_le _ _
 have hw:wrap64 q=q:=by unfold wrap64;omega
 have hw1:wrap64 m=m:=by unfold wrap64;omega
 have hw2:wrap64 r=r:=by unfold wrap64;omega
 have cw:∀ w,Calls Tryz.prog 89 #[.int .i64 r] w fun e w'=>e=.returned (.int .u32 R)∧w'=w:=fun w=>by
   have:=rwrap_any r w
   rw [hR] at this
   exact this
 clear hle hle2 hR hr'
 go_enter Tryz.func94,Tryz.ntmps94
 go_wp2_with (first
   |(go_at_call 80;with_reducible refine (s0 _).mono ?_;rintro e wq ⟨rfl,hq⟩;subst wq)
   |(go_at_call 80;with_reducible refine (s1 _).mono ?_;rintro e wq ⟨rfl,hq⟩;subst wq)
   |(go_at_call 89;with_reducible refine (cw _).mono ?_;rintro e wq ⟨rfl,hq⟩;subst wq))
 simp [bodyPost,results,Tryz.results94]
theorem rdiv_any (op a b:Nat) (w:World) (ho:op=42∨op=43∨op=44∨op=45) (ha:a<4294967296) (hb:b<4294967296) :
   Calls Tryz.prog 94 #[.int .u8 op,.int .u32 a,.int .u32 b] w fun e w'=>e=.returned (.tuple #[.int .u32 (binV op a b),.int .i64 (binE op b)])∧w'=w:=by
 by_cases hz:b=0
 · subst hz
   have e1:binV op a 0=0:=by rcases ho with rfl|rfl|rfl|rfl <;> simp [binV_42,binV_43,binV_44,binV_45]
   have e2:binE op 0=60:=by unfold binE;rw [if_pos ho,if_pos rfl]
   rw [e1,e2]
   exact rdiv_zero op a w
 have e2:binE op b=0:=by unfold binE;rw [if_pos ho,if_neg hz]
 rw [e2]
 have s0:=fun w=>rsig_any a w ha
 have s1:=fun w=>rsig_any b w hb
 have ra:=sx_range ha
 have hy:sx b≠0:=by rw [Ne,sx_zero hb];exact hz
 have hr:sx a-(sx a).tdiv (sx b)*sx b=(sx a).tmod (sx b):=by
   have:=Int.tdiv_mul_add_tmod (sx a) (sx b)
   omega
 rcases ho with rfl|rfl|rfl|rfl
 · rw [binV_42,if_neg hz]
   exact rdivi a b _ _ _ _ w hy rfl anat_of.symm ra.1 ra.2 (by omega) s0 s1
 · rw [binV_43,if_neg hz]
   exact rdivu a b _ w ha hb hz rfl
 · rw [binV_44,if_neg hz]
   exact rmodi a b _ _ _ _ _ _ w hy rfl rfl hr anat_of.symm ra.1 ra.2 rfl (by omega) s0 s1
 · rw [binV_45,if_neg hz]
   exact rmodu a b _ w ha hb hz rfl
end Go.Proofs.YtibhlcfligfhdaaGreat
