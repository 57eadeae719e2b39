import Derived.Test.YtibhlcfligfhdaaGreatCLWd8
import Derived.Test.YtibhlcfligfhdaaGreatCIRi5
import Derived.Deep.AppendLies
import Derived.Test.YtibhlcfligfhdaaGreatCDOo
namespace Go.Proofs.YtibhlcfligfhdaaGreat
open Go.RowKit
set_option maxRecDepth 100000
def cv (L:List (Nat × Nat)):List Value:=L.flatMap fun p=>[.int .u8 p.1,.int .u32 p.2]
theorem cv_append (L M:List (Nat × Nat)):cv (L ++ M)=cv L ++ cv M:=by simp [cv]
theorem cv_len (L:List (Nat × Nat)):(cv L).length=L.length*2:=by
 induction L with
 |nil=>rfl
 | cons p L ih=>
   rw [show cv (p :: L)=[.int .u8 p.1,.int .u32 p.2] ++ cv L from rfl,List.length_append,ih,List.length_cons]
   simp;omega
def CRd (w:World) (ao:Option Addr) (L:List (Nat × Nat)) (B:Nat):Prop:=
 0<L.length→∃ b off,ao=some ⟨b,off,none⟩∧b<B∧∀ j,j<L.length→w.cell? ⟨b,off+j*2,none⟩=some (.int .u8 (L.getD j (0,0)).1)∧w.cell? ⟨b,off+j*2+1,none⟩=some (.int .u32 (L.getD j (0,0)).2)
theorem CRd.below {w w':World} {ao:Option Addr} {L:List (Nat × Nat)} {B:Nat} (h:CRd w ao L B) (hb:Below B w w'):CRd w' ao L B:=by
 intro hl
 obtain ⟨b,off,e,hlt,hc⟩:=h hl
 exact ⟨b,off,e,hlt,fun j hj=>⟨(hb.cell (p:=⟨b,off+j*2,none⟩) hlt).trans (hc j hj).1,(hb.cell (p:=⟨b,off+j*2+1,none⟩) hlt).trans (hc j hj).2⟩⟩
theorem CRd.mono {w:World} {ao:Option Addr} {L:List (Nat × Nat)} {B C:Nat} (h:CRd w ao L B) (hb:B≤C):CRd w ao L C:=by
 intro hl
 obtain ⟨b,off,e,hlt,hc⟩:=h hl
 exact ⟨b,off,e,Nat.lt_of_lt_of_le hlt hb,hc⟩
def Wfc (L:List (Nat × Nat)):Prop:=∀ p∈L,p.1<256∧p.2<4294967296
theorem Wfc.at {L:List (Nat × Nat)} (h:Wfc L) {k:Nat} (hk:k<L.length):(L.getD k (0,0)).1<256∧(L.getD k (0,0)).2<4294967296:=by
 apply h
 rw [List.getD_eq_getElem?_getD,List.getElem?_eq_getElem hk]
 exact List.getElem_mem hk
theorem ptake {α:Type} (d:α) (zs:List α) (k:Nat) (h:k<zs.length):zs.take (k+1)=zs.take k ++ [zs.getD k d]:=by
 rw [List.take_add_one,List.getD_eq_getElem?_getD,List.getElem?_eq_getElem h];rfl
open Go.WideShapes
structure LgR (w:World) (g at':Nat) (c:Nat × Nat × Nat) (wr:World):Prop where
 bel:Below w.heap.size w wr
 res:wr.heap[w.heap.size]?=some (.cells #[.int .u32 0,.int .u32 0,.int .u8 0,.int .u32 0] 70)
 cl:wr.heap[g]?=some (.cells (pcA at' c) 70)
 gg:w.heap.size+1<g
theorem LgR.glt {w:World} {g at':Nat} {c:Nat × Nat × Nat} {wr:World} (h:LgR w g at' c wr):g<wr.heap.size:=(Array.getElem?_eq_some_iff.1 h.cl).1
theorem LgR.play {w:World} {g at':Nat} {c:Nat × Nat × Nat} {wr:World} {wr':World} (h:LgR w g at' c wr) (hk:Kp (fun k=>k=w.heap.size+1) wr wr'):LgR w g at' c wr':=by
 have hs:=h.bel.size
 have hg:=h.glt
 have hgg:=h.gg
 exact ⟨h.bel.trans (hk.below hs (fun i e=>by omega)),(hk.block _ (by omega) (by omega)).trans h.res,(hk.block _ hg (by omega)).trans h.cl,h.gg⟩
theorem LgR.step {w:World} {g at':Nat} {c:Nat × Nat × Nat} {wr:World} {wr':World} (h:LgR w g at' c wr) (hb:Below wr.heap.size wr wr'):LgR w g at' c wr':=h.play (Kp.ofBelow hb)
theorem LgR.put {w:World} {g at':Nat} {c:Nat × Nat × Nat} {wr:World} (h:LgR w g at' c wr) (c':Nat × Nat × Nat):LgR w g at' c' (wr.setRow g (pcA at' c')):=by
 have hgg:=h.gg
 have hk:=KpSetRow (S:=fun k=>k=g) wr g (pcA at' c') rfl
 exact ⟨h.bel.trans (hk.below h.bel.size (fun i e=>by omega)),(hk.block _ (by have:=h.glt;omega) (by omega)).trans h.res,setRow_heap _ _ _ _ _ _ h.cl,h.gg⟩
theorem LgR.cells {w:World} {g at':Nat} {c:Nat × Nat × Nat} {wr:World} (h:LgR w g at' c wr) :
   wr.cell? ⟨g,0,none⟩=some (.int .u32 (at':Int))∧wr.cell? ⟨g,1,none⟩=some (.int .u32 (c.1:Int))∧wr.cell? ⟨g,2,none⟩=some (.int .u8 (c.2.1:Int))∧wr.cell? ⟨g,3,none⟩=some (.int .u32 (c.2.2:Int)):=
 ⟨obj_cell h.cl 0,obj_cell h.cl 1,obj_cell h.cl 2,obj_cell h.cl 3⟩
structure LgS (w:World) (g at':Nat) (ws:List Nat) (c:Nat × Nat × Nat) (wr:World):Prop where
 r:LgR w g at' c wr
 row:RoS (w.heap.size+1) wr ws
theorem LgS.step {w:World} {g at':Nat} {c:Nat × Nat × Nat} {wr:World} {ws:List Nat} {wr':World} (h:LgS w g at' ws c wr) (hb:Below wr.heap.size wr wr'):LgS w g at' ws c wr':=
 ⟨h.r.step hb,h.row.kept (Kp.ofBelow (S:=fun _=>False) hb) (fun e=>e)⟩
theorem LgS.alloc {w:World} {g at':Nat} {c:Nat × Nat × Nat} {wr:World} {ws:List Nat} (h:LgS w g at' ws c wr) (o:Obj):LgS w g at' ws c (wr.alloc o):=h.step ((Below.refl _ _).alloc (Nat.le_refl _) o)
theorem LgS.play {w:World} {g at':Nat} {c:Nat × Nat × Nat} {wr:World} {ws ws':List Nat} {wr':World} (h:LgS w g at' ws c wr) (hk:Kp (fun k=>k=w.heap.size+1) wr wr') (hr:RoS (w.heap.size+1) wr' ws'):LgS w g at' ws' c wr':=⟨h.r.play hk,hr⟩
theorem LgS.laid {w:World} {g at':Nat} {c:Nat × Nat × Nat} {wr:World} {ws:List Nat} {c':Nat × Nat × Nat} {wr':World} (h:LgS w g at' ws c wr) (hk:Kp (fun k=>k=g) wr wr') (hr:LgR w g at' c' wr'):LgS w g at' ws c' wr':=
 ⟨hr,h.row.kept hk (by have:=hr.gg;omega)⟩
theorem store_cl {P:Program} {ops:Array Oper} {Q:Exit→Act→World→Prop} {rest:List Oper} {o:Oper} {a:Act} {w wr:World} {g at':Nat} {c:Nat × Nat × Nat} (c':Nat × Nat × Nat) (hg:o.guard=none) (p q:Operand) (ho:o.op=.store 70 p q)
   (h0:a.eval p=.pointer (some ⟨g,0,none⟩)) (h1:a.eval q=.agg (pcA at' c')) (hi:(P.info? 70).map (·.size)=some 4) (hS:LgR w g at' c wr)
   (h:∀ W,LgR w g at' c' W→Kp (fun k=>k=g) wr W→wpList P ops Q rest (a.put o.dst undef) W):wpList P ops Q (o :: rest) a wr:=
 wpList_store_rowD hg _ _ _ ho g _ _ h0 h1 hS.cl hi rfl (by simp [pcA,Value.oneCell']) (h _ (hS.put c') (KpSetRow _ _ _ rfl))
def InS (w:World) (j op arg:Nat):Prop:=w.heap[j]?=some (.cells #[.int .u8 (op:Int),.int .u32 (arg:Int)] 37)
def IfS (w:World) (j op:Nat):Prop:=w.heap[j]?=some (.cells (infA op) 80)
theorem InS.kept {w w':World} {j op arg:Nat} (h:InS w j op arg) {S:Nat→Prop} (hk:Kp S w w') (hn:¬ S j):InS w' j op arg:=(hk.block j (Array.getElem?_eq_some_iff.1 h).1 hn).trans h
theorem IfS.kept {w w':World} {j op:Nat} (h:IfS w j op) {S:Nat→Prop} (hk:Kp S w w') (hn:¬ S j):IfS w' j op:=(hk.block j (Array.getElem?_eq_some_iff.1 h).1 hn).trans h
theorem InS.lt {w:World} {j op arg:Nat} (h:InS w j op arg):j<w.heap.size:=(Array.getElem?_eq_some_iff.1 h).1
theorem IfS.lt {w:World} {j op:Nat} (h:IfS w j op):j<w.heap.size:=(Array.getElem?_eq_some_iff.1 h).1
theorem InS.cells {w:World} {j op arg:Nat} (h:InS w j op arg):w.cell? ⟨j,0,none⟩=some (.int .u8 (op:Int))∧w.cell? ⟨j,1,none⟩=some (.int .u32 (arg:Int)):=⟨obj_cell h 0,obj_cell h 1⟩
theorem IfS.cells {w:World} {j op:Nat} (h:IfS w j op):w.cell? ⟨j,0,none⟩=some (.string (opWd op))∧w.cell? ⟨j,1,none⟩=some (.int .i64 (opWi op:Int))∧w.cell? ⟨j,2,none⟩=some (.int .u32 (opMo op:Int))∧w.cell? ⟨j,3,none⟩=some (.int .i64 (opTa op:Int))∧w.cell? ⟨j,4,none⟩=some (.int .i64 (opGi op:Int))∧w.cell? ⟨j,5,none⟩=some (.int .u8 (opKi op:Int)):=
 ⟨obj_cell h 0,obj_cell h 1,obj_cell h 2,obj_cell h 3,obj_cell h 4,obj_cell h 5⟩
theorem ros_new (w:World) (b:Nat) (cs:Array Value) (h:w.heap[b]?=some (.cells cs 104 (0,0))) (hs:cs.size=65) (h64:cs[64]?=some (.int .i64 0)):RoS b w []:=
 ⟨⟨cs,h,hs,h64,fun i hi=>by simp at hi⟩,by decide,fun x hx=>by simp at hx⟩
end Go.Proofs.YtibhlcfligfhdaaGreat
