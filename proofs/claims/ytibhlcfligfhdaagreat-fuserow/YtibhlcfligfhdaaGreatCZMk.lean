import Derived.Test.YtibhlcfligfhdaaGreatCZRw
import Derived.Shelf.Abstract
namespace Go.Proofs.YtibhlcfligfhdaaGreat
set_option maxHeartbeats 4000000
open Go.RowKit Go.WideShapes Go.Shelf
set_option maxRecDepth 100000
theorem cell0 (w:World) (v:Value) (t:TypeId):(w.alloc (.cells #[v] t)).cell? ⟨w.heap.size,0,none⟩=some v:=by
 rw [obj_cell (heap_alloc_new w _)];rfl
theorem bel1 (w:World) (o:Obj):Below w.heap.size w (w.alloc o):=(Below.refl _ w).alloc (Nat.le_refl _) o
theorem only_any {B:Nat} (k:Nat) (w:World) (hB:B≤w.heap.size) :
   Calls Tryz.prog 34 #[.int .u8 (k:Int)] w fun e w'=>∃ v,e=.returned v∧LkS B w' v (lkOnly k)∧Below w.heap.size w w':=by
 have eg:∀ args w,(callFunc 53 args).run Tryz.prog w=.ok (.enter 53 args) w:=enters_of Tryz.func53 (by kernel_rfl) rfl
 have H:Hid (∀ t,LkS B (w.alloc (.cells #[.int .u8 (k:Int)] t)) (.func (.func 53) #[] #[.pointer (some ⟨w.heap.size,0,none⟩)]) (lkOnly k)):=
   dhid (fun t=>⟨_,_,rfl,eg,fun W hW p f _ _=>only1_any k w.heap.size p f W (by have:=hW.1;simp at this;omega) (hW.cellv (p:=⟨w.heap.size,0,none⟩) hB (cell0 w _ t))⟩)
 go_enter Tryz.func34,Tryz.ntmps34
 go_wp2
 go_ret
 exact ⟨_,rfl,H.out _,bel1 _ _⟩
theorem single_any {B:Nat} (v:Value) (lk:Lk) (w:World) (hv:LkS B w v lk) (hB:B≤w.heap.size) :
   Calls Tryz.prog 29 #[v] w fun e w'=>∃ u,e=.returned u∧PtS B w' u (ptSingle lk)∧Below w.heap.size w w':=by
 have eg:∀ args w,(callFunc 52 args).run Tryz.prog w=.ok (.enter 52 args) w:=enters_of Tryz.func52 (by kernel_rfl) rfl
 have H:Hid (∀ t,PtS B (w.alloc (.cells #[v] t)) (.func (.func 52) #[] #[.pointer (some ⟨w.heap.size,0,none⟩)]) (ptSingle lk)):=
   dhid (fun t=>⟨_,_,rfl,eg,fun W hW ao cap L f _ hl hwf hr=>single1_any w.heap.size lk v ao cap L f W (by have:=hW.1;simp at this;omega) (hW.cellv (p:=⟨w.heap.size,0,none⟩) hB (cell0 w _ t)) ((hv.next (bel1 w _)).nextF hW) hl hwf hr⟩)
 obtain ⟨g,lb,rfl,_,_⟩:=hv
 go_enter Tryz.func29,Tryz.ntmps29
 go_wp2
 go_ret
 exact ⟨_,rfl,H.out _,bel1 _ _⟩
theorem LyS.nextF {B:Nat} {w w':World} {v:Value} {lay:Fz→Nat→Fz} (h:LyS B w v lay) (hb:Fr B w w'):LyS B w' v lay:=by
 obtain ⟨g,lb,h1,h2,h3⟩:=h
 exact ⟨g,lb,h1,h2,fun W hW=>h3 W (hb.trans hW)⟩
theorem LyS.next {B:Nat} {w w':World} {v:Value} {lay:Fz→Nat→Fz} (h:LyS B w v lay) (hb:Below w.heap.size w w'):LyS B w' v lay:=by
 obtain ⟨g,lb,h1,h2,h3⟩:=h
 exact ⟨g,lb,h1,h2,fun W hW=>h3 W ((Fr.of hb).trans hW)⟩
theorem constantInto_any {B:Nat} (v:Value) (lay:Fz→Nat→Fz) (w:World) (hv:LyS B w v lay) (hB:B≤w.heap.size) :
   Calls Tryz.prog 27 #[v] w fun e w'=>∃ u,e=.returned u∧PtS B w' u (ptConst lay)∧Below w.heap.size w w':=by
 have eg:∀ args w,(callFunc 50 args).run Tryz.prog w=.ok (.enter 50 args) w:=enters_of Tryz.func50 (by kernel_rfl) rfl
 have H:Hid (∀ t,PtS B (w.alloc (.cells #[v] t)) (.func (.func 50) #[] #[.pointer (some ⟨w.heap.size,0,none⟩)]) (ptConst lay)):=
   dhid (fun t=>⟨_,_,rfl,eg,fun W hW ao cap L f hc hl hwf hr=>constantInto1_any w.heap.size lay v ao cap L f W (by have:=hW.1;simp at this;omega) (hW.cellv (p:=⟨w.heap.size,0,none⟩) hB (cell0 w _ t)) ((hv.next (bel1 w _)).nextF hW) hc hl hwf hr⟩)
 obtain ⟨g,lb,rfl,_,_⟩:=hv
 go_enter Tryz.func27,Tryz.ntmps27
 go_wp2
 go_ret
 exact ⟨_,rfl,H.out _,bel1 _ _⟩
theorem folded_any {B:Nat} (k:Nat) (w:World) (hB:B≤w.heap.size) :
   Calls Tryz.prog 39 #[.int .u8 (k:Int)] w fun e w'=>∃ u,e=.returned u∧ShS B w' u (shFold k)∧Below w.heap.size w w':=by
 have eg:∀ args w,(callFunc 56 args).run Tryz.prog w=.ok (.enter 56 args) w:=enters_of Tryz.func56 (by kernel_rfl) rfl
 have H:Hid (∀ t,ShS B (w.alloc (.cells #[.int .u8 (k:Int)] t)) (.func (.func 56) #[] #[.pointer (some ⟨w.heap.size,0,none⟩)]) (shFold k)):=
   dhid (fun t=>⟨_,_,rfl,eg,fun W hW ao cap L _ hc hl hwf hr=>folded1_any w.heap.size k ao cap L W (by have:=hW.1;simp at this;omega) (hW.cellv (p:=⟨w.heap.size,0,none⟩) hB (cell0 w _ t)) hc hl hwf hr⟩)
 go_enter Tryz.func39,Tryz.ntmps39
 go_wp2
 go_ret
 exact ⟨_,rfl,H.out _,bel1 _ _⟩
theorem row_any {B:Nat} (po pc:Nat) (P:List Pt) (w:World) (hpo:po<w.heap.size) (hP:PsS B w po P) (hPl:P.length≤6) (hB:B≤w.heap.size) (hBp:B≤po) :
   Calls Tryz.prog 37 #[.slice (some ⟨po,0,none⟩) P.length pc] w fun e w'=>∃ u,e=.returned u∧ShS B w' u (shRow P)∧Below w.heap.size w w':=by
 have eg:∀ args w,(callFunc 55 args).run Tryz.prog w=.ok (.enter 55 args) w:=enters_of Tryz.func55 (by kernel_rfl) rfl
 have H:Hid (∀ t,ShS B (w.alloc (.cells #[.slice (some ⟨po,0,none⟩) P.length pc] t)) (.func (.func 55) #[] #[.pointer (some ⟨w.heap.size,0,none⟩)]) (shRow P)):=
   dhid (fun t=>⟨_,_,rfl,eg,fun W hW ao cap L h0 hc hl hwf hr=>row1_any w.heap.size po pc P ao cap L W (by have:=hW.1;simp at this;omega) (hW.cellv (p:=⟨w.heap.size,0,none⟩) hB (cell0 w _ t)) (by have:=hW.1;simp at this;omega) ((hP.next hpo (bel1 w _)).nextF hBp hW) hPl h0 hc hl hwf hr⟩)
 go_enter Tryz.func37,Tryz.ntmps37
 go_wp2
 go_ret
 exact ⟨_,rfl,H.out _,bel1 _ _⟩
def shK:Nat→Shp
 |1=>shRow [ptSingle lkAny]
 |2=>shFold 2
 |3=>shFold 3
 |4=>shFold 4
 |5=>shRow [ptConst layA,ptSingle lkBin]
 |6=>shRow [ptConst layA,ptSingle lkCmp]
 |7=>shRow [ptConst layA,ptSingle lkArg]
 |8=>shRow [ptConst layA,ptSingle (lkOnly 5)]
 |9=>shRow [ptConst layA,ptSingle lkLoad]
 |10=>shRow [ptConst layA,ptSingle lkStore]
 |11=>shRow [ptSingle lkLocal,ptSingle lkArg]
 |12=>shRow [ptSingle lkLocal,ptSingle lkLoad]
 |13=>shRow [ptSingle lkLocal,ptSingle (lkOnly 31),ptSingle lkBin]
 |14=>shRow [ptSingle lkLocal,ptSingle (lkOnly 31),ptSingle lkCmp]
 |15=>shRow [ptSingle lkLocal,ptSingle lkSame,ptSingle (lkOnly 31),ptConst layB,ptSingle lkHarm,ptSingle (lkOnly 34)]
 |_=>fun _=>fz0
theorem PtS.form {B:Nat} {w:World} {v:Value} {pt:Pt} (h:PtS B w v pt):∃ g lb,v=.func (.func g) #[] lb:=by obtain ⟨g,lb,h1,_⟩:=h;exact ⟨g,lb,h1⟩
theorem LkS.form {B:Nat} {w:World} {v:Value} {lk:Lk} (h:LkS B w v lk):∃ g lb,v=.func (.func g) #[] lb:=by obtain ⟨g,lb,h1,_⟩:=h;exact ⟨g,lb,h1⟩
theorem ShS.form {B:Nat} {w:World} {v:Value} {sh:Shp} (h:ShS B w v sh):∃ g lb,v=.func (.func g) #[] lb:=by obtain ⟨g,lb,h1,_⟩:=h;exact ⟨g,lb,h1⟩
theorem lkBin_len (p:Nat × Nat) (f:Fz):(lkBin p f).1.len=f.len:=rfl
theorem lkHarm_len (p:Nat × Nat) (f:Fz):(lkHarm p f).1.len=f.len:=by unfold lkHarm;split <;> rfl
theorem pss1 {B:Nat} {w:World} {v:Value} {pt:Pt} {t:TypeId} (h:PtS B w v pt) (ho:PtOk pt):PsS B (w.alloc (.cells #[v] t)) w.heap.size [pt]:=by
 intro j hj
 have hb:=bel1 w (.cells #[v] t)
 match j,hj with
 |0,_=>exact ⟨v,pt,rfl,ho,by rw [obj_cell (heap_alloc_new w _)];rfl,h.next hb⟩
theorem pss2 {B:Nat} {w:World} {v1 v2:Value} {p1 p2:Pt} {t:TypeId} (h1:PtS B w v1 p1) (o1:PtOk p1) (h2:PtS B w v2 p2) (o2:PtOk p2):PsS B (w.alloc (.cells #[v1,v2] t)) w.heap.size [p1,p2]:=by
 intro j hj
 have hb:=bel1 w (.cells #[v1,v2] t)
 match j,hj with
 |0,_=>exact ⟨v1,p1,rfl,o1,by rw [obj_cell (heap_alloc_new w _)];rfl,h1.next hb⟩
 |1,_=>exact ⟨v2,p2,rfl,o2,by rw [obj_cell (heap_alloc_new w _)];rfl,h2.next hb⟩
theorem pss3 {B:Nat} {w:World} {v1 v2 v3:Value} {p1 p2 p3:Pt} {t:TypeId} (h1:PtS B w v1 p1) (o1:PtOk p1) (h2:PtS B w v2 p2) (o2:PtOk p2) (h3:PtS B w v3 p3) (o3:PtOk p3):PsS B (w.alloc (.cells #[v1,v2,v3] t)) w.heap.size [p1,p2,p3]:=by
 intro j hj
 have hb:=bel1 w (.cells #[v1,v2,v3] t)
 match j,hj with
 |0,_=>exact ⟨v1,p1,rfl,o1,by rw [obj_cell (heap_alloc_new w _)];rfl,h1.next hb⟩
 |1,_=>exact ⟨v2,p2,rfl,o2,by rw [obj_cell (heap_alloc_new w _)];rfl,h2.next hb⟩
 |2,_=>exact ⟨v3,p3,rfl,o3,by rw [obj_cell (heap_alloc_new w _)];rfl,h3.next hb⟩
theorem pss6 {B:Nat} {w:World} {v1 v2 v3 v4 v5 v6:Value} {p1 p2 p3 p4 p5 p6:Pt} {t:TypeId} (h1:PtS B w v1 p1) (o1:PtOk p1) (h2:PtS B w v2 p2) (o2:PtOk p2) (h3:PtS B w v3 p3) (o3:PtOk p3) (h4:PtS B w v4 p4) (o4:PtOk p4) (h5:PtS B w v5 p5) (o5:PtOk p5) (h6:PtS B w v6 p6) (o6:PtOk p6):PsS B (w.alloc (.cells #[v1,v2,v3,v4,v5,v6] t)) w.heap.size [p1,p2,p3,p4,p5,p6]:=by
 intro j hj
 have hb:=bel1 w (.cells #[v1,v2,v3,v4,v5,v6] t)
 match j,hj with
 |0,_=>exact ⟨v1,p1,rfl,o1,by rw [obj_cell (heap_alloc_new w _)];rfl,h1.next hb⟩
 |1,_=>exact ⟨v2,p2,rfl,o2,by rw [obj_cell (heap_alloc_new w _)];rfl,h2.next hb⟩
 |2,_=>exact ⟨v3,p3,rfl,o3,by rw [obj_cell (heap_alloc_new w _)];rfl,h3.next hb⟩
 |3,_=>exact ⟨v4,p4,rfl,o4,by rw [obj_cell (heap_alloc_new w _)];rfl,h4.next hb⟩
 |4,_=>exact ⟨v5,p5,rfl,o5,by rw [obj_cell (heap_alloc_new w _)];rfl,h5.next hb⟩
 |5,_=>exact ⟨v6,p6,rfl,o6,by rw [obj_cell (heap_alloc_new w _)];rfl,h6.next hb⟩
theorem lkAny_st {B:Nat} (w:World):LkS B w (.func (.func 38) #[] #[]) lkAny:=⟨_,_,rfl,enters_of Tryz.func38 (by kernel_rfl) rfl,fun W _ p f hp _=>isAny_any p f W⟩
theorem lkLocal_st {B:Nat} (w:World):LkS B w (.func (.func 30) #[] #[]) lkLocal:=⟨_,_,rfl,enters_of Tryz.func30 (by kernel_rfl) rfl,fun W _ p f hp _=>isLocal_any p f W⟩
theorem lkArg_st {B:Nat} (w:World):LkS B w (.func (.func 31) #[] #[]) lkArg:=⟨_,_,rfl,enters_of Tryz.func31 (by kernel_rfl) rfl,fun W _ p f hp _=>isArg_any p f W⟩
theorem lkLoad_st {B:Nat} (w:World):LkS B w (.func (.func 32) #[] #[]) lkLoad:=⟨_,_,rfl,enters_of Tryz.func32 (by kernel_rfl) rfl,fun W _ p f hp _=>isLoad_any p f W⟩
theorem lkStore_st {B:Nat} (w:World):LkS B w (.func (.func 33) #[] #[]) lkStore:=⟨_,_,rfl,enters_of Tryz.func33 (by kernel_rfl) rfl,fun W _ p f hp _=>isStore_any p f W⟩
theorem lkCmp_st {B:Nat} (w:World):LkS B w (.func (.func 36) #[] #[]) lkCmp:=⟨_,_,rfl,enters_of Tryz.func36 (by kernel_rfl) rfl,fun W _ p f hp _=>isComparison_any p f W⟩
theorem lkSame_st {B:Nat} (w:World):LkS B w (.func (.func 40) #[] #[]) lkSame:=⟨_,_,rfl,enters_of Tryz.func40 (by kernel_rfl) rfl,fun W _ p f hp _=>isSameLocal_any p f W⟩
theorem lkBin_st {B:Nat} (w:World):LkS B w (.func (.func 35) #[] #[]) lkBin:=⟨_,_,rfl,enters_of Tryz.func35 (by kernel_rfl) rfl,fun W _ p f hp _=>isBinary_any p f W hp⟩
theorem lkHarm_st {B:Nat} (w:World):LkS B w (.func (.func 42) #[] #[]) lkHarm:=⟨_,_,rfl,enters_of Tryz.func42 (by kernel_rfl) rfl,fun W _ p f hp _=>isHarmless_any p f W hp⟩
theorem layA_st {B:Nat} (w:World):LyS B w (.func (.func 28) #[] #[]) layA:=⟨_,_,rfl,enters_of Tryz.func28 (by kernel_rfl) rfl,fun W _ f x=>intoA_any f x W⟩
theorem layB_st {B:Nat} (w:World):LyS B w (.func (.func 41) #[] #[]) layB:=⟨_,_,rfl,enters_of Tryz.func41 (by kernel_rfl) rfl,fun W _ f x=>intoB_any f x W⟩
theorem ok_bin:PtOk (ptSingle lkBin):=single_ok lkBin_len
theorem ok_harm:PtOk (ptSingle lkHarm):=single_ok lkHarm_len
theorem ok_any:PtOk (ptSingle lkAny):=single_ok (fun _ _=>rfl)
theorem ok_local:PtOk (ptSingle lkLocal):=single_ok (fun _ _=>rfl)
theorem ok_arg:PtOk (ptSingle lkArg):=single_ok (fun _ _=>rfl)
theorem ok_load:PtOk (ptSingle lkLoad):=single_ok (fun _ _=>rfl)
theorem ok_store:PtOk (ptSingle lkStore):=single_ok (fun _ _=>rfl)
theorem ok_cmp:PtOk (ptSingle lkCmp):=single_ok (fun _ _=>rfl)
theorem ok_same:PtOk (ptSingle lkSame):=single_ok (fun _ _=>rfl)
theorem ok_only (k:Nat):PtOk (ptSingle (lkOnly k)):=single_ok (fun _ _=>rfl)
theorem ok_c:PtOk (ptConst layA):=const_ok (fun _ _=>rfl)
theorem ok_cb:PtOk (ptConst layB):=const_ok (fun _ _=>rfl)
theorem sizeSh:(Tryz.prog.info? 52).map (·.size)=some 16:=by kernel_rfl
theorem undSh:∃ n e,Tryz.prog.underlying 52=some (.array n e):=by
 have h:(match Tryz.prog.underlying 52 with|some (.array _ _)=>true|_=>false)=true:=by kernel_rfl
 split at h
 · exact ⟨_,_,by assumption⟩
 · cases h
theorem resSh {fn:Func} {p:Tmp} (hf:fn.results=#[.cell p 52]) (W:World) (b:Nat) (cs:Array Value) (hs:cs.size=16) (hb:W.heap[b]?=some (.cells cs 52)) (tmps:Array Value) (h2:tmps.getD p undef=.pointer (some ⟨b,0,none⟩)) :
   (results fn tmps).run Tryz.prog W=.ok (.agg cs) W:=by
 obtain ⟨n,e,hu⟩:=undSh
 exact results_cell_row (p:=p) (ty:=52) hf tmps W b 52 cs (0,0) _ h2 hb hu rfl (by rw [sizeSh,hs])
theorem shapes_any (w:World) :
   Calls Tryz.prog 19 #[] w fun e w'=>∃ cs:Array Value,e=.returned (.agg cs)∧cs.size=16∧(∀ k,1≤k→k≤15→ShS (w.heap.size+1) w' (cs.getD k .nilFunc) (shK k))∧(∀ k,k<16→(cs.getD k .nilFunc).oneCell'=true)∧Below w.heap.size w w':=by
 go_enter Tryz.func19,Tryz.ntmps19
 go_wp2_with fail
 obtain ⟨w0,hw0⟩:∃ w0,w.alloc (.cells #[.nilFunc,.nilFunc,.nilFunc,.nilFunc,.nilFunc,.nilFunc,.nilFunc,.nilFunc,.nilFunc,.nilFunc,.nilFunc,.nilFunc,.nilFunc,.nilFunc,.nilFunc,.nilFunc] 52)=w0:=⟨_,rfl⟩
 rw [hw0]
 have X0:Hid (Below w.heap.size w w0∧w.heap.size<w0.heap.size∧w0.heap[w.heap.size]?=some (.cells #[.nilFunc,.nilFunc,.nilFunc,.nilFunc,.nilFunc,.nilFunc,.nilFunc,.nilFunc,.nilFunc,.nilFunc,.nilFunc,.nilFunc,.nilFunc,.nilFunc,.nilFunc,.nilFunc] 52)):=dhid (by rw [←hw0];exact ⟨bel1 _ _,by simp,heap_alloc_new _ _⟩)
 clear hw0
 refine (constantInto_any (B:=w.heap.size+1) _ layA w0 (layA_st _) X0.out.2.1).mono ?_
 rintro e w1 ⟨u,rfl,hc,hb⟩
 obtain ⟨gc,lc,rfl⟩:=hc.form
 replace hc:=dhid hc
 have X1:=dhid (And.intro (X0.out.1.trans (hb.mono X0.out.1.size)) (And.intro (Nat.lt_of_lt_of_le X0.out.2.1 hb.size) ((hb.block _ X0.out.2.1).trans X0.out.2.2)))
 clear X0 hb
 go_wp2_with fail
 refine (single_any (B:=w.heap.size+1) _ lkLocal w1 (lkLocal_st _) X1.out.2.1).mono ?_
 rintro e w2 ⟨u,rfl,hlo,hb⟩
 obtain ⟨glo,llo,rfl⟩:=hlo.form
 replace hlo:=dhid hlo
 replace hc:=dhid (hc.out.next hb)
 have X2:=dhid (And.intro (X1.out.1.trans (hb.mono X1.out.1.size)) (And.intro (Nat.lt_of_lt_of_le X1.out.2.1 hb.size) ((hb.block _ X1.out.2.1).trans X1.out.2.2)))
 clear X1 hb
 go_wp2_with fail
 refine (single_any (B:=w.heap.size+1) _ lkArg w2 (lkArg_st _) X2.out.2.1).mono ?_
 rintro e w3 ⟨u,rfl,har,hb⟩
 obtain ⟨gar,lar,rfl⟩:=har.form
 replace har:=dhid har
 replace hc:=dhid (hc.out.next hb)
 replace hlo:=dhid (hlo.out.next hb)
 have X3:=dhid (And.intro (X2.out.1.trans (hb.mono X2.out.1.size)) (And.intro (Nat.lt_of_lt_of_le X2.out.2.1 hb.size) ((hb.block _ X2.out.2.1).trans X2.out.2.2)))
 clear X2 hb
 go_wp2_with fail
 refine (single_any (B:=w.heap.size+1) _ lkLoad w3 (lkLoad_st _) X3.out.2.1).mono ?_
 rintro e w4 ⟨u,rfl,hld,hb⟩
 obtain ⟨gld,lld,rfl⟩:=hld.form
 replace hld:=dhid hld
 replace hc:=dhid (hc.out.next hb)
 replace hlo:=dhid (hlo.out.next hb)
 replace har:=dhid (har.out.next hb)
 have X4:=dhid (And.intro (X3.out.1.trans (hb.mono X3.out.1.size)) (And.intro (Nat.lt_of_lt_of_le X3.out.2.1 hb.size) ((hb.block _ X3.out.2.1).trans X3.out.2.2)))
 clear X3 hb
 go_wp2_with fail
 refine (single_any (B:=w.heap.size+1) _ lkStore w4 (lkStore_st _) X4.out.2.1).mono ?_
 rintro e w5 ⟨u,rfl,hst,hb⟩
 obtain ⟨gst,lst,rfl⟩:=hst.form
 replace hst:=dhid hst
 replace hc:=dhid (hc.out.next hb)
 replace hlo:=dhid (hlo.out.next hb)
 replace har:=dhid (har.out.next hb)
 replace hld:=dhid (hld.out.next hb)
 have X5:=dhid (And.intro (X4.out.1.trans (hb.mono X4.out.1.size)) (And.intro (Nat.lt_of_lt_of_le X4.out.2.1 hb.size) ((hb.block _ X4.out.2.1).trans X4.out.2.2)))
 clear X4 hb
 go_wp2_with fail
 refine (only_any (B:=w.heap.size+1) 31 w5 X5.out.2.1).mono ?_
 rintro e w6 ⟨u,rfl,ho4,hb⟩
 obtain ⟨go4,lo4,rfl⟩:=ho4.form
 replace ho4:=dhid ho4
 replace hc:=dhid (hc.out.next hb)
 replace hlo:=dhid (hlo.out.next hb)
 replace har:=dhid (har.out.next hb)
 replace hld:=dhid (hld.out.next hb)
 replace hst:=dhid (hst.out.next hb)
 have X6:=dhid (And.intro (X5.out.1.trans (hb.mono X5.out.1.size)) (And.intro (Nat.lt_of_lt_of_le X5.out.2.1 hb.size) ((hb.block _ X5.out.2.1).trans X5.out.2.2)))
 clear X5 hb
 go_wp2_with fail
 refine (single_any _ (lkOnly 31) w6 ho4.out X6.out.2.1).mono ?_
 rintro e w7 ⟨u,rfl,hl4,hb⟩
 obtain ⟨gl4,ll4,rfl⟩:=hl4.form
 replace hl4:=dhid hl4
 replace hc:=dhid (hc.out.next hb)
 replace hlo:=dhid (hlo.out.next hb)
 replace har:=dhid (har.out.next hb)
 replace hld:=dhid (hld.out.next hb)
 replace hst:=dhid (hst.out.next hb)
 clear ho4
 have X7:=dhid (And.intro (X6.out.1.trans (hb.mono X6.out.1.size)) (And.intro (Nat.lt_of_lt_of_le X6.out.2.1 hb.size) ((hb.block _ X6.out.2.1).trans X6.out.2.2)))
 clear X6 hb
 go_wp2_with fail
 refine (only_any (B:=w.heap.size+1) 34 w7 X7.out.2.1).mono ?_
 rintro e w8 ⟨u,rfl,hos,hb⟩
 obtain ⟨gos,los,rfl⟩:=hos.form
 replace hos:=dhid hos
 replace hc:=dhid (hc.out.next hb)
 replace hlo:=dhid (hlo.out.next hb)
 replace har:=dhid (har.out.next hb)
 replace hld:=dhid (hld.out.next hb)
 replace hst:=dhid (hst.out.next hb)
 replace hl4:=dhid (hl4.out.next hb)
 have X8:=dhid (And.intro (X7.out.1.trans (hb.mono X7.out.1.size)) (And.intro (Nat.lt_of_lt_of_le X7.out.2.1 hb.size) ((hb.block _ X7.out.2.1).trans X7.out.2.2)))
 clear X7 hb
 go_wp2_with fail
 refine (single_any _ (lkOnly 34) w8 hos.out X8.out.2.1).mono ?_
 rintro e w9 ⟨u,rfl,hs4v,hb⟩
 obtain ⟨gs4v,ls4v,rfl⟩:=hs4v.form
 replace hs4v:=dhid hs4v
 replace hc:=dhid (hc.out.next hb)
 replace hlo:=dhid (hlo.out.next hb)
 replace har:=dhid (har.out.next hb)
 replace hld:=dhid (hld.out.next hb)
 replace hst:=dhid (hst.out.next hb)
 replace hl4:=dhid (hl4.out.next hb)
 clear hos
 have X9:=dhid (And.intro (X8.out.1.trans (hb.mono X8.out.1.size)) (And.intro (Nat.lt_of_lt_of_le X8.out.2.1 hb.size) ((hb.block _ X8.out.2.1).trans X8.out.2.2)))
 clear X8 hb
 go_wp2_with fail
 refine (single_any (B:=w.heap.size+1) _ lkBin w9 (lkBin_st _) X9.out.2.1).mono ?_
 rintro e w10 ⟨u,rfl,hbi,hb⟩
 obtain ⟨gbi,lbi,rfl⟩:=hbi.form
 replace hbi:=dhid hbi
 replace hc:=dhid (hc.out.next hb)
 replace hlo:=dhid (hlo.out.next hb)
 replace har:=dhid (har.out.next hb)
 replace hld:=dhid (hld.out.next hb)
 replace hst:=dhid (hst.out.next hb)
 replace hl4:=dhid (hl4.out.next hb)
 replace hs4v:=dhid (hs4v.out.next hb)
 have X10:=dhid (And.intro (X9.out.1.trans (hb.mono X9.out.1.size)) (And.intro (Nat.lt_of_lt_of_le X9.out.2.1 hb.size) ((hb.block _ X9.out.2.1).trans X9.out.2.2)))
 clear X9 hb
 go_wp2_with fail
 refine (single_any (B:=w.heap.size+1) _ lkCmp w10 (lkCmp_st _) X10.out.2.1).mono ?_
 rintro e w11 ⟨u,rfl,hcm,hb⟩
 obtain ⟨gcm,lcm,rfl⟩:=hcm.form
 replace hcm:=dhid hcm
 replace hc:=dhid (hc.out.next hb)
 replace hlo:=dhid (hlo.out.next hb)
 replace har:=dhid (har.out.next hb)
 replace hld:=dhid (hld.out.next hb)
 replace hst:=dhid (hst.out.next hb)
 replace hl4:=dhid (hl4.out.next hb)
 replace hs4v:=dhid (hs4v.out.next hb)
 replace hbi:=dhid (hbi.out.next hb)
 have X11:=dhid (And.intro (X10.out.1.trans (hb.mono X10.out.1.size)) (And.intro (Nat.lt_of_lt_of_le X10.out.2.1 hb.size) ((hb.block _ X10.out.2.1).trans X10.out.2.2)))
 clear X10 hb
 go_wp2_with fail
 refine (single_any (B:=w.heap.size+1) _ lkAny w11 (lkAny_st _) X11.out.2.1).mono ?_
 rintro e w12 ⟨u,rfl,han,hb⟩
 obtain ⟨gan,lan,rfl⟩:=han.form
 replace han:=dhid han
 replace hc:=dhid (hc.out.next hb)
 replace hlo:=dhid (hlo.out.next hb)
 replace har:=dhid (har.out.next hb)
 replace hld:=dhid (hld.out.next hb)
 replace hst:=dhid (hst.out.next hb)
 replace hl4:=dhid (hl4.out.next hb)
 replace hs4v:=dhid (hs4v.out.next hb)
 replace hbi:=dhid (hbi.out.next hb)
 replace hcm:=dhid (hcm.out.next hb)
 have X12:=dhid (And.intro (X11.out.1.trans (hb.mono X11.out.1.size)) (And.intro (Nat.lt_of_lt_of_le X11.out.2.1 hb.size) ((hb.block _ X11.out.2.1).trans X11.out.2.2)))
 clear X11 hb
 have Q13:=dhid (pss1 (t:=59) han.out ok_any)
 go_wp2_with fail
 refine (row_any w12.heap.size 1 _ _ (by simp) Q13.out (by decide) (by have:=X12.out.2.1;simp;omega) X12.out.2.1).mono ?_
 rintro e w13 ⟨u,rfl,hS1,hb⟩
 replace hb:=(bel1 w12 _).trans (hb.mono (by simp))
 clear Q13
 obtain ⟨gS1,lS1,rfl⟩:=hS1.form
 replace hS1:=dhid hS1
 replace hc:=dhid (hc.out.next hb)
 replace hlo:=dhid (hlo.out.next hb)
 replace har:=dhid (har.out.next hb)
 replace hld:=dhid (hld.out.next hb)
 replace hst:=dhid (hst.out.next hb)
 replace hl4:=dhid (hl4.out.next hb)
 replace hs4v:=dhid (hs4v.out.next hb)
 replace hbi:=dhid (hbi.out.next hb)
 replace hcm:=dhid (hcm.out.next hb)
 clear han
 have X13:=dhid (And.intro (X12.out.1.trans (hb.mono X12.out.1.size)) (And.intro (Nat.lt_of_lt_of_le X12.out.2.1 hb.size) ((hb.block _ X12.out.2.1).trans X12.out.2.2)))
 clear X12 hb
 go_wp2_with fail
 refine (folded_any (B:=w.heap.size+1) 2 w13 X13.out.2.1).mono ?_
 rintro e w14 ⟨u,rfl,hS2,hb⟩
 obtain ⟨gS2,lS2,rfl⟩:=hS2.form
 replace hS2:=dhid hS2
 replace hc:=dhid (hc.out.next hb)
 replace hlo:=dhid (hlo.out.next hb)
 replace har:=dhid (har.out.next hb)
 replace hld:=dhid (hld.out.next hb)
 replace hst:=dhid (hst.out.next hb)
 replace hl4:=dhid (hl4.out.next hb)
 replace hs4v:=dhid (hs4v.out.next hb)
 replace hbi:=dhid (hbi.out.next hb)
 replace hcm:=dhid (hcm.out.next hb)
 replace hS1:=dhid (hS1.out.next hb)
 have X14:=dhid (And.intro (X13.out.1.trans (hb.mono X13.out.1.size)) (And.intro (Nat.lt_of_lt_of_le X13.out.2.1 hb.size) ((hb.block _ X13.out.2.1).trans X13.out.2.2)))
 clear X13 hb
 go_wp2_with fail
 refine (folded_any (B:=w.heap.size+1) 3 w14 X14.out.2.1).mono ?_
 rintro e w15 ⟨u,rfl,hS3,hb⟩
 obtain ⟨gS3,lS3,rfl⟩:=hS3.form
 replace hS3:=dhid hS3
 replace hc:=dhid (hc.out.next hb)
 replace hlo:=dhid (hlo.out.next hb)
 replace har:=dhid (har.out.next hb)
 replace hld:=dhid (hld.out.next hb)
 replace hst:=dhid (hst.out.next hb)
 replace hl4:=dhid (hl4.out.next hb)
 replace hs4v:=dhid (hs4v.out.next hb)
 replace hbi:=dhid (hbi.out.next hb)
 replace hcm:=dhid (hcm.out.next hb)
 replace hS1:=dhid (hS1.out.next hb)
 replace hS2:=dhid (hS2.out.next hb)
 have X15:=dhid (And.intro (X14.out.1.trans (hb.mono X14.out.1.size)) (And.intro (Nat.lt_of_lt_of_le X14.out.2.1 hb.size) ((hb.block _ X14.out.2.1).trans X14.out.2.2)))
 clear X14 hb
 go_wp2_with fail
 refine (folded_any (B:=w.heap.size+1) 4 w15 X15.out.2.1).mono ?_
 rintro e w16 ⟨u,rfl,hS4,hb⟩
 obtain ⟨gS4,lS4,rfl⟩:=hS4.form
 replace hS4:=dhid hS4
 replace hc:=dhid (hc.out.next hb)
 replace hlo:=dhid (hlo.out.next hb)
 replace har:=dhid (har.out.next hb)
 replace hld:=dhid (hld.out.next hb)
 replace hst:=dhid (hst.out.next hb)
 replace hl4:=dhid (hl4.out.next hb)
 replace hs4v:=dhid (hs4v.out.next hb)
 replace hbi:=dhid (hbi.out.next hb)
 replace hcm:=dhid (hcm.out.next hb)
 replace hS1:=dhid (hS1.out.next hb)
 replace hS2:=dhid (hS2.out.next hb)
 replace hS3:=dhid (hS3.out.next hb)
 have X16:=dhid (And.intro (X15.out.1.trans (hb.mono X15.out.1.size)) (And.intro (Nat.lt_of_lt_of_le X15.out.2.1 hb.size) ((hb.block _ X15.out.2.1).trans X15.out.2.2)))
 clear X15 hb
 have Q17:=dhid (pss2 (t:=59) hc.out ok_c hbi.out ok_bin)
 go_wp2_with fail
 refine (row_any w16.heap.size 2 _ _ (by simp) Q17.out (by decide) (by have:=X16.out.2.1;simp;omega) X16.out.2.1).mono ?_
 rintro e w17 ⟨u,rfl,hS5,hb⟩
 replace hb:=(bel1 w16 _).trans (hb.mono (by simp))
 clear Q17
 obtain ⟨gS5,lS5,rfl⟩:=hS5.form
 replace hS5:=dhid hS5
 replace hc:=dhid (hc.out.next hb)
 replace hlo:=dhid (hlo.out.next hb)
 replace har:=dhid (har.out.next hb)
 replace hld:=dhid (hld.out.next hb)
 replace hst:=dhid (hst.out.next hb)
 replace hl4:=dhid (hl4.out.next hb)
 replace hs4v:=dhid (hs4v.out.next hb)
 replace hbi:=dhid (hbi.out.next hb)
 replace hcm:=dhid (hcm.out.next hb)
 replace hS1:=dhid (hS1.out.next hb)
 replace hS2:=dhid (hS2.out.next hb)
 replace hS3:=dhid (hS3.out.next hb)
 replace hS4:=dhid (hS4.out.next hb)
 have X17:=dhid (And.intro (X16.out.1.trans (hb.mono X16.out.1.size)) (And.intro (Nat.lt_of_lt_of_le X16.out.2.1 hb.size) ((hb.block _ X16.out.2.1).trans X16.out.2.2)))
 clear X16 hb
 have Q18:=dhid (pss2 (t:=59) hc.out ok_c hcm.out ok_cmp)
 go_wp2_with fail
 refine (row_any w17.heap.size 2 _ _ (by simp) Q18.out (by decide) (by have:=X17.out.2.1;simp;omega) X17.out.2.1).mono ?_
 rintro e w18 ⟨u,rfl,hS6,hb⟩
 replace hb:=(bel1 w17 _).trans (hb.mono (by simp))
 clear Q18
 obtain ⟨gS6,lS6,rfl⟩:=hS6.form
 replace hS6:=dhid hS6
 replace hc:=dhid (hc.out.next hb)
 replace hlo:=dhid (hlo.out.next hb)
 replace har:=dhid (har.out.next hb)
 replace hld:=dhid (hld.out.next hb)
 replace hst:=dhid (hst.out.next hb)
 replace hl4:=dhid (hl4.out.next hb)
 replace hs4v:=dhid (hs4v.out.next hb)
 replace hbi:=dhid (hbi.out.next hb)
 replace hcm:=dhid (hcm.out.next hb)
 replace hS1:=dhid (hS1.out.next hb)
 replace hS2:=dhid (hS2.out.next hb)
 replace hS3:=dhid (hS3.out.next hb)
 replace hS4:=dhid (hS4.out.next hb)
 replace hS5:=dhid (hS5.out.next hb)
 have X18:=dhid (And.intro (X17.out.1.trans (hb.mono X17.out.1.size)) (And.intro (Nat.lt_of_lt_of_le X17.out.2.1 hb.size) ((hb.block _ X17.out.2.1).trans X17.out.2.2)))
 clear X17 hb
 have Q19:=dhid (pss2 (t:=59) hc.out ok_c har.out ok_arg)
 go_wp2_with fail
 refine (row_any w18.heap.size 2 _ _ (by simp) Q19.out (by decide) (by have:=X18.out.2.1;simp;omega) X18.out.2.1).mono ?_
 rintro e w19 ⟨u,rfl,hS7,hb⟩
 replace hb:=(bel1 w18 _).trans (hb.mono (by simp))
 clear Q19
 obtain ⟨gS7,lS7,rfl⟩:=hS7.form
 replace hS7:=dhid hS7
 replace hc:=dhid (hc.out.next hb)
 replace hlo:=dhid (hlo.out.next hb)
 replace har:=dhid (har.out.next hb)
 replace hld:=dhid (hld.out.next hb)
 replace hst:=dhid (hst.out.next hb)
 replace hl4:=dhid (hl4.out.next hb)
 replace hs4v:=dhid (hs4v.out.next hb)
 replace hbi:=dhid (hbi.out.next hb)
 replace hcm:=dhid (hcm.out.next hb)
 replace hS1:=dhid (hS1.out.next hb)
 replace hS2:=dhid (hS2.out.next hb)
 replace hS3:=dhid (hS3.out.next hb)
 replace hS4:=dhid (hS4.out.next hb)
 replace hS5:=dhid (hS5.out.next hb)
 replace hS6:=dhid (hS6.out.next hb)
 have X19:=dhid (And.intro (X18.out.1.trans (hb.mono X18.out.1.size)) (And.intro (Nat.lt_of_lt_of_le X18.out.2.1 hb.size) ((hb.block _ X18.out.2.1).trans X18.out.2.2)))
 clear X18 hb
 go_wp2_with fail
 refine (only_any (B:=w.heap.size+1) 5 w19 X19.out.2.1).mono ?_
 rintro e w20 ⟨u,rfl,hoc,hb⟩
 obtain ⟨goc,loc,rfl⟩:=hoc.form
 replace hoc:=dhid hoc
 replace hc:=dhid (hc.out.next hb)
 replace hlo:=dhid (hlo.out.next hb)
 replace har:=dhid (har.out.next hb)
 replace hld:=dhid (hld.out.next hb)
 replace hst:=dhid (hst.out.next hb)
 replace hl4:=dhid (hl4.out.next hb)
 replace hs4v:=dhid (hs4v.out.next hb)
 replace hbi:=dhid (hbi.out.next hb)
 replace hcm:=dhid (hcm.out.next hb)
 replace hS1:=dhid (hS1.out.next hb)
 replace hS2:=dhid (hS2.out.next hb)
 replace hS3:=dhid (hS3.out.next hb)
 replace hS4:=dhid (hS4.out.next hb)
 replace hS5:=dhid (hS5.out.next hb)
 replace hS6:=dhid (hS6.out.next hb)
 replace hS7:=dhid (hS7.out.next hb)
 have X20:=dhid (And.intro (X19.out.1.trans (hb.mono X19.out.1.size)) (And.intro (Nat.lt_of_lt_of_le X19.out.2.1 hb.size) ((hb.block _ X19.out.2.1).trans X19.out.2.2)))
 clear X19 hb
 go_wp2_with fail
 refine (single_any _ (lkOnly 5) w20 hoc.out X20.out.2.1).mono ?_
 rintro e w21 ⟨u,rfl,hca,hb⟩
 obtain ⟨gca,lca,rfl⟩:=hca.form
 replace hca:=dhid hca
 replace hc:=dhid (hc.out.next hb)
 replace hlo:=dhid (hlo.out.next hb)
 replace har:=dhid (har.out.next hb)
 replace hld:=dhid (hld.out.next hb)
 replace hst:=dhid (hst.out.next hb)
 replace hl4:=dhid (hl4.out.next hb)
 replace hs4v:=dhid (hs4v.out.next hb)
 replace hbi:=dhid (hbi.out.next hb)
 replace hcm:=dhid (hcm.out.next hb)
 replace hS1:=dhid (hS1.out.next hb)
 replace hS2:=dhid (hS2.out.next hb)
 replace hS3:=dhid (hS3.out.next hb)
 replace hS4:=dhid (hS4.out.next hb)
 replace hS5:=dhid (hS5.out.next hb)
 replace hS6:=dhid (hS6.out.next hb)
 replace hS7:=dhid (hS7.out.next hb)
 clear hoc
 have X21:=dhid (And.intro (X20.out.1.trans (hb.mono X20.out.1.size)) (And.intro (Nat.lt_of_lt_of_le X20.out.2.1 hb.size) ((hb.block _ X20.out.2.1).trans X20.out.2.2)))
 clear X20 hb
 have Q22:=dhid (pss2 (t:=59) hc.out ok_c hca.out (ok_only 5))
 go_wp2_with fail
 refine (row_any w21.heap.size 2 _ _ (by simp) Q22.out (by decide) (by have:=X21.out.2.1;simp;omega) X21.out.2.1).mono ?_
 rintro e w22 ⟨u,rfl,hS8,hb⟩
 replace hb:=(bel1 w21 _).trans (hb.mono (by simp))
 clear Q22
 obtain ⟨gS8,lS8,rfl⟩:=hS8.form
 replace hS8:=dhid hS8
 replace hc:=dhid (hc.out.next hb)
 replace hlo:=dhid (hlo.out.next hb)
 replace har:=dhid (har.out.next hb)
 replace hld:=dhid (hld.out.next hb)
 replace hst:=dhid (hst.out.next hb)
 replace hl4:=dhid (hl4.out.next hb)
 replace hs4v:=dhid (hs4v.out.next hb)
 replace hbi:=dhid (hbi.out.next hb)
 replace hcm:=dhid (hcm.out.next hb)
 replace hS1:=dhid (hS1.out.next hb)
 replace hS2:=dhid (hS2.out.next hb)
 replace hS3:=dhid (hS3.out.next hb)
 replace hS4:=dhid (hS4.out.next hb)
 replace hS5:=dhid (hS5.out.next hb)
 replace hS6:=dhid (hS6.out.next hb)
 replace hS7:=dhid (hS7.out.next hb)
 clear hca
 have X22:=dhid (And.intro (X21.out.1.trans (hb.mono X21.out.1.size)) (And.intro (Nat.lt_of_lt_of_le X21.out.2.1 hb.size) ((hb.block _ X21.out.2.1).trans X21.out.2.2)))
 clear X21 hb
 have Q23:=dhid (pss2 (t:=59) hc.out ok_c hld.out ok_load)
 go_wp2_with fail
 refine (row_any w22.heap.size 2 _ _ (by simp) Q23.out (by decide) (by have:=X22.out.2.1;simp;omega) X22.out.2.1).mono ?_
 rintro e w23 ⟨u,rfl,hS9,hb⟩
 replace hb:=(bel1 w22 _).trans (hb.mono (by simp))
 clear Q23
 obtain ⟨gS9,lS9,rfl⟩:=hS9.form
 replace hS9:=dhid hS9
 replace hc:=dhid (hc.out.next hb)
 replace hlo:=dhid (hlo.out.next hb)
 replace har:=dhid (har.out.next hb)
 replace hld:=dhid (hld.out.next hb)
 replace hst:=dhid (hst.out.next hb)
 replace hl4:=dhid (hl4.out.next hb)
 replace hs4v:=dhid (hs4v.out.next hb)
 replace hbi:=dhid (hbi.out.next hb)
 replace hcm:=dhid (hcm.out.next hb)
 replace hS1:=dhid (hS1.out.next hb)
 replace hS2:=dhid (hS2.out.next hb)
 replace hS3:=dhid (hS3.out.next hb)
 replace hS4:=dhid (hS4.out.next hb)
 replace hS5:=dhid (hS5.out.next hb)
 replace hS6:=dhid (hS6.out.next hb)
 replace hS7:=dhid (hS7.out.next hb)
 replace hS8:=dhid (hS8.out.next hb)
 have X23:=dhid (And.intro (X22.out.1.trans (hb.mono X22.out.1.size)) (And.intro (Nat.lt_of_lt_of_le X22.out.2.1 hb.size) ((hb.block _ X22.out.2.1).trans X22.out.2.2)))
 clear X22 hb
 have Q24:=dhid (pss2 (t:=59) hc.out ok_c hst.out ok_store)
 go_wp2_with fail
 refine (row_any w23.heap.size 2 _ _ (by simp) Q24.out (by decide) (by have:=X23.out.2.1;simp;omega) X23.out.2.1).mono ?_
 rintro e w24 ⟨u,rfl,hS10,hb⟩
 replace hb:=(bel1 w23 _).trans (hb.mono (by simp))
 clear Q24
 obtain ⟨gS10,lS10,rfl⟩:=hS10.form
 replace hS10:=dhid hS10
 replace hlo:=dhid (hlo.out.next hb)
 replace har:=dhid (har.out.next hb)
 replace hld:=dhid (hld.out.next hb)
 replace hl4:=dhid (hl4.out.next hb)
 replace hs4v:=dhid (hs4v.out.next hb)
 replace hbi:=dhid (hbi.out.next hb)
 replace hcm:=dhid (hcm.out.next hb)
 replace hS1:=dhid (hS1.out.next hb)
 replace hS2:=dhid (hS2.out.next hb)
 replace hS3:=dhid (hS3.out.next hb)
 replace hS4:=dhid (hS4.out.next hb)
 replace hS5:=dhid (hS5.out.next hb)
 replace hS6:=dhid (hS6.out.next hb)
 replace hS7:=dhid (hS7.out.next hb)
 replace hS8:=dhid (hS8.out.next hb)
 replace hS9:=dhid (hS9.out.next hb)
 clear hc
 clear hst
 have X24:=dhid (And.intro (X23.out.1.trans (hb.mono X23.out.1.size)) (And.intro (Nat.lt_of_lt_of_le X23.out.2.1 hb.size) ((hb.block _ X23.out.2.1).trans X23.out.2.2)))
 clear X23 hb
 have Q25:=dhid (pss2 (t:=59) hlo.out ok_local har.out ok_arg)
 go_wp2_with fail
 refine (row_any w24.heap.size 2 _ _ (by simp) Q25.out (by decide) (by have:=X24.out.2.1;simp;omega) X24.out.2.1).mono ?_
 rintro e w25 ⟨u,rfl,hS11,hb⟩
 replace hb:=(bel1 w24 _).trans (hb.mono (by simp))
 clear Q25
 obtain ⟨gS11,lS11,rfl⟩:=hS11.form
 replace hS11:=dhid hS11
 replace hlo:=dhid (hlo.out.next hb)
 replace hld:=dhid (hld.out.next hb)
 replace hl4:=dhid (hl4.out.next hb)
 replace hs4v:=dhid (hs4v.out.next hb)
 replace hbi:=dhid (hbi.out.next hb)
 replace hcm:=dhid (hcm.out.next hb)
 replace hS1:=dhid (hS1.out.next hb)
 replace hS2:=dhid (hS2.out.next hb)
 replace hS3:=dhid (hS3.out.next hb)
 replace hS4:=dhid (hS4.out.next hb)
 replace hS5:=dhid (hS5.out.next hb)
 replace hS6:=dhid (hS6.out.next hb)
 replace hS7:=dhid (hS7.out.next hb)
 replace hS8:=dhid (hS8.out.next hb)
 replace hS9:=dhid (hS9.out.next hb)
 replace hS10:=dhid (hS10.out.next hb)
 clear har
 have X25:=dhid (And.intro (X24.out.1.trans (hb.mono X24.out.1.size)) (And.intro (Nat.lt_of_lt_of_le X24.out.2.1 hb.size) ((hb.block _ X24.out.2.1).trans X24.out.2.2)))
 clear X24 hb
 have Q26:=dhid (pss2 (t:=59) hlo.out ok_local hld.out ok_load)
 go_wp2_with fail
 refine (row_any w25.heap.size 2 _ _ (by simp) Q26.out (by decide) (by have:=X25.out.2.1;simp;omega) X25.out.2.1).mono ?_
 rintro e w26 ⟨u,rfl,hS12,hb⟩
 replace hb:=(bel1 w25 _).trans (hb.mono (by simp))
 clear Q26
 obtain ⟨gS12,lS12,rfl⟩:=hS12.form
 replace hS12:=dhid hS12
 replace hlo:=dhid (hlo.out.next hb)
 replace hl4:=dhid (hl4.out.next hb)
 replace hs4v:=dhid (hs4v.out.next hb)
 replace hbi:=dhid (hbi.out.next hb)
 replace hcm:=dhid (hcm.out.next hb)
 replace hS1:=dhid (hS1.out.next hb)
 replace hS2:=dhid (hS2.out.next hb)
 replace hS3:=dhid (hS3.out.next hb)
 replace hS4:=dhid (hS4.out.next hb)
 replace hS5:=dhid (hS5.out.next hb)
 replace hS6:=dhid (hS6.out.next hb)
 replace hS7:=dhid (hS7.out.next hb)
 replace hS8:=dhid (hS8.out.next hb)
 replace hS9:=dhid (hS9.out.next hb)
 replace hS10:=dhid (hS10.out.next hb)
 replace hS11:=dhid (hS11.out.next hb)
 clear hld
 have X26:=dhid (And.intro (X25.out.1.trans (hb.mono X25.out.1.size)) (And.intro (Nat.lt_of_lt_of_le X25.out.2.1 hb.size) ((hb.block _ X25.out.2.1).trans X25.out.2.2)))
 clear X25 hb
 have Q27:=dhid (pss3 (t:=59) hlo.out ok_local hl4.out (ok_only 31) hbi.out ok_bin)
 go_wp2_with fail
 refine (row_any w26.heap.size 3 _ _ (by simp) Q27.out (by decide) (by have:=X26.out.2.1;simp;omega) X26.out.2.1).mono ?_
 rintro e w27 ⟨u,rfl,hS13,hb⟩
 replace hb:=(bel1 w26 _).trans (hb.mono (by simp))
 clear Q27
 obtain ⟨gS13,lS13,rfl⟩:=hS13.form
 replace hS13:=dhid hS13
 replace hlo:=dhid (hlo.out.next hb)
 replace hl4:=dhid (hl4.out.next hb)
 replace hs4v:=dhid (hs4v.out.next hb)
 replace hcm:=dhid (hcm.out.next hb)
 replace hS1:=dhid (hS1.out.next hb)
 replace hS2:=dhid (hS2.out.next hb)
 replace hS3:=dhid (hS3.out.next hb)
 replace hS4:=dhid (hS4.out.next hb)
 replace hS5:=dhid (hS5.out.next hb)
 replace hS6:=dhid (hS6.out.next hb)
 replace hS7:=dhid (hS7.out.next hb)
 replace hS8:=dhid (hS8.out.next hb)
 replace hS9:=dhid (hS9.out.next hb)
 replace hS10:=dhid (hS10.out.next hb)
 replace hS11:=dhid (hS11.out.next hb)
 replace hS12:=dhid (hS12.out.next hb)
 clear hbi
 have X27:=dhid (And.intro (X26.out.1.trans (hb.mono X26.out.1.size)) (And.intro (Nat.lt_of_lt_of_le X26.out.2.1 hb.size) ((hb.block _ X26.out.2.1).trans X26.out.2.2)))
 clear X26 hb
 have Q28:=dhid (pss3 (t:=59) hlo.out ok_local hl4.out (ok_only 31) hcm.out ok_cmp)
 go_wp2_with fail
 refine (row_any w27.heap.size 3 _ _ (by simp) Q28.out (by decide) (by have:=X27.out.2.1;simp;omega) X27.out.2.1).mono ?_
 rintro e w28 ⟨u,rfl,hS14,hb⟩
 replace hb:=(bel1 w27 _).trans (hb.mono (by simp))
 clear Q28
 obtain ⟨gS14,lS14,rfl⟩:=hS14.form
 replace hS14:=dhid hS14
 replace hlo:=dhid (hlo.out.next hb)
 replace hl4:=dhid (hl4.out.next hb)
 replace hs4v:=dhid (hs4v.out.next hb)
 replace hS1:=dhid (hS1.out.next hb)
 replace hS2:=dhid (hS2.out.next hb)
 replace hS3:=dhid (hS3.out.next hb)
 replace hS4:=dhid (hS4.out.next hb)
 replace hS5:=dhid (hS5.out.next hb)
 replace hS6:=dhid (hS6.out.next hb)
 replace hS7:=dhid (hS7.out.next hb)
 replace hS8:=dhid (hS8.out.next hb)
 replace hS9:=dhid (hS9.out.next hb)
 replace hS10:=dhid (hS10.out.next hb)
 replace hS11:=dhid (hS11.out.next hb)
 replace hS12:=dhid (hS12.out.next hb)
 replace hS13:=dhid (hS13.out.next hb)
 clear hcm
 have X28:=dhid (And.intro (X27.out.1.trans (hb.mono X27.out.1.size)) (And.intro (Nat.lt_of_lt_of_le X27.out.2.1 hb.size) ((hb.block _ X27.out.2.1).trans X27.out.2.2)))
 clear X27 hb
 go_wp2_with fail
 refine (single_any (B:=w.heap.size+1) _ lkSame w28 (lkSame_st _) X28.out.2.1).mono ?_
 rintro e w29 ⟨u,rfl,hsa,hb⟩
 obtain ⟨gsa,lsa,rfl⟩:=hsa.form
 replace hsa:=dhid hsa
 replace hlo:=dhid (hlo.out.next hb)
 replace hl4:=dhid (hl4.out.next hb)
 replace hs4v:=dhid (hs4v.out.next hb)
 replace hS1:=dhid (hS1.out.next hb)
 replace hS2:=dhid (hS2.out.next hb)
 replace hS3:=dhid (hS3.out.next hb)
 replace hS4:=dhid (hS4.out.next hb)
 replace hS5:=dhid (hS5.out.next hb)
 replace hS6:=dhid (hS6.out.next hb)
 replace hS7:=dhid (hS7.out.next hb)
 replace hS8:=dhid (hS8.out.next hb)
 replace hS9:=dhid (hS9.out.next hb)
 replace hS10:=dhid (hS10.out.next hb)
 replace hS11:=dhid (hS11.out.next hb)
 replace hS12:=dhid (hS12.out.next hb)
 replace hS13:=dhid (hS13.out.next hb)
 replace hS14:=dhid (hS14.out.next hb)
 have X29:=dhid (And.intro (X28.out.1.trans (hb.mono X28.out.1.size)) (And.intro (Nat.lt_of_lt_of_le X28.out.2.1 hb.size) ((hb.block _ X28.out.2.1).trans X28.out.2.2)))
 clear X28 hb
 go_wp2_with fail
 refine (constantInto_any (B:=w.heap.size+1) _ layB w29 (layB_st _) X29.out.2.1).mono ?_
 rintro e w30 ⟨u,rfl,hcb,hb⟩
 obtain ⟨gcb,lcb,rfl⟩:=hcb.form
 replace hcb:=dhid hcb
 replace hlo:=dhid (hlo.out.next hb)
 replace hl4:=dhid (hl4.out.next hb)
 replace hs4v:=dhid (hs4v.out.next hb)
 replace hS1:=dhid (hS1.out.next hb)
 replace hS2:=dhid (hS2.out.next hb)
 replace hS3:=dhid (hS3.out.next hb)
 replace hS4:=dhid (hS4.out.next hb)
 replace hS5:=dhid (hS5.out.next hb)
 replace hS6:=dhid (hS6.out.next hb)
 replace hS7:=dhid (hS7.out.next hb)
 replace hS8:=dhid (hS8.out.next hb)
 replace hS9:=dhid (hS9.out.next hb)
 replace hS10:=dhid (hS10.out.next hb)
 replace hS11:=dhid (hS11.out.next hb)
 replace hS12:=dhid (hS12.out.next hb)
 replace hS13:=dhid (hS13.out.next hb)
 replace hS14:=dhid (hS14.out.next hb)
 replace hsa:=dhid (hsa.out.next hb)
 have X30:=dhid (And.intro (X29.out.1.trans (hb.mono X29.out.1.size)) (And.intro (Nat.lt_of_lt_of_le X29.out.2.1 hb.size) ((hb.block _ X29.out.2.1).trans X29.out.2.2)))
 clear X29 hb
 go_wp2_with fail
 refine (single_any (B:=w.heap.size+1) _ lkHarm w30 (lkHarm_st _) X30.out.2.1).mono ?_
 rintro e w31 ⟨u,rfl,hha,hb⟩
 obtain ⟨gha,lha,rfl⟩:=hha.form
 replace hha:=dhid hha
 replace hlo:=dhid (hlo.out.next hb)
 replace hl4:=dhid (hl4.out.next hb)
 replace hs4v:=dhid (hs4v.out.next hb)
 replace hS1:=dhid (hS1.out.next hb)
 replace hS2:=dhid (hS2.out.next hb)
 replace hS3:=dhid (hS3.out.next hb)
 replace hS4:=dhid (hS4.out.next hb)
 replace hS5:=dhid (hS5.out.next hb)
 replace hS6:=dhid (hS6.out.next hb)
 replace hS7:=dhid (hS7.out.next hb)
 replace hS8:=dhid (hS8.out.next hb)
 replace hS9:=dhid (hS9.out.next hb)
 replace hS10:=dhid (hS10.out.next hb)
 replace hS11:=dhid (hS11.out.next hb)
 replace hS12:=dhid (hS12.out.next hb)
 replace hS13:=dhid (hS13.out.next hb)
 replace hS14:=dhid (hS14.out.next hb)
 replace hsa:=dhid (hsa.out.next hb)
 replace hcb:=dhid (hcb.out.next hb)
 have X31:=dhid (And.intro (X30.out.1.trans (hb.mono X30.out.1.size)) (And.intro (Nat.lt_of_lt_of_le X30.out.2.1 hb.size) ((hb.block _ X30.out.2.1).trans X30.out.2.2)))
 clear X30 hb
 have Q32:=dhid (pss6 (t:=59) hlo.out ok_local hsa.out ok_same hl4.out (ok_only 31) hcb.out ok_cb hha.out ok_harm hs4v.out (ok_only 34))
 go_wp2_with fail
 refine (row_any w31.heap.size 6 _ _ (by simp) Q32.out (by decide) (by have:=X31.out.2.1;simp;omega) X31.out.2.1).mono ?_
 rintro e w32 ⟨u,rfl,hS15,hb⟩
 replace hb:=(bel1 w31 _).trans (hb.mono (by simp))
 clear Q32
 obtain ⟨gS15,lS15,rfl⟩:=hS15.form
 replace hS15:=dhid hS15
 replace hS1:=dhid (hS1.out.next hb)
 replace hS2:=dhid (hS2.out.next hb)
 replace hS3:=dhid (hS3.out.next hb)
 replace hS4:=dhid (hS4.out.next hb)
 replace hS5:=dhid (hS5.out.next hb)
 replace hS6:=dhid (hS6.out.next hb)
 replace hS7:=dhid (hS7.out.next hb)
 replace hS8:=dhid (hS8.out.next hb)
 replace hS9:=dhid (hS9.out.next hb)
 replace hS10:=dhid (hS10.out.next hb)
 replace hS11:=dhid (hS11.out.next hb)
 replace hS12:=dhid (hS12.out.next hb)
 replace hS13:=dhid (hS13.out.next hb)
 replace hS14:=dhid (hS14.out.next hb)
 clear hlo
 clear hl4
 clear hs4v
 clear hsa
 clear hcb
 clear hha
 have X32:=dhid (And.intro (X31.out.1.trans (hb.mono X31.out.1.size)) (And.intro (Nat.lt_of_lt_of_le X31.out.2.1 hb.size) ((hb.block _ X31.out.2.1).trans X31.out.2.2)))
 clear X31 hb
 go_wp2_with (refine wpList_store_rowD rfl _ _ _ rfl w.heap.size _ #[.nilFunc,.func (.func gS1) #[] lS1,.func (.func gS2) #[] lS2,.func (.func gS3) #[] lS3,.func (.func gS4) #[] lS4,.func (.func gS5) #[] lS5,.func (.func gS6) #[] lS6,.func (.func gS7) #[] lS7,.func (.func gS8) #[] lS8,.func (.func gS9) #[] lS9,.func (.func gS10) #[] lS10,.func (.func gS11) #[] lS11,.func (.func gS12) #[] lS12,.func (.func gS13) #[] lS13,.func (.func gS14) #[] lS14,.func (.func gS15) #[] lS15] rfl rfl X32.out.2.2 (by rw [sizeSh];rfl) rfl (by simp [Value.oneCell']) ?_)
 have hk:=KpSetRow (S:=fun i=>i=w.heap.size) w32 w.heap.size #[.nilFunc,.func (.func gS1) #[] lS1,.func (.func gS2) #[] lS2,.func (.func gS3) #[] lS3,.func (.func gS4) #[] lS4,.func (.func gS5) #[] lS5,.func (.func gS6) #[] lS6,.func (.func gS7) #[] lS7,.func (.func gS8) #[] lS8,.func (.func gS9) #[] lS9,.func (.func gS10) #[] lS10,.func (.func gS11) #[] lS11,.func (.func gS12) #[] lS12,.func (.func gS13) #[] lS13,.func (.func gS14) #[] lS14,.func (.func gS15) #[] lS15] rfl
 have hB:Below w.heap.size w (w32.setRow w.heap.size #[.nilFunc,.func (.func gS1) #[] lS1,.func (.func gS2) #[] lS2,.func (.func gS3) #[] lS3,.func (.func gS4) #[] lS4,.func (.func gS5) #[] lS5,.func (.func gS6) #[] lS6,.func (.func gS7) #[] lS7,.func (.func gS8) #[] lS8,.func (.func gS9) #[] lS9,.func (.func gS10) #[] lS10,.func (.func gS11) #[] lS11,.func (.func gS12) #[] lS12,.func (.func gS13) #[] lS13,.func (.func gS14) #[] lS14,.func (.func gS15) #[] lS15]):=X32.out.1.trans (hk.below X32.out.1.size (fun i e=>by omega))
 refine bodyPost_ret (resSh (p:=0) (by kernel_rfl) _ w.heap.size #[.nilFunc,.func (.func gS1) #[] lS1,.func (.func gS2) #[] lS2,.func (.func gS3) #[] lS3,.func (.func gS4) #[] lS4,.func (.func gS5) #[] lS5,.func (.func gS6) #[] lS6,.func (.func gS7) #[] lS7,.func (.func gS8) #[] lS8,.func (.func gS9) #[] lS9,.func (.func gS10) #[] lS10,.func (.func gS11) #[] lS11,.func (.func gS12) #[] lS12,.func (.func gS13) #[] lS13,.func (.func gS14) #[] lS14,.func (.func gS15) #[] lS15] rfl (setRow_heap _ _ _ _ _ _ X32.out.2.2) _ rfl) rfl ⟨_,rfl,rfl,?_,?_,hB⟩
 · intro k h1 h2
   have hF:Fr (w.heap.size+1) w32 (w32.setRow w.heap.size #[.nilFunc,.func (.func gS1) #[] lS1,.func (.func gS2) #[] lS2,.func (.func gS3) #[] lS3,.func (.func gS4) #[] lS4,.func (.func gS5) #[] lS5,.func (.func gS6) #[] lS6,.func (.func gS7) #[] lS7,.func (.func gS8) #[] lS8,.func (.func gS9) #[] lS9,.func (.func gS10) #[] lS10,.func (.func gS11) #[] lS11,.func (.func gS12) #[] lS12,.func (.func gS13) #[] lS13,.func (.func gS14) #[] lS14,.func (.func gS15) #[] lS15]):=⟨hk.size,fun i cs t fr q1 q2=>(hk.block i (Array.getElem?_eq_some_iff.1 q2).1 (by omega)).trans q2⟩
   have hc:k=1∨k=2∨k=3∨k=4∨k=5∨k=6∨k=7∨k=8∨k=9∨k=10∨k=11∨k=12∨k=13∨k=14∨k=15:=by omega
   rcases hc with rfl|rfl|rfl|rfl|rfl|rfl|rfl|rfl|rfl|rfl|rfl|rfl|rfl|rfl|rfl
   · exact hS1.out.nextF hF
   · exact hS2.out.nextF hF
   · exact hS3.out.nextF hF
   · exact hS4.out.nextF hF
   · exact hS5.out.nextF hF
   · exact hS6.out.nextF hF
   · exact hS7.out.nextF hF
   · exact hS8.out.nextF hF
   · exact hS9.out.nextF hF
   · exact hS10.out.nextF hF
   · exact hS11.out.nextF hF
   · exact hS12.out.nextF hF
   · exact hS13.out.nextF hF
   · exact hS14.out.nextF hF
   · exact hS15.out.nextF hF
 · intro k h1
   have hc:k=0∨k=1∨k=2∨k=3∨k=4∨k=5∨k=6∨k=7∨k=8∨k=9∨k=10∨k=11∨k=12∨k=13∨k=14∨k=15:=by omega
   rcases hc with rfl|rfl|rfl|rfl|rfl|rfl|rfl|rfl|rfl|rfl|rfl|rfl|rfl|rfl|rfl|rfl <;> rfl
def liB (n a e:Nat):Bool:=decide (a<e∧e≤n)
theorem lies_any (ao:Option Addr) (cap n a e:Nat) (w:World) (hn:n≤9223372036854775807) (_ha:a<4294967296) (he:e<4294967296) :
   Calls Tryz.prog 17 #[.slice ao n cap,.int .u32 (a:Int),.int .u32 (e:Int)] w fun x w'=>x=.returned (.bool (liB n a e))∧w'=w:=by
 by_cases h1:a<e
 · have d1:decide ((a:Int)<(e:Int))=true:=decide_eq_true (by omega)
   have d1':(a:Int)<(e:Int):=by omega
   by_cases h2:e≤n
   · have d2:decide ((e:Int)≤(n:Int))=true:=decide_eq_true (by omega)
     have d2':(e:Int)≤(n:Int):=by omega
     rw [show liB n a e=true from decide_eq_true ⟨h1,h2⟩]
     go_enter Tryz.func17,Tryz.ntmps17
     go_wp2
     go_ret
     exact ⟨rfl,rfl⟩
   · have d2:decide ((e:Int)≤(n:Int))=false:=decide_eq_false (by omega)
     have d2':¬ (e:Int)≤(n:Int):=by omega
     rw [show liB n a e=false from decide_eq_false (fun h=>h2 h.2)]
     go_enter Tryz.func17,Tryz.ntmps17
     go_wp2
     go_ret
     exact ⟨rfl,rfl⟩
 · have d1:decide ((a:Int)<(e:Int))=false:=decide_eq_false (by omega)
   have d1':¬ (a:Int)<(e:Int):=by omega
   rw [show liB n a e=false from decide_eq_false (fun h=>h1 h.1)]
   go_enter Tryz.func17,Tryz.ntmps17
   go_wp2
   go_ret
   exact ⟨rfl,rfl⟩
def fitV (sh:Shp) (k:Nat) (L:List (Nat × Nat)) (at_:Nat):Fz × Bool:=if (sh L).len=0 then (fz0,false) else ({ sh L with at_:=at_,kind:=k },true)
theorem fit_any {B:Nat} (v:Value) (sh:Shp) (k at_:Nat) (ao:Option Addr) (cap:Nat) (L:List (Nat × Nat)) (w w0:World) (hv:ShS B w0 v sh) (hw:Fr B w0 w) (h0:0<L.length) (hcap:L.length≤cap) (hlen:L.length<4294967296) (hwf:Wfc L) (hr:CRd w ao L w.heap.size) :
   Calls Tryz.prog 18 #[v,.int .u8 (k:Int),.slice ao L.length cap,.int .u32 (at_:Int)] w fun e w'=>e=.returned (.tuple #[.agg (fzA (fitV sh k L at_).1),.bool (fitV sh k L at_).2])∧Below w.heap.size w w':=by
 obtain ⟨g,lb,rfl,eg,hcall⟩:=hv
 have HL:=dhid (fun o=>hcall (w.alloc o) (hw.trans (Fr.of (bel1 w o))) ao cap L h0 hcap hlen hwf ((hr.below (bel1 w o)).mono (by simp)))
 unfold fitV
 generalize sh L=f at *
 obtain ⟨f0,f1,f2,f3,f4,f5⟩:=f
 simp only [fzA] at HL
 have hbd:Below w.heap.size w w:=Below.refl _ _
 clear hcall hr hwf
 by_cases hz:f1=0
 · subst hz
   rw [if_pos rfl]
   go_enter Tryz.func18,Tryz.ntmps18
   go_wp2_with fail
   refine (HL.out _).mono ?_
   rintro e w1 ⟨rfl,hb1⟩
   have o1:=dhid ((hb1.block w.heap.size (by simp)).trans (heap_alloc_new w _))
   have B1:=dhid ((bel1 w _).trans (hb1.mono (by simp)))
   have hz1:w.heap.size<w1.heap.size:=(Array.getElem?_eq_some_iff.1 o1.out).1
   have o2:=dhid (fun o=>(Below.heap_alloc w1 o w.heap.size hz1).trans o1.out)
   clear HL
   go_wp2_with (refine wpList_storeF rfl _ _ rfl w.heap.size fz0 fz0 rfl rfl (o2.out _) ?_)
   exact bodyPost_ret (resFzB (p:=8) (u:=9) (by kernel_rfl) _ _ w.heap.size _ rfl (setRow_heap _ _ _ _ _ _ (o2.out _)) _ rfl rfl) rfl ⟨rfl,(B1.out.alloc B1.out.size _).trans ((KpSetRow (S:=fun i=>i=w.heap.size) _ _ _ rfl).below (by simp;omega) (fun i e=>by omega))⟩
 · rw [if_neg hz]
   have d1:((f1:Int) == 0)=false:=by rw [beq_eq_false_iff_ne];omega
   have d2:¬ (f1:Int)=0:=by omega
   go_enter Tryz.func18,Tryz.ntmps18
   go_wp2_with fail
   refine (HL.out _).mono ?_
   rintro e w1 ⟨rfl,hb1⟩
   have o1:=dhid ((hb1.block w.heap.size (by simp)).trans (heap_alloc_new w _))
   have B1:=dhid ((bel1 w _).trans (hb1.mono (by simp)))
   have hz1:w.heap.size<w1.heap.size:=(Array.getElem?_eq_some_iff.1 o1.out).1
   have o2:=dhid (fun o=>(Below.heap_alloc w1 o w.heap.size hz1).trans o1.out)
   clear HL
   go_wp2_with (refine wpList_storeF rfl _ _ rfl w.heap.size fz0 ⟨at_,f1,k,f3,f4,f5⟩ rfl rfl (o2.out _) ?_)
   exact bodyPost_ret (resFzB (p:=8) (u:=9) (by kernel_rfl) _ _ w.heap.size _ rfl (setRow_heap _ _ _ _ _ _ (o2.out _)) _ rfl rfl) rfl ⟨rfl,(B1.out.alloc B1.out.size _).trans ((KpSetRow (S:=fun i=>i=w.heap.size) _ _ _ rfl).below (by simp;omega) (fun i e=>by omega))⟩
theorem rwF_le {L:List (Nat × Nat)} (hwf:Wfc L):∀ (P:List Pt) (f:Fz),(∀ pt∈P,PtOk pt)→f.len≤L.length→(rwF L P f).len≤L.length
 | [],f,_,h=>h
 | pt :: r,f,hP,h=>by
   unfold rwF
   split
   · rename_i hb
     have h1:=hP pt (by simp) (L.drop f.len) f (wfc_drop hwf _) hb
     rw [List.length_drop] at h1
     exact rwF_le hwf r _ (fun q hq=>hP q (by simp [hq])) (by omega)
   · exact Nat.zero_le _
theorem shFold_le {L:List (Nat × Nat)} (hwf:Wfc L) (k:Nat):(shFold k L).len≤L.length:=by
 have:=(lnP_le hwf 0 L.length).1
 unfold shFold
 split
 · simp only;omega
 · exact Nat.zero_le _
theorem shRow_le {L:List (Nat × Nat)} (hwf:Wfc L) {P:List Pt} (hP:∀ pt∈P,PtOk pt):(shRow P L).len≤L.length:=rwF_le hwf P fz0 hP (Nat.zero_le _)
theorem shK_le {L:List (Nat × Nat)} (hwf:Wfc L) (k:Nat):(shK k L).len≤L.length:=by
 unfold shK
 split
 · exact shRow_le hwf (by simp only [List.mem_singleton,forall_eq];exact ok_any)
 · exact shFold_le hwf 2
 · exact shFold_le hwf 3
 · exact shFold_le hwf 4
 · exact shRow_le hwf (by simp only [List.forall_mem_cons,List.not_mem_nil,false_imp_iff,implies_true,and_true];exact ⟨ok_c,ok_bin⟩)
 · exact shRow_le hwf (by simp only [List.forall_mem_cons,List.not_mem_nil,false_imp_iff,implies_true,and_true];exact ⟨ok_c,ok_cmp⟩)
 · exact shRow_le hwf (by simp only [List.forall_mem_cons,List.not_mem_nil,false_imp_iff,implies_true,and_true];exact ⟨ok_c,ok_arg⟩)
 · exact shRow_le hwf (by simp only [List.forall_mem_cons,List.not_mem_nil,false_imp_iff,implies_true,and_true];exact ⟨ok_c,ok_only 5⟩)
 · exact shRow_le hwf (by simp only [List.forall_mem_cons,List.not_mem_nil,false_imp_iff,implies_true,and_true];exact ⟨ok_c,ok_load⟩)
 · exact shRow_le hwf (by simp only [List.forall_mem_cons,List.not_mem_nil,false_imp_iff,implies_true,and_true];exact ⟨ok_c,ok_store⟩)
 · exact shRow_le hwf (by simp only [List.forall_mem_cons,List.not_mem_nil,false_imp_iff,implies_true,and_true];exact ⟨ok_local,ok_arg⟩)
 · exact shRow_le hwf (by simp only [List.forall_mem_cons,List.not_mem_nil,false_imp_iff,implies_true,and_true];exact ⟨ok_local,ok_load⟩)
 · exact shRow_le hwf (by simp only [List.forall_mem_cons,List.not_mem_nil,false_imp_iff,implies_true,and_true];exact ⟨ok_local,ok_only 31,ok_bin⟩)
 · exact shRow_le hwf (by simp only [List.forall_mem_cons,List.not_mem_nil,false_imp_iff,implies_true,and_true];exact ⟨ok_local,ok_only 31,ok_cmp⟩)
 · exact shRow_le hwf (by simp only [List.forall_mem_cons,List.not_mem_nil,false_imp_iff,implies_true,and_true];exact ⟨ok_local,ok_same,ok_only 31,ok_cb,ok_harm,ok_only 34⟩)
 · exact Nat.zero_le _
def fkV (L:List (Nat × Nat)) (at_ k:Nat):Fz × Bool:=fitV (shK k) k L at_
theorem fkV_le {L:List (Nat × Nat)} (hwf:Wfc L) (at_ k:Nat):(fkV L at_ k).1.len≤L.length:=by
 unfold fkV fitV
 split
 · exact Nat.zero_le _
 · exact shK_le hwf k
def bst (L:List (Nat × Nat)) (at_:Nat):Nat→Fz
 |0=>fz0
 |k+1=>if (bst L at_ k).len<(fkV L at_ (k+1)).1.len then (fkV L at_ (k+1)).1 else bst L at_ k
theorem bst_le {L:List (Nat × Nat)} (hwf:Wfc L) (at_:Nat):∀ k,(bst L at_ k).len≤L.length
 |0=>Nat.zero_le _
 | k+1=>by
   unfold bst
   split
   · exact fkV_le hwf at_ (k+1)
   · exact bst_le hwf at_ k
theorem bst_up (L:List (Nat × Nat)) (at_:Nat) (k:Nat):(bst L at_ k).len≤(bst L at_ (k+1)).len:=by
 show _≤(if _ then _ else _:Fz).len
 split
 · omega
 · exact Nat.le_refl _
theorem shK_one (p:Nat × Nat) (R:List (Nat × Nat)):shK 1 (p :: R)=if erV p.1 p.2=0 then ⟨0,1,0,p.1,p.2,0⟩ else fz0:=by
 show rwF (p :: R) [ptSingle lkAny] fz0=_
 unfold rwF
 show (if (ptSingle lkAny ((p :: R).drop 0) fz0).2=true then rwF _ [] (ptSingle lkAny ((p :: R).drop 0) fz0).1 else fz0)=_
 rw [List.drop_zero]
 unfold ptSingle
 by_cases h:erV p.1 p.2=0
 · simp only [h,if_true];rfl
 · simp only [h,if_false];rfl
theorem fkV_one (p:Nat × Nat) (R:List (Nat × Nat)) (at_:Nat):fkV (p :: R) at_ 1=if erV p.1 p.2=0 then (⟨at_,1,1,p.1,p.2,0⟩,true) else (fz0,false):=by
 unfold fkV fitV
 rw [shK_one]
 by_cases h:erV p.1 p.2=0
 · simp only [h,if_true];rfl
 · simp only [h,if_false];rfl
theorem bst_pos {p:Nat × Nat} {R:List (Nat × Nat)} (h:erV p.1 p.2=0) (at_:Nat):∀ k,1≤(bst (p :: R) at_ (k+1)).len
 | 0=>by
   show 1≤(if (bst (p :: R) at_ 0).len<(fkV (p :: R) at_ 1).1.len then (fkV (p :: R) at_ 1).1 else bst (p :: R) at_ 0).len
   rw [fkV_one,if_pos h,show (bst (p :: R) at_ 0).len=0 from rfl,if_pos (show 0<1 by decide)]
   exact Nat.le_refl _
 |k+1=>Nat.le_trans (bst_pos h at_ k) (bst_up _ _ _)
def flE (L:List (Nat × Nat)) (a e:Nat):Nat:=lnE L a e
def flV (L:List (Nat × Nat)) (a e:Nat):Fz:=if flE L a e=0 then bst ((L.drop a).take (e-a)) a 15 else fz0
def thS:Nat→List (Nat × Nat)→Nat→List Fz
 |0,_,_=>[]
 |_+1,[],_=>[]
 |n+1,p :: R,at_=>if erV p.1 p.2=0 then bst (p :: R) at_ 15 :: thS n ((p :: R).drop (bst (p :: R) at_ 15).len) (at_+(bst (p :: R) at_ 15).len) else []
def plR:List (Nat × Nat)→List Nat→Option (List Nat)
 | [],ws=>some ws
 |p :: r,ws=>if erV p.1 p.2=0∧¬ opKi p.1=2 then (match doD ws p.1 p.2 with|none=>none|some ws'=>plR r ws') else none
theorem plR_on {p:Nat × Nat} {r:List (Nat × Nat)} {ws ws':List Nat} (h1:erV p.1 p.2=0) (h2:¬ opKi p.1=2) (h3:doD ws p.1 p.2=some ws'):plR (p :: r) ws=plR r ws':=by simp [plR,h1,h2,h3]
theorem plD_word:∀ (A:List (Nat × Nat)) (ws:List Nat) (v:Nat),plD A ws=some (2,v)→plR A ws=some [v]
 | [], ws,v,h=>by
   unfold plD at h
   split at h
   · cases h
   · split at h
     · rename_i h1
       cases h
       match ws,h1 with
       | [x],_=>rfl
     · cases h
 | p :: r,ws,v,h=>by
   by_cases h1:erV p.1 p.2=0
   · by_cases h2:opKi p.1=2
     · rw [plD_cmp h1 h2] at h
       split at h
       · split at h <;> cases h
       · cases h
     · cases hd:doD ws p.1 p.2 with
       |none=>rw [plD_no h2 hd] at h;cases h
       | some ws'=>
         rw [plD_on h1 h2 hd] at h
         rw [plR_on h1 h2 hd]
         exact plD_word r ws' v h
   · rw [plD_er h1] at h;cases h
theorem plD_app:∀ (A B:List (Nat × Nat)) (ws ws':List Nat),plR A ws=some ws'→plD (A ++ B) ws=plD B ws'
 | [],B,ws,ws',h=>by cases h;rfl
 | p :: r,B,ws,ws',h=>by
   unfold plR at h
   split at h
   · rename_i h1
     cases hd:doD ws p.1 p.2 with
     |none=>rw [hd] at h;cases h
     | some wt=>
       rw [hd] at h
       rw [List.cons_append,plD_on h1.1 h1.2 hd]
       exact plD_app r B wt ws' h
   · cases h
def stpB (op:Nat):Bool:=decide (opKi op=2) || (decide (¬ op=1) && decide (¬ op=8) && decide (¬ op=10) && decide (¬ op=11) && decide (¬ unE op=0))
theorem stp_none {p:Nat × Nat} {r:List (Nat × Nat)} (v:Nat) (h:stpB p.1=true):plD (p :: r) [v]=none:=by
 by_cases h1:erV p.1 p.2=0
 · by_cases h2:opKi p.1=2
   · rw [plD_cmp h1 h2,if_neg (fun e=>by simp at e)]
   · refine plD_no h2 ?_
     simp only [stpB,Bool.or_eq_true,Bool.and_eq_true,decide_eq_true_eq] at h
     rcases h with h|⟨⟨⟨⟨a,b⟩,c⟩,d⟩,e⟩
     · exact absurd h h2
     · unfold doD
       rw [if_neg a,if_neg b,if_neg c,if_neg d,if_neg e]
       split
       · rw [if_neg (fun q=>by simp at q)]
       · rfl
 · exact plD_er h1
theorem stp_cmp:∀ op,op<256→13≤op→op≤28→stpB op=true:=by decide +kernel
theorem stp_ls:∀ op,op<256→29≤op→op≤34→stpB op=true:=by decide +kernel
theorem stp_bin:∀ op,op<256→39≤op→op≤57→opTa op=2→stpB op=true:=by decide +kernel
theorem stp_5:stpB 5=true∧stpB 12=true:=by decide +kernel
theorem stp_all {L:List (Nat × Nat)} {m v:Nat} {p:Nat × Nat} (hv:plD (L.take m) []=some (2,v)) (hm:L[m]?=some p) (hs:stpB p.1=true) (n:Nat) (hn:m<n):plD (L.take n) []=none:=by
 have hl:=(List.getElem?_eq_some_iff.1 hm).1
 have e:L.take n=L.take m ++ (p :: (L.drop (m+1)).take (n-m-1)):=by
   have h1:L.take n=L.take m ++ (L.drop m).take (n-m):=by
     rw [show n=m+(n-m) by omega,List.take_add,show m+(n-m)-m=n-m by omega]
   rw [h1,List.drop_eq_getElem_cons hl,(List.getElem?_eq_some_iff.1 hm).2,show n-m=(n-m-1)+1 by omega,List.take_succ_cons,show n-m-1+1-1=n-m-1 by omega]
 rw [e,plD_app _ _ _ _ (plD_word _ _ _ hv)]
 exact stp_none v hs
theorem cnD_one {p:Nat × Nat} {v:Nat}:plD [p] []=some (2,v)↔erV p.1 p.2=0∧p.1=8∧p.2=v:=by
 constructor
 · intro h
   by_cases h1:erV p.1 p.2=0
   · by_cases h2:opKi p.1=2
     · rw [plD_cmp h1 h2,if_neg (fun e=>by simp at e)] at h;cases h
     · cases hd:doD [] p.1 p.2 with
       |none=>rw [plD_no h2 hd] at h;cases h
       | some ws=>
         rw [plD_on h1 h2 hd] at h
         unfold doD at hd
         split at hd
         · cases hd;cases h
         split at hd
         · rename_i _ h8
           simp at hd
           subst hd
           simp [plD] at h
           exact ⟨h1,h8,h⟩
         split at hd
         · simp at hd
         split at hd
         · simp at hd
         split at hd
         · simp at hd
         split at hd
         · simp at hd
         · cases hd
   · rw [plD_er h1] at h;cases h
 · rintro ⟨h1,h8,rfl⟩
   have h2:¬ opKi p.1=2:=by rw [h8];decide +kernel
   have hd:doD [] p.1 p.2=some [p.2]:=by rw [h8];rfl
   rw [plD_on h1 h2 hd]
   rfl
theorem plD_first {p:Nat × Nat} {r:List (Nat × Nat)} {ws:List Nat} {q:Nat × Nat} (h:plD (p :: r) ws=some q):erV p.1 p.2=0:=Decidable.byContradiction fun h1=>by rw [plD_er h1] at h;cases h
theorem lnP_zero {L:List (Nat × Nat)} {p:Nat × Nat} {r:List (Nat × Nat)} (hL:L=p :: r) (he:erV p.1 p.2=0) {K:Nat} (h0:0<K) (hK:K≤L.length):lnP L 0 K=(0,lgV (L.take K)):=by
 unfold lnP
 rw [if_pos ⟨h0,hK,by rw [hL];exact he⟩,List.drop_zero,Nat.sub_zero]
theorem wf_lt {L:List (Nat × Nat)} (h:Wfc L) (K:Nat):∀ p∈L.take K,p.1<256:=fun p hp=>(h p (List.mem_of_mem_take hp)).1
theorem cnV_fit {L:List (Nat × Nat)} (hwf:Wfc L) {m v:Nat} {p:Nat × Nat} (h1:1≤m) (h16:m≤16) (hc:plD (L.take m) []=some (2,v)) (hm:L[m]?=some p) (hs:stpB p.1=true):cnV L=(m,v):=by
 have hl:=(List.getElem?_eq_some_iff.1 hm).1
 have hLq:∃ q r,L=q :: r:=by
   cases L with
   |nil=>simp at hl
   |cons q r=>exact ⟨q,r,rfl⟩
 obtain ⟨q,r,hL⟩:=hLq
 have he:erV q.1 q.2=0:=by
   rw [hL,take_pos h1] at hc
   exact plD_first hc
 obtain ⟨K,hK⟩:∃ K,K=min L.length 16:=⟨_,rfl⟩
 have hK1:m≤K:=by omega
 have hK2:K≤L.length:=by omega
 have hkl:(L.take K).length=K:=by rw [List.length_take];omega
 have htk:∀ n,n≤K→(L.take K).take n=L.take n:=fun n hn=>by rw [List.take_take,Nat.min_eq_left hn]
 have hb:=lgF_bst (L.take K) [] 0 (1,1,0) (wf_lt hwf K) (by decide) (fun _=>rfl)
 have hP:=lnP_zero hL he (by omega:0<K) hK2
 unfold cnV
 rw [←hK,hP]
 change Bst (L.take K) [] 0 (1,1,0) (lgV (L.take K)) at hb
 rcases hb with ⟨n,k,v',n1,n2,n3,n4,n5,n6⟩|⟨n1,n2⟩
 · rw [hkl] at n2 n6
   rw [htk n n2] at n4
   have hnm:n=m:=by
     rcases Nat.lt_trichotomy n m with h|h|h
     · have:=n6 m h hK1
       rw [htk m hK1,hc] at this
       cases this
     · exact h
     · rw [stp_all hc hm hs n h] at n4
       cases n4
   subst hnm
   rw [hc] at n4
   cases n4
   rw [n5]
   simp
 · rw [hkl] at n1
   have hm1:m=1:=by
     apply Decidable.byContradiction
     intro hne
     have:=n1 m h1 hK1 (by omega)
     rw [htk m hK1,hc] at this
     cases this
   subst hm1
   rw [hL,List.take_succ_cons,List.take_zero] at hc
   obtain ⟨-,a2,a3⟩:=cnD_one.1 hc
   rw [n2]
   rw [if_neg (by simp),if_pos ⟨rfl,by rw [hL];exact a2⟩,hL]
   simp [a3]
theorem cnV_is {L:List (Nat × Nat)} (hwf:Wfc L) (h:0<(cnV L).1):(cnV L).1≤L.length∧(cnV L).1≤16∧plD (L.take (cnV L).1) []=some (2,(cnV L).2):=by
 obtain ⟨K,hK⟩:∃ K,K=min L.length 16:=⟨_,rfl⟩
 cases L with
 |nil=>exact absurd h (by decide +kernel)
 | cons q r=>
   have hK2:K≤(q :: r).length:=by omega
   have hK0:0<K:=by simp only [List.length_cons] at hK;omega
   by_cases he:erV q.1 q.2=0
   · have hP:=lnP_zero (L:=q :: r) rfl he hK0 hK2
     have hkl:((q :: r).take K).length=K:=by rw [List.length_take];omega
     have hb:=lgF_bst ((q :: r).take K) [] 0 (1,1,0) (wf_lt hwf K) (by decide) (fun _=>rfl)
     change Bst ((q :: r).take K) [] 0 (1,1,0) (lgV ((q :: r).take K)) at hb
     unfold cnV at h ⊢
     rw [←hK,hP] at h ⊢
     rcases hb with ⟨n,k,v',n1,n2,n3,n4,n5,n6⟩|⟨n1,n2⟩
     · rw [hkl] at n2
       rw [List.take_take,Nat.min_eq_left n2] at n4
       rw [n5] at h ⊢
       simp only [Nat.zero_add] at h ⊢
       by_cases hk:k=2
       · subst hk
         rw [if_pos rfl]
         exact ⟨by omega,by omega,n4⟩
       · rw [if_neg hk] at h ⊢
         by_cases hk1:k=1∧((q :: r).getD 0 (0,0)).1=8
         · rw [if_pos hk1]
           exact ⟨by simp,(by decide:1≤16),by rw [List.take_succ_cons,List.take_zero];exact cnD_one.2 ⟨he,hk1.2,rfl⟩⟩
         · rw [if_neg hk1] at h;exact absurd h (by decide)
     · rw [n2] at h ⊢
       rw [if_neg (by decide)] at h ⊢
       by_cases hk1:(1:Nat)=1∧((q :: r).getD 0 (0,0)).1=8
       · rw [if_pos hk1]
         exact ⟨by simp,(by decide:1≤16),by rw [List.take_succ_cons,List.take_zero];exact cnD_one.2 ⟨he,hk1.2,rfl⟩⟩
       · rw [if_neg hk1] at h;exact absurd h (by decide)
   · have hP:lnP (q :: r) 0 K=(0,0,0,0):=if_neg (fun e=>he e.2.2)
     unfold cnV at h
     rw [←hK,hP,if_neg (by decide),if_neg (fun e=>by cases e.1)] at h
     exact absurd h (by decide)
end Go.Proofs.YtibhlcfligfhdaaGreat
