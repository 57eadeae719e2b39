import Derived.Test.YtibhlcfligfhdaaGreatCZAw
import Derived.Test.YtibhlcfligfhdaaGreatCZDq
namespace Go.Proofs.YtibhlcfligfhdaaGreat
open Go.RowKit Go.WideShapes Go.Shelf
set_option maxRecDepth 100000
theorem run_store_funcY (P:Program) (w:World) (a:Addr) (f:Fn) (x y:Array Value) (m:Mode):(store a (.func f x y) m).run P w=stored P w a (.func f x y) m:=run_store P w a _ m rfl
attribute [local go_sem] Oper.semAt_some run_store_funcY
theorem own_blk {w:World} {B e sz n g c:Nat} {xs:List Value} (h:w.ownsRow B e sz (.slice (some ⟨g,0,none⟩) n c) n xs):Blk w g e (n*sz):=by
 have h':=h
 rcases h.2 with ⟨e1,_⟩|⟨g',cap',cur',e1,e2,e3,e4⟩
 · cases e1
 · simp only [Value.slice.injEq,Option.some.injEq,Addr.mk.injEq,and_true,true_and] at e1
   obtain ⟨rfl,rfl⟩:=e1
   refine ⟨cur',e3,Nat.le_of_not_lt fun hlt=>?_⟩
   have h1:=h'.cellAt cur'.size hlt
   rw [obj_cell e3,Array.getElem?_eq_none (Nat.le_refl _),List.getElem?_eq_getElem (by have:=h'.1;omega)] at h1
   cases h1
theorem pickD (lv:Int) (n:Nat) (w:World) (hl0 : -9223372036854775808≤lv) (hl1:lv≤9223372036854775807) (hn:n≤4294967296):∃ st:Nat,st≤n∧Calls Tryz.prog 15 #[.int .i64 lv,.int .i64 ((n:Int)+1)] w fun e w'=>e=.returned (.int .i64 (st:Int))∧w'=w:=by
 have h1:(0:Int)≤lv % ((n:Int)+1):=Int.emod_nonneg _ (by omega)
 have h2:=Int.emod_lt_of_pos lv (b:=(n:Int)+1) (by omega)
 have h3:=pick_any lv ((n:Int)+1) w hl0 hl1 (by omega) (by omega)
 refine ⟨(lv % ((n:Int)+1)).toNat,by omega,?_⟩
 rw [Int.toNat_of_nonneg h1]
 exact h3
theorem wrapD {n:Nat} (h:n≤4294967296):wrap64 ((n:Int)+1)=(n:Int)+1:=by unfold wrap64;omega
theorem boxed_stepY {A B:World} {row:Option Nat} {b t:Nat} {v:Value} (h:Boxed A b t v) (hg:A.grownBy B row) (hr:∀ r,row=some r→∃ o:Obj,A.heap[r]?=some o∧o.isCells=false):Boxed B b t v:=
 h.kept hg (fun e=>by
   obtain ⟨o,ho,hc⟩:=hr b e.symm
   have h':A.heap[b]?=some (.cells #[v] t (0,0)):=h
   rw [h'] at ho
   cases ho
   cases hc)
theorem Agree.belowY {A V V':World} {k:Nat} (h:Agree A k V) (hb:Below V.heap.size V V'):Agree A k V':=
 ⟨Nat.le_trans h.1 hb.size,fun j o hj ho hc=>by
   have h1:=h.2 j o hj ho hc
   exact (hb.block j (Array.getElem?_eq_some_iff.1 h1).1).trans h1⟩
theorem crd_agreeY {A V:World} {k B:Nat} {ao:Option Addr} {L:List (Nat × Nat)} (h:Agree A k V) (hr:CRd A ao L B) (hk:B≤k):CRd V ao L B:=fun hl=>by
 obtain ⟨b5,o5,e5,hb5,hc⟩:=hr hl
 exact ⟨b5,o5,e5,hb5,fun j hj=>⟨h.cell (hc j hj).1 (by show b5≠k;omega),h.cell (hc j hj).2 (by show b5≠k;omega)⟩⟩
theorem rwS_lenY (L:List (Nat × Nat)) (a e:Nat) (ha:a<4294967296) (he:e<4294967296):a+(rwS L a e).length<4294967296:=by
 unfold rwS
 split
 · rw [List.length_take,List.length_drop];omega
 · simp;omega
theorem rwS_wfY {L:List (Nat × Nat)} (h:Wfc L) (a e:Nat):Wfc (rwS L a e):=by
 unfold rwS
 split
 · exact fun p hp=>h p (List.drop_subset _ _ (List.mem_of_mem_take hp))
 · exact fun p hp=>by cases hp
theorem rwS_thY (L:List (Nat × Nat)) (a e:Nat):thsV (rwS L a e) a=if a<e∧e≤L.length then rwL L a e else []:=by
 unfold rwS
 split
 · rfl
 · rfl
theorem kz_setY {B Bc k:Nat} {ao:Option Addr} {L:List (Nat × Nat)} {W:World} (h1:k<B) (h2:Bc≤k) (v:Value):Kz B ao L Bc W (W.setCell ⟨k,0,none⟩ v):=
 ⟨⟨by simp [World.setCell],fun i cs t fr q1 q2=>(Below.heap_setCell _ _ _ _ (by show i≠k;omega)).trans q2⟩,fun hc=>hc.below ((Below.refl Bc W).setCell (p:=⟨k,0,none⟩) h2 v)⟩
theorem fr_stepY {B:Nat} {V A C:World} {row:Option Nat} (h:Fr B V A) (hg:A.grownBy C row) (hr:∀ r,row=some r→∃ o:Obj,A.heap[r]?=some o∧o.isCells=false):Fr B V C:=
 ⟨Nat.le_trans h.1 hg.size,fun i cs t fr h1 h2=>by
   have h3:=h.2 i cs t fr h1 h2
   refine (hg.block i (Array.getElem?_eq_some_iff.1 h3).1 (fun e=>?_)).trans h3
   obtain ⟨o,ho,hc⟩:=hr i e.symm
   rw [h3] at ho
   cases ho
   cases hc⟩
theorem upon_stepY {B:Nat} {V A C:World} {row:Option Nat} {m:Nat} (h:Upon B V A) (hm:V.heap.size≤m) (hg:A.grownBy C row) (hr:∀ r,row=some r→m≤r):Upon B V C:=
 ⟨Nat.le_trans h.size hg.size,fun k o hB hk hc=>(hg.block k (Nat.lt_of_lt_of_le (Array.getElem?_eq_some_iff.1 hk).1 h.size) (fun e=>by have:=hr k e.symm;have:=(Array.getElem?_eq_some_iff.1 hk).1;omega)).trans (h.same k o hB hk hc)⟩
theorem fcv_atY:∀ (D:List Fz) (i:Nat) (x:Fz),D[i]?=some x→(fcv D)[i*6]?=some (.int .u32 (x.at_:Int))∧(fcv D)[i*6+1]?=some (.int .u32 (x.len:Int))∧(fcv D)[i*6+2]?=some (.int .u8 (x.kind:Int))∧(fcv D)[i*6+3]?=some (.int .u8 (x.op:Int))∧(fcv D)[i*6+4]?=some (.int .u32 (x.a:Int))∧(fcv D)[i*6+5]?=some (.int .u32 (x.b:Int))
 | [],i,x,h=>by simp at h
 | f :: r,0,x,h=>by
   simp only [List.getElem?_cons_zero,Option.some.injEq] at h
   subst h
   exact ⟨rfl,rfl,rfl,rfl,rfl,rfl⟩
 | f :: r,i+1,x,h=>by
   have q:=fcv_atY r i x (by simpa using h)
   rw [show (i+1)*6=i*6+6 by omega]
   rw [show i*6+6+1=(i*6+1)+6 by omega,show i*6+6+2=(i*6+2)+6 by omega,show i*6+6+3=(i*6+3)+6 by omega,show i*6+6+4=(i*6+4)+6 by omega,show i*6+6+5=(i*6+5)+6 by omega]
   exact q
theorem own_anyY {w:World} {B e sz n:Nat} {v:Value} {xs:List Value} (h:w.ownsRow B e sz v n xs):∃ a c,v=.slice a n c:=by
 rcases h.2 with ⟨rfl,rfl⟩|⟨g,cap,cur,rfl,_⟩
 · exact ⟨_,_,rfl⟩
 · exact ⟨_,_,rfl⟩
set_option maxHeartbeats 8000000 in
theorem frow_law (ao:Option Addr) (cap a e:Nat) (lv:Int) (L:List (Nat × Nat)) (w:World) (hn:L.length≤17592186044352) (ha:a<4294967296) (he:e<4294967296) (hwf:Wfc L) (hr:CRd w ao L w.heap.size) (hl0 : -9223372036854775808≤lv) (hl1:lv≤9223372036854775807) :
   Calls Tryz.prog 5 #[.slice ao L.length cap,.int .u32 (a:Int),.int .u32 (e:Int),.int .i64 lv] w fun x w'=>x=.returned (.bool true)∧Below w.heap.size w w':=by
 have HR:=dhid (fun W (hW:Below w.heap.size w W)=>(hr.below hW).mono hW.size)
 have HDR:=dhid (fun W (hW:Below w.heap.size w W)=>(callsIn_wide (n:=29)).2 (drow_any ao cap a e L W (by omega) ha he hwf (HR.out W hW)))
 have HLN:=dhid (fun W (hW:Below w.heap.size w W)=>(callsIn_wide (n:=29)).2 (lentc_any ao cap L W hn (HR.out W hW)))
 have hlen:(L ++ mksC 64).length=L.length+64:=by rw [List.length_append,mksC_len]
 clear hr
 refine (callsIn_wide (n:=30)).1 ?_
 refine callsIn_of_wp_marks Tryz.func5 rfl trivial ?_ rfl
 simp only [Tryz.ntmps5,List.size_toArray,List.length_cons,List.length_nil,Nat.reduceAdd,Nat.reduceSub,Array.replicate_succ,Array.replicate_zero,List.push_toArray,List.append_toArray,List.nil_append,List.cons_append]
 gi_wp2_with fail
 refine ⟨trivial,?_⟩
 refine (HDR.out _ (bel1 w _)).mono ?_
 rintro x w1 ⟨v,D,rfl,hD,ownD,b1⟩
 replace hD:=dhid hD
 have B1:Hid (Below w.heap.size w w1):=dhid ((bel1 w (.cells #[.bool false] 4)).trans (b1.mono (by simp)))
 have s1:w.heap.size<w1.heap.size:=by have:=b1.size;simp at this;omega
 have bR1:Boxed w1 w.heap.size 4 (.bool false):=(b1.block w.heap.size (by simp)).trans (heap_alloc_new w _)
 clear b1
 obtain ⟨va,vc,rfl⟩:=own_anyY ownD
 gi_wp2_with fail
 refine ⟨trivial,?_⟩
 refine (HLN.out _ (B1.out.alloc B1.out.size _)).mono ?_
 rintro x w2 ⟨v,rfl,own2,b2⟩
 rw [←hlen] at own2
 obtain ⟨g,c,rfl,hlc,hg1,hg2,rd2⟩:=own_g own2 (by rw [hlen];omega)
 rw [hlen] at own2 hlc ⊢
 have hcI:(L.length:Int)≤(c:Int):=by omega
 have s2:w1.heap.size+1≤g:=by simpa using hg1
 have z2:w1.heap.size+1≤w2.heap.size:=by have:=b2.size;simpa using this
 have B2:Hid (Below w.heap.size w w2):=dhid ((B1.out.alloc B1.out.size (.cells #[.slice va D.length vc] 39)).trans (b2.mono (show w.heap.size≤(w1.alloc _).heap.size by have:=B1.out.size;simp;omega)))
 have K12:∀ k,k<w1.heap.size→w2.heap[k]?=w1.heap[k]?:=fun k hk=>(b2.block k (by simp;omega)).trans (Below.heap_alloc _ _ _ hk)
 have bW2:Boxed w2 w1.heap.size 39 (.slice va D.length vc):=(b2.block _ (by simp)).trans (heap_alloc_new w1 _)
 clear b2
 have HFR:=(callsIn_wide (n:=29)).2 (frow_own (some ⟨g,0,none⟩) c a e L w2 (Nat.le_trans (Nat.mul_le_mul_right 8 hn) (by decide)) (Nat.le_trans (Nat.le_add_right _ _) hlc) ha he (crd_left rd2))
 gi_wp2_with fail
 refine ⟨trivial,?_⟩
 refine HFR.mono ?_
 rintro x w3 ⟨v,rfl,hS⟩
 have b3:=hS.bl
 obtain ⟨k1,k2,so,sc,rfl,hsc,hk1,hk2,hsr,hl1',hl2',hso⟩:=hS.ex
 have B3:Hid (Below w.heap.size w w3):=dhid (B2.out.trans (b3.mono B2.out.size))
 have z3:=b3.size
 have HNC:=fun W=>nilcmpZ k1 k2 W
 have HKP:=dhid (fun W (hW:Below w2.heap.size w2 W)=>(callsIn_wide (n:=29)).2 (keptc_any ao cap L g c W hn (HR.out W (B2.out.trans (hW.mono B2.out.size))) ((rd2.below hW).mono hW.size)))
 have BA:Below w2.heap.size w2 (w3.alloc (.cells #[.func (.func 48) #[] #[.pointer (some ⟨k1,0,none⟩),.pointer (some ⟨k2,0,none⟩)]] 42)):=b3.alloc b3.size _
 gi_wp2_with fail
 refine ⟨trivial,?_⟩
 refine (HKP.out _ BA).mono ?_
 rintro x w4 ⟨rfl,b4⟩
 have B24:=dhid (BA.trans (b4.mono (Nat.le_trans BA.size (Nat.le_refl _))))
 have own4:w4.ownsRow (w1.heap.size+1) 37 2 (.slice (some ⟨g,0,none⟩) (L.length+64) c) (L.length+64) (cv (L ++ mksC 64)):=by
   have:=(Kp.ofBelow (S:=fun _=>False) B24.out).own own2 (fun _ _ e=>e)
   simpa using this
 have bA4:Boxed w4 w3.heap.size 42 (.func (.func 48) #[] #[.pointer (some ⟨k1,0,none⟩),.pointer (some ⟨k2,0,none⟩)]):=(b4.block _ (by simp)).trans (heap_alloc_new w3 _)
 have K34:∀ k,k<w3.heap.size→w4.heap[k]?=w3.heap[k]?:=fun k hk=>(b4.block k (by simp;omega)).trans (Below.heap_alloc _ _ _ hk)
 have z4:w3.heap.size+1≤w4.heap.size:=by have:=b4.size;simpa using this
 clear HKP BA b4 HNC
 have HOV:=(callsIn_wide (n:=29)).2 (overc_any g (L.length+64) c w4 (by omega) (own_blk own4))
 gi_wp2_with fail
 refine ⟨trivial,?_⟩
 refine HOV.mono ?_
 rintro x w5 ⟨⟨v5,rfl⟩,k5⟩
 have z5:=k5.size
 have K5:∀ k,k≠g→k<w4.heap.size→w5.heap[k]?=w4.heap[k]?:=fun k h1 h2=>k5.block k h2 h1
 have K15:∀ k,k<w1.heap.size+1→w5.heap[k]?=w2.heap[k]?:=fun k hk=>(K5 k (by omega) (by omega)).trans ((K34 k (by omega)).trans (b3.block k (by omega)))
 have bW5:Boxed w5 w1.heap.size 39 (.slice va D.length vc):=(K15 _ (by omega)).trans bW2
 have bR5:Boxed w5 w.heap.size 4 (.bool false):=(K15 _ (by omega)).trans ((K12 _ s1).trans bR1)
 have bA5:Boxed w5 w3.heap.size 42 (.func (.func 48) #[] #[.pointer (some ⟨k1,0,none⟩),.pointer (some ⟨k2,0,none⟩)]):=(K5 _ (by omega) (by omega)).trans bA4
 have lk1:k1<w3.heap.size:=hk1.lt
 have lk2:k2<w3.heap.size:=hk2.lt
 have K35:∀ k,k≠g→k<w3.heap.size→w5.heap[k]?=w3.heap[k]?:=fun k h1 h2=>(K5 k h1 (by omega)).trans (K34 k h2)
 have hk15:Boxed w5 k1 23 (.int .u32 (a:Int)):=(K35 k1 (by omega) lk1).trans hk1
 have hk25:Boxed w5 k2 22 (.slice so (rwS L a e).length sc):=(K35 k2 (by omega) lk2).trans hk2
 have hsr5:CRd w5 so (rwS L a e) w3.heap.size:=fun hl=>by
   obtain ⟨b5,o5,e5,hb5,hc⟩:=hsr hl
   subst e5
   have hbg:=hso _ rfl
   simp only at hbg
   have hk:=K35 b5 (by omega) hb5
   exact ⟨b5,o5,rfl,hb5,fun j hj=>⟨(World.cell?_of_block (w:=w3) (w':=w5) (a:=⟨b5,o5+j*2,none⟩) hk).trans (hc j hj).1,(World.cell?_of_block (w:=w3) (w':=w5) (a:=⟨b5,o5+j*2+1,none⟩) hk).trans (hc j hj).2⟩⟩
 have B5:Hid (Below w.heap.size w w5):=dhid ((B2.out.trans (B24.out.mono B2.out.size)).trans (k5.below (by have:=B2.out.size;omega) (fun i e=>by omega)))
 have HWC:Hid (∀ i x,D[i]?=some x→∃ gw,va=some ⟨gw,0,none⟩∧gw<w1.heap.size∧w5.cell? ⟨gw,i*6,none⟩=some (.int .u32 (x.at_:Int))∧w5.cell? ⟨gw,i*6+1,none⟩=some (.int .u32 (x.len:Int))∧w5.cell? ⟨gw,i*6+2,none⟩=some (.int .u8 (x.kind:Int))∧w5.cell? ⟨gw,i*6+3,none⟩=some (.int .u8 (x.op:Int))∧w5.cell? ⟨gw,i*6+4,none⟩=some (.int .u32 (x.a:Int))∧w5.cell? ⟨gw,i*6+5,none⟩=some (.int .u32 (x.b:Int))):=dhid (fun i x hi=>by
   obtain ⟨q0,q1,q2,q3,q4,q5⟩:=fcv_atY D i x hi
   have hil:=(List.getElem?_eq_some_iff.1 hi).1
   rcases ownD.2 with ⟨e1,_⟩|⟨g',cap',cur',e1,e2,e3,e4⟩
   · simp only [Value.slice.injEq] at e1
     omega
   · simp only [Value.slice.injEq,true_and] at e1
     obtain ⟨rfl,rfl⟩:=e1
     have hg:=(Array.getElem?_eq_some_iff.1 e3).1
     have hk:=(K15 g' (by omega)).trans (K12 g' hg)
     have hc:=fun j (hj:j<D.length*6)=>(World.cell?_of_block (w:=w1) (w':=w5) (a:=⟨g',j,none⟩) hk).trans (ownD.cellAt j hj)
     exact ⟨g',rfl,hg,(hc _ (by omega)).trans q0,(hc _ (by omega)).trans q1,(hc _ (by omega)).trans q2,(hc _ (by omega)).trans q3,(hc _ (by omega)).trans q4,(hc _ (by omega)).trans q5⟩)
 have hDl:D.length≤4294967296:=by
   rw [hD.out,←rwS_thY]
   have e1:=rwS_lenY L a e ha he
   obtain ⟨e2,_,e3⟩:=thS_end (rwS L a e).length (rwS L a e) a (rwS_wfY hwf a e) (Nat.le_refl _)
   change lnS (thsV (rwS L a e) a)≤_ at e2
   change (thsV (rwS L a e) a).length≤lnS (thsV (rwS L a e) a) at e3
   omega
 obtain ⟨st,hsl,hpk⟩:=pickD lv D.length w5 hl0 hl1 hDl
 have HPK:=(callsIn_wide (n:=29)).2 hpk
 clear K5 K12 K15 K34 K35 hk1 hk2 hsr hso bW2 bR1 bA4 own4 own2 ownD rd2 hlc hg1 hg2 b3 k5 HFR
 have cW5:=bW5.cell
 have cA5:=bA5.cell
 have hwD:=wrapD hDl
 clear HOV hpk hl0 hl1
 have HX:=dhid (And.intro hk15 (And.intro hk25 (And.intro hsr5 (And.intro bR5 (And.intro bA5 (And.intro lk1 lk2))))))
 clear hk15 hk25 hsr5 bR5 bA5 hS HR HDR HLN lk1 lk2
 have HX2:=dhid (And.intro hsc (And.intro hl1' (And.intro hl2' (And.intro z2 (And.intro z3 (And.intro z4 (And.intro s1 (And.intro s2 z5))))))))
 have HX3:=dhid (And.intro bW5 (And.intro hDl cA5))
 have HX4:=dhid (And.intro hn (And.intro ha (And.intro he hwf)))
 have hw1:w1.heap.size<w5.heap.size:=by omega
 clear hlen hwf ha he hn hsc hl1' hl2' z2 z3 z4 s1 s2 hcI bW5 hDl cA5 z5
 gi_wp2_with fail
 refine ⟨trivial,?_⟩
 refine HPK.mono ?_
 rintro x w6 ⟨rfl,hw6⟩
 subst w6
 clear hwD HPK
 have hz35:w3.heap.size<w5.heap.size:=by have:=HX2.out;omega
 have bA7:=fun o1 o2=>((HX.out.2.2.2.2.1.alloc o1).alloc o2)
 have cA7:=fun o1 o2=>(bA7 o1 o2).cell
 clear bA7
 gi_wp2_with fail
 refine with_tmps fun T hT=>?_
 have HT:=dhid hT
 clear hT cA7
 obtain ⟨W0,hW0⟩:∃ W0,(w5.alloc (Obj.cells #[.int .i64 (st:Int)] 3)).alloc (Obj.cells #[.int .i64 0] 3)=W0:=⟨_,rfl⟩
 have h50:Below w5.heap.size w5 W0:=by rw [←hW0];exact (bel1 _ _).alloc (by simp) _
 have bS0:Boxed W0 w5.heap.size 3 (.int .i64 (st:Int)):=by rw [←hW0];exact (Boxed.new w5 3 (.int .i64 (st:Int))).alloc _
 have bN0:Boxed W0 (w5.heap.size+1) 3 (.int .i64 0):=by rw [←hW0];exact zheap2 _ _ _
 have hz0:W0.heap.size=w5.heap.size+2:=by rw [←hW0];simp
 rw [hW0]
 clear hW0
 have HTD:Hid (thsV (rwS L a e) a=D):=dhid ((rwS_thY L a e).trans hD.out.symm)
 have hk1:=boxed_belz HX.out.1 h50
 have hk2:=boxed_belz HX.out.2.1 h50
 have hsr:=HX.out.2.2.1.below (h50.mono (Nat.le_of_lt hz35))
 have bR0:=boxed_belz HX.out.2.2.2.1 h50
 have bA0:=boxed_belz HX.out.2.2.2.2.1 h50
 have bW0:=boxed_belz HX3.out.1 h50
 have B0:Hid (Below w.heap.size w W0):=dhid (B5.out.trans (h50.mono B5.out.size))
 have HSQ:Hid (∀ m (V:World),1≤m→Agree W0 (w5.heap.size+1) V→SeqOwn Fence.wide m Tryz.prog 48 #[.pointer (some ⟨k1,0,none⟩),.pointer (some ⟨k2,0,none⟩)] encZ (Kz V.heap.size so (rwS L a e) w3.heap.size) (fun ys=>ys=D) (fun pre=>pre <+: D) 4294967296 V):=dhid (fun m V hm hA=>by
   have q:=ths_own m hm k1 k2 w3.heap.size so sc a (rwS L a e) V HX2.out.1 (rwS_lenY L a e HX4.out.2.1 HX4.out.2.2.1) (rwS_wfY HX4.out.2.2.2 a e) (hA.box hk1 (by have:=HX.out.2.2.2.2.2.1;omega)) (hA.box hk2 (by have:=HX.out.2.2.2.2.2.2;omega)) (crd_agreeY hA hsr (by omega)) (by have:=hA.1;omega)
   rw [HTD.out] at q
   exact q)
 have HCR:=dhid (fun (V:World) (hA:Agree W0 (w5.heap.size+1) V)=>crd_agreeY hA hsr (by omega))
 clear hk1 hk2 hsr
 refine range_break (F:=Fence.wide) (id:=0) rfl (by decide) (gf:=48) (lb:=#[.pointer (some ⟨k1,0,none⟩),.pointer (some ⟨k2,0,none⟩)]) (by rw [HT.out];rfl) trivial (enters_of Tryz.func48 (by kernel_rfl) rfl)
   (HSQ.out (30-1) W0 (by decide) (Agree.refl _ _)) Kz_t (Kz_b (w:=W0)) (Below.refl _ _) (fun _=>rfl)
   (fun pre V=>Agree W0 (w5.heap.size+1) V∧Boxed V (w5.heap.size+1) 3 (.int .i64 pre.length)∧pre.length≤st∧Below w.heap.size w V)
   (fun pre V=>Agree W0 (w5.heap.size+1) V∧Boxed V (w5.heap.size+1) 3 (.int .i64 st)∧Below w.heap.size w V)
   (fun s A C row h hg hr=>⟨h.1.step hg (fun r e=>(hr r e).2),boxed_stepY h.2.1 hg (fun r e=>(hr r e).2),h.2.2.1,ownFrom_below (β:=Unit) (B:=W0.heap.size) (Nat.le_refl _) (by have:=B0.out.size;omega) () A C row h.2.2.2 hg hr⟩)
   (fun s A C row h hg hr=>⟨h.1.step hg (fun r e=>(hr r e).2),boxed_stepY h.2.1 hg (fun r e=>(hr r e).2),ownFrom_below (β:=Unit) (B:=W0.heap.size) (Nat.le_refl _) (by have:=B0.out.size;omega) () A C row h.2.2 hg hr⟩)
   ⟨Agree.refl _ _,bN0,Nat.zero_le _,B0.out⟩
   (fun x a' V=>∃ R,W0.heap.size≤R∧V.heap[R]?=some (.cells (fzA x) 28)∧a'={ tmps:=((T.setIfInBounds 46 (.agg (fzA x))).setIfInBounds 14 (.pointer (some ⟨R,0,none⟩))),defers:=[] })
   (fun x a'=>Own.from (fun t A C row h hg hr=>by
     obtain ⟨R,h1,h2,h3⟩:=h
     exact ⟨R,h1,row_stepz h2 hg hr,h3⟩) _)
   ?assign ?body ?done
 case assign=>
   intro l pre x V K hI hK
   obtain ⟨h1,h2,h3,h4⟩:=hI
   have hv:=h1.1
   have hk:=KpSetRow (S:=fun i=>i=V.heap.size) (V.alloc (.cells #[.int .u32 0,.int .u32 0,.int .u8 0,.int .u8 0,.int .u32 0,.int .u32 0] 28)) V.heap.size (fzA x) rfl
   have hb:Below V.heap.size V ((V.alloc (.cells #[.int .u32 0,.int .u32 0,.int .u8 0,.int .u8 0,.int .u32 0,.int .u32 0] 28)).setRow V.heap.size (fzA x)):=(bel1 _ _).trans (hk.below (by simp) (fun i e=>by omega))
   have HK:=dhid (fun a' ha=>hK a' ((V.alloc (.cells #[.int .u32 0,.int .u32 0,.int .u8 0,.int .u8 0,.int .u32 0,.int .u32 0] 28)).setRow V.heap.size (fzA x)) (Upon.of_below hb) ⟨Fr.of hb,fun hc=>hc.below (hb.mono (by omega))⟩
     ⟨h1.belowY hb,boxed_belz h2 hb,h3,h4.trans (hb.mono h4.size)⟩ ⟨V.heap.size,hv,setRow_heap _ _ _ _ _ _ (heap_alloc_new V _),ha⟩)
   clear hK hk hb h1 h2 h3 h4
   rw [HT.out]
   gi_wp2_with (refine wpListIn_store_rowZ rfl _ _ _ rfl V.heap.size (fzA fz0) (fzA x) rfl rfl (heap_alloc_new V _) (by rw [sizeFz];rfl) rfl (by simp [fzA,Value.oneCell']) ?_)
   exact HK.out _ (by rw [HT.out];rfl)
 case body=>
   rintro l pre x a' V hl hrec ⟨h1,h2,h3,h4⟩ ⟨R,hR,hRh,rfl⟩ hln hsp
   by_cases hpe:pre.length=st
   · rw [hpe] at h2
     have cN:=h2.cell
     have cS:=(h1.box bS0 (by omega)).cell
     clear hpe hln hl hR
     rw [HT.out]
     gi_wp2_with fail
     exact ⟨Upon.refl _ _,rfl,h1,h2,h4⟩
   · obtain ⟨gw,hva,hgw,hx⟩:∃ gw,va=some ⟨gw,0,none⟩∧gw<w1.heap.size∧D[pre.length]?=some x:=by
       have hx:D[pre.length]?=some x:=by obtain ⟨t,ht⟩:=hsp;rw [←ht];simp
       obtain ⟨gw,hva,hgw,_⟩:=HWC.out _ _ hx
       exact ⟨gw,hva,hgw,hx⟩
     obtain ⟨gw',hva',_,c0,c1,c2,c3,c4,c5⟩:=HWC.out _ _ hx
     rw [hva] at hva'
     cases hva'
     subst hva
     have hlt:pre.length<D.length:=(List.getElem?_eq_some_iff.1 hx).1
     have cv:=fun (o:Nat) (v:Value) (hc:w5.cell? ⟨gw,o,none⟩=some v)=>h1.cell (p:=⟨gw,o,none⟩) ((World.cell?_of_block (a:=⟨gw,o,none⟩) (h50.block gw (by omega))).trans hc) (by show gw≠w5.heap.size+1;omega)
     have v0:=cv _ _ c0
     have v1:=cv _ _ c1
     have v2:=cv _ _ c2
     have v3:=cv _ _ c3
     have v4:=cv _ _ c4
     have v5':=cv _ _ c5
     have cN:=h2.cell
     have cS:=(h1.box bS0 (by omega)).cell
     have cW:=(h1.box bW0 (by omega)).cell
     obtain ⟨f0,f1,f2,f3,f4,f5⟩:=fz_cells hRh
     have ltI:(pre.length:Int)<(D.length:Int):=Int.ofNat_lt.2 hlt
     have hd1:decide (st<pre.length)=false:=decide_eq_false (Nat.not_lt.2 h3)
     have hw:wrap64 ((pre.length:Int)+1)=(pre.length:Int)+1:=by unfold wrap64;omega
     have hneI:¬ (pre.length:Int)=(st:Int):=fun e=>hpe (Int.ofNat_inj.1 e)
     have hl1:pre.length+1≤st:=Nat.lt_of_le_of_ne h3 hpe
     have H1:=dhid h1
     have H4:=dhid h4
     have HL1:=dhid hl1
     have HP1:=dhid (And.intro ltI (And.intro hd1 (And.intro hw (And.intro hlt (And.intro v0 (And.intro v1 (And.intro v2 (And.intro v3 (And.intro v4 (And.intro v5' cW))))))))))
     clear hx hsp h1 h3 h4 hl1 hln c0 c1 c2 c3 c4 c5 cv ltI hd1 hw hlt hl hR hgw v0 v1 v2 v3 v4 v5' cW bS0 bN0 bW0 bA0 bR0 cW5
     rw [HT.out]
     gi_wp2_with fail
     obtain ⟨ltI,hd1,hw,hlt,v0,v1,v2,v3,v4,v5',cW⟩:=HP1.out
     refine region_quiet_r (by kernel_rfl) (by kernel_rfl) (by kernel_rfl) ?_
     repeat (gi_big_quiet_step (fail))
     refine wpQuietIn_nil ?_
     intro _ hw'
     obtain ⟨nq,hw''⟩:=hw'
     subst hw''
     have hA1:=H1.out.drewN nq
     have hN1:=Boxed.drewN h2 nq
     have hB1:=below_drewN H4.out nq
     have hU1:=Upon.drewN W0.heap.size V nq
     have hK1:Kz W0.heap.size so (rwS L a e) w3.heap.size V (V.drewN nq):=⟨⟨Nat.le_refl _,fun _ _ _ _ _ h=>h⟩,fun hc=>hc⟩
     clear cN cS v0 v1 v2 v3 v4 v5' cW hRh H1 H4 h2 hlt ltI hd1 hneI hpe f0 f1 f2 f3 f4 f5 HP1
     generalize V.drewN nq=U at hA1 hN1 hB1 hU1 hK1 ⊢
     obtain ⟨k,hk⟩:∃ k:Nat,pre.length=k:=⟨_,rfl⟩
     have HK:=dhid hk
     rw [hk] at hN1 hw
     clear hk
     have cN:=hN1.cell;have fN:=hN1.frozen
     gi_wp2_with fail
     refine ⟨hU1.trans (Upon.setCell _ _ _),Kz_t hK1 (kz_setY (by omega) (by omega) _),hA1.set _,?_,by rw [List.length_append];exact HL1.out,hB1.setCell (by show w.heap.size≤w5.heap.size+1;have:=B5.out.size;omega) _⟩
     rw [show ((pre ++ [x]).length:Int)=(k:Int)+1 by simp [HK.out]]
     exact hN1.set _
 case done=>
   rintro D1 pre U hD1 hor hK3
   obtain ⟨h1,h2,h4⟩:Agree W0 (w5.heap.size+1) U∧Boxed U (w5.heap.size+1) 3 (.int .i64 st)∧Below w.heap.size w U:=by
     rcases hor with ⟨rfl,q1,q2,q3,q4⟩|⟨_,q⟩
     · have:pre.length=st:=by omega
       rw [this] at q2
       exact ⟨q1,q2,q4⟩
     · exact q
   clear hor
   have cN:=h2.cell;have fN:=h2.frozen
   have cS:=(h1.box bS0 (by omega)).cell
   have cA:=(h1.box bA0 (by omega)).cell
   have cA2:=fun v=>((h1.box bA0 (by omega)).other (B':=w5.heap.size+1) (by omega) v).cell
   rw [HT.out]
   gi_wp2_with fail
   have hA2:=h1.set (.int .i64 0)
   have bN2:=h2.set (.int .i64 0)
   have hB2:=h4.setCell (p:=⟨w5.heap.size+1,0,none⟩) (by show w.heap.size≤w5.heap.size+1;have:=B5.out.size;omega) (.int .i64 0)
   have hD12:(U.setCell ⟨w5.heap.size+1,0,none⟩ (.int .i64 0)).heap[D1]?=some (.deferred (some [])):=(Below.heap_setCell _ _ _ _ (by show D1≠w5.heap.size+1;omega)).trans hK3
   obtain ⟨W2,hW2⟩:∃ W2,U.setCell ⟨w5.heap.size+1,0,none⟩ (.int .i64 0)=W2:=⟨_,rfl⟩
   rw [hW2] at hA2 bN2 hB2 hD12 ⊢
   have hV2:W0.heap.size≤W2.heap.size:=hA2.1
   have hl12:D1<W2.heap.size:=(Array.getElem?_eq_some_iff.1 hD12).1
   clear h1 h2 h4 hK3 cN fN cS cA cA2 hW2
   refine with_tmps fun T2 hT2=>?_
   have HT2:=dhid hT2
   clear hT2
   refine range_break (F:=Fence.wide) (id:=2) rfl (by decide) (gf:=48) (lb:=#[.pointer (some ⟨k1,0,none⟩),.pointer (some ⟨k2,0,none⟩)]) (by rw [HT2.out];rfl) trivial (enters_of Tryz.func48 (by kernel_rfl) rfl)
     (HSQ.out (30-1) W2 (by decide) hA2) Kz_t (Kz_b (w:=W2)) (Below.refl _ _) (fun _=>rfl)
     (fun pre V=>Agree W0 (w5.heap.size+1) V∧Boxed V (w5.heap.size+1) 3 (.int .i64 pre.length)∧Below w.heap.size w V∧V.heap[D1]?=some (.deferred (some [])))
     (fun pre V=>False)
     (fun s A C row h hg hr=>⟨h.1.step hg (fun r e=>(hr r e).2),boxed_stepY h.2.1 hg (fun r e=>(hr r e).2),ownFrom_below (β:=Unit) (B:=W2.heap.size) (Nat.le_refl _) (by have:=B0.out.size;omega) () A C row h.2.2.1 hg hr,low_kept h.2.2.2 hl12 hg hr⟩)
     (fun s A C row h hg hr=>h)
     ⟨hA2,bN2,hB2,hD12⟩
     (fun x a' V=>∃ R,W0.heap.size≤R∧V.heap[R]?=some (.cells (fzA x) 28)∧a'={ tmps:=((T2.setIfInBounds 67 (.agg (fzA x))).setIfInBounds 15 (.pointer (some ⟨R,0,none⟩))),defers:=[] })
     (fun x a'=>Own.from (fun t A C row h hg hr=>by
       obtain ⟨R,h1,h2,h3⟩:=h
       exact ⟨R,h1,row_stepz h2 hg hr,h3⟩) _)
     ?assign2 ?body2 ?done2
   case assign2=>
     intro l pre x V K hI hK
     obtain ⟨h1,h2,h3,h4⟩:=hI
     have hv:=h1.1
     have hk:=KpSetRow (S:=fun i=>i=V.heap.size) (V.alloc (.cells #[.int .u32 0,.int .u32 0,.int .u8 0,.int .u8 0,.int .u32 0,.int .u32 0] 28)) V.heap.size (fzA x) rfl
     have hb:Below V.heap.size V ((V.alloc (.cells #[.int .u32 0,.int .u32 0,.int .u8 0,.int .u8 0,.int .u32 0,.int .u32 0] 28)).setRow V.heap.size (fzA x)):=(bel1 _ _).trans (hk.below (by simp) (fun i e=>by omega))
     have HK:=dhid (fun a' ha=>hK a' ((V.alloc (.cells #[.int .u32 0,.int .u32 0,.int .u8 0,.int .u8 0,.int .u32 0,.int .u32 0] 28)).setRow V.heap.size (fzA x)) (Upon.of_below hb) ⟨Fr.of hb,fun hc=>hc.below (hb.mono (by omega))⟩
       ⟨h1.belowY hb,boxed_belz h2 hb,h3.trans (hb.mono h3.size),(hb.block _ (Array.getElem?_eq_some_iff.1 h4).1).trans h4⟩ ⟨V.heap.size,hv,setRow_heap _ _ _ _ _ _ (heap_alloc_new V _),ha⟩)
     clear hK hk hb h1 h2 h3 h4
     rw [HT2.out]
     gi_wp2_with (refine wpListIn_store_rowZ rfl _ _ _ rfl V.heap.size (fzA fz0) (fzA x) rfl rfl (heap_alloc_new V _) (by rw [sizeFz];rfl) rfl (by simp [fzA,Value.oneCell']) ?_)
     exact HK.out _ (by rw [HT2.out];rfl)
   case body2=>
     rintro l pre x a' V hl hrec ⟨h1,h2,h4,h6⟩ ⟨R,hR,hRh,rfl⟩ hln hsp
     obtain ⟨gw,hva,hgw,hx⟩:∃ gw,va=some ⟨gw,0,none⟩∧gw<w1.heap.size∧D[pre.length]?=some x:=by
       have hx:D[pre.length]?=some x:=by obtain ⟨t,ht⟩:=hsp;rw [←ht];simp
       obtain ⟨gw,hva,hgw,_⟩:=HWC.out _ _ hx
       exact ⟨gw,hva,hgw,hx⟩
     obtain ⟨gw',hva',_,c0,c1,c2,c3,c4,c5⟩:=HWC.out _ _ hx
     rw [hva] at hva'
     cases hva'
     subst hva
     have hlt:pre.length<D.length:=(List.getElem?_eq_some_iff.1 hx).1
     have cv:=fun (o:Nat) (v:Value) (hc:w5.cell? ⟨gw,o,none⟩=some v)=>h1.cell (p:=⟨gw,o,none⟩) ((World.cell?_of_block (a:=⟨gw,o,none⟩) (h50.block gw (by omega))).trans hc) (by show gw≠w5.heap.size+1;omega)
     have v0:=cv _ _ c0
     have v1:=cv _ _ c1
     have v2:=cv _ _ c2
     have v3:=cv _ _ c3
     have v4:=cv _ _ c4
     have v5':=cv _ _ c5
     have cN:=h2.cell
     have cW:=(h1.box bW0 (by omega)).cell
     obtain ⟨f0,f1,f2,f3,f4,f5⟩:=fz_cells hRh
     have ltI:(pre.length:Int)<(D.length:Int):=Int.ofNat_lt.2 hlt
     have hd1:decide (D.length≤pre.length)=false:=decide_eq_false (Nat.not_le.2 hlt)
     have hw:wrap64 ((pre.length:Int)+1)=(pre.length:Int)+1:=by unfold wrap64;omega
     have H1:=dhid h1
     have H4:=dhid h4
     have H6:=dhid h6
     have HBA:=dhid bA0
     have HBW:=dhid bW0
     have HXX:=dhid (And.intro hl (And.intro hrec (And.intro hx hgw)))
     clear hx hsp h1 h4 h6 hln c0 c1 c2 c3 c4 c5 cv hl hR hgw bS0 bN0 bW0 bA0 bR0 cW5 hrec
     rw [HT2.out]
     gi_wp2_with fail
     simp only [List.setIfInBounds_toArray,List.set_cons_succ,List.set_cons_zero]
     refine region_quiet_r (by kernel_rfl) (by kernel_rfl) (by kernel_rfl) ?_
     repeat (gi_big_quiet_step (fail))
     refine wpQuietIn_nil ?_
     intro _ hw'
     obtain ⟨nq,hw''⟩:=hw'
     subst hw''
     have hA1:=H1.out.drewN nq
     have hN1:=Boxed.drewN h2 nq
     have hB1:=below_drewN H4.out nq
     have hU1:=Upon.drewN W2.heap.size V nq
     have h61:(V.drewN nq).heap[D1]?=some (.deferred (some [])):=H6.out
     have hF1:Fr W2.heap.size V (V.drewN nq):=⟨Nat.le_refl _,fun _ _ _ _ _ h=>h⟩
     obtain ⟨hl,⟨qr,hqr⟩,hx,hgw⟩:=HXX.out
     have hqr1:(V.drewN nq).heap[l]?=some (.loop qr):=hqr
     have HXX2:=dhid (And.intro hl (And.intro hx hgw))
     clear cN v0 v1 v2 v3 v4 v5' cW hRh H1 H4 H6 h2 hlt ltI hd1 f0 f1 f2 f3 f4 f5 HXX hqr hx
     generalize V.drewN nq=U1 at hA1 hN1 hB1 hU1 h61 hF1 hqr1 ⊢
     obtain ⟨k,hk⟩:∃ k:Nat,pre.length=k:=⟨_,rfl⟩
     have HK:=dhid hk
     rw [hk] at hN1 hw
     clear hk
     have cN:=hN1.cell;have fN:=hN1.frozen
     have cA2:=fun v=>((hA1.box HBA.out (by omega)).other (B':=w5.heap.size+1) (by omega) v).cell
     gi_wp2_with fail
     have hkW:w5.heap.size+1<W2.heap.size:=by omega
     have hwK:w.heap.size≤w5.heap.size+1:=by have:=B5.out.size;omega
     have hA4:=hA1.set (.int .i64 ((k:Int)+1))
     have hN4:=hN1.set (.int .i64 ((k:Int)+1))
     have hB4:=hB1.setCell (p:=⟨w5.heap.size+1,0,none⟩) hwK (.int .i64 ((k:Int)+1))
     have hF4:Fr W2.heap.size V (U1.setCell ⟨w5.heap.size+1,0,none⟩ (.int .i64 ((k:Int)+1))):=hF1.trans (kz_setY (B:=W2.heap.size) (Bc:=0) (ao:=none) (L:=[]) hkW (Nat.zero_le _) _).1
     have hU4:Upon W2.heap.size V (U1.setCell ⟨w5.heap.size+1,0,none⟩ (.int .i64 ((k:Int)+1))):=hU1.trans (Upon.setCell _ _ _)
     have h64:(U1.setCell ⟨w5.heap.size+1,0,none⟩ (.int .i64 ((k:Int)+1))).heap[D1]?=some (.deferred (some [])):=(Below.heap_setCell _ _ _ _ (by show D1≠w5.heap.size+1;omega)).trans h61
     have hq4:(U1.setCell ⟨w5.heap.size+1,0,none⟩ (.int .i64 ((k:Int)+1))).heap[l]?=some (.loop qr):=(Below.heap_setCell _ _ _ _ (by show l≠w5.heap.size+1;omega)).trans hqr1
     obtain ⟨W4,hW4⟩:∃ W4,U1.setCell ⟨w5.heap.size+1,0,none⟩ (.int .i64 ((k:Int)+1))=W4:=⟨_,rfl⟩
     rw [hW4] at hA4 hN4 hB4 hF4 hU4 h64 hq4 ⊢
     have hVW:V.heap.size≤W4.heap.size:=hU4.size
     have hl14:D1<W4.heap.size:=(Array.getElem?_eq_some_iff.1 h64).1
     have hxk:(pre ++ [x]).length=k+1:=by rw [List.length_append,HK.out];rfl
     clear hA1 hN1 hB1 hF1 hU1 h61 hqr1 cN fN cA2 hW4 hw
     refine with_tmps fun T4 hT4=>?_
     have HT4:=dhid hT4
     clear hT4
     refine range_inner_break (F:=Fence.wide.inRound l) (id:=4) rfl hq4 (by decide) (gf:=48) (lb:=#[.pointer (some ⟨k1,0,none⟩),.pointer (some ⟨k2,0,none⟩)]) (by rw [HT4.out];rfl) trivial (enters_of Tryz.func48 (by kernel_rfl) rfl)
       (seq_wide (n:=28) (HSQ.out 28 W4 (by decide) hA4)) Kz_t (Kz_b (w:=W4)) (Below.refl _ _) (fun _=>rfl)
       (fun pre U=>(pre=[]∧Agree W0 (w5.heap.size+1) U∧Boxed U (w5.heap.size+1) 3 (.int .i64 ((k:Int)+1)))∧Below w.heap.size w U∧U.heap[D1]?=some (.deferred (some []))∧Upon W2.heap.size V U∧Fr W2.heap.size V U)
       (fun pre U=>(Agree W0 (w5.heap.size+1) U∧Boxed U (w5.heap.size+1) 3 (.int .i64 ((k:Int)+1)))∧Below w.heap.size w U∧U.heap[D1]?=some (.deferred (some []))∧Upon W2.heap.size V U∧Fr W2.heap.size V U)
       (fun s A C row h hg hr=>⟨⟨h.1.1,h.1.2.1.step hg (fun r e=>(hr r e).2),boxed_stepY h.1.2.2 hg (fun r e=>(hr r e).2)⟩,ownFrom_below (β:=Unit) (B:=W4.heap.size) (Nat.le_refl _) hB4.size () A C row h.2.1 hg hr,low_kept h.2.2.1 hl14 hg hr,upon_stepY h.2.2.2.1 (m:=W4.heap.size) hVW hg (fun r e=>(hr r e).1),fr_stepY h.2.2.2.2 hg (fun r e=>(hr r e).2)⟩)
       (fun s A C row h hg hr=>⟨⟨h.1.1.step hg (fun r e=>(hr r e).2),boxed_stepY h.1.2 hg (fun r e=>(hr r e).2)⟩,ownFrom_below (β:=Unit) (B:=W4.heap.size) (Nat.le_refl _) hB4.size () A C row h.2.1 hg hr,low_kept h.2.2.1 hl14 hg hr,upon_stepY h.2.2.2.1 (m:=W4.heap.size) hVW hg (fun r e=>(hr r e).1),fr_stepY h.2.2.2.2 hg (fun r e=>(hr r e).2)⟩)
       ⟨⟨rfl,hA4,hN4⟩,hB4,h64,hU4,hF4⟩
       (fun x a' V=>∃ R,W0.heap.size≤R∧V.heap[R]?=some (.cells (fzA x) 28)∧a'={ tmps:=((T4.setIfInBounds 83 (.agg (fzA x))).setIfInBounds 16 (.pointer (some ⟨R,0,none⟩))),defers:=[] })
       (fun x a'=>Own.from (fun t A C row h hg hr=>by
         obtain ⟨R,h1,h2,h3⟩:=h
         exact ⟨R,h1,row_stepz h2 hg hr,h3⟩) _)
       ?assign4 ?body4 ?end4
     case assign4=>
       intro l pre x V K hI hK
       obtain ⟨⟨h0,h1,h2⟩,h3,h4,h5,h6⟩:=hI
       have hv:=h1.1
       have hk:=KpSetRow (S:=fun i=>i=V.heap.size) (V.alloc (.cells #[.int .u32 0,.int .u32 0,.int .u8 0,.int .u8 0,.int .u32 0,.int .u32 0] 28)) V.heap.size (fzA x) rfl
       have hb:Below V.heap.size V ((V.alloc (.cells #[.int .u32 0,.int .u32 0,.int .u8 0,.int .u8 0,.int .u32 0,.int .u32 0] 28)).setRow V.heap.size (fzA x)):=(bel1 _ _).trans (hk.below (by simp) (fun i e=>by omega))
       have HK:=dhid (fun a' ha=>hK a' ((V.alloc (.cells #[.int .u32 0,.int .u32 0,.int .u8 0,.int .u8 0,.int .u32 0,.int .u32 0] 28)).setRow V.heap.size (fzA x)) (Upon.of_below hb) ⟨Fr.of hb,fun hc=>hc.below (hb.mono (by omega))⟩
         ⟨⟨h0,h1.belowY hb,boxed_belz h2 hb⟩,h3.trans (hb.mono h3.size),(hb.block _ (Array.getElem?_eq_some_iff.1 h4).1).trans h4,h5.trans (Upon.of_below hb),h6.trans (Fr.of hb)⟩ ⟨V.heap.size,hv,setRow_heap _ _ _ _ _ _ (heap_alloc_new V _),ha⟩)
       clear hK hk hb h1 h2 h3 h4 h5 h6
       rw [HT4.out]
       gi_wp2_with (refine wpListIn_store_rowZ rfl _ _ _ rfl V.heap.size (fzA fz0) (fzA x) rfl rfl (heap_alloc_new V _) (by rw [sizeFz];rfl) rfl (by simp [fzA,Value.oneCell']) ?_)
       exact HK.out _ (by rw [HT4.out];rfl)
     case body4=>
       rintro l pre x a' U hl hrec ⟨⟨rfl,h1,h2⟩,h3,h4,h5,h6⟩ ⟨R,hR,hRh,rfl⟩ hln hsp
       have hx:D[0]?=some x:=by obtain ⟨t,ht⟩:=hsp;rw [←ht];simp
       obtain ⟨gw',hva',hgw',c0,c1,c2,c3,c4,c5⟩:=HWC.out _ _ hx
       cases hva'
       simp only [Nat.zero_mul,Nat.zero_add] at c0 c1 c2 c3 c4 c5
       have hlt:0<D.length:=(List.getElem?_eq_some_iff.1 hx).1
       have cv:=fun (o:Nat) (v:Value) (hc:w5.cell? ⟨gw,o,none⟩=some v)=>h1.cell (p:=⟨gw,o,none⟩) ((World.cell?_of_block (a:=⟨gw,o,none⟩) (h50.block gw (by omega))).trans hc) (by show gw≠w5.heap.size+1;omega)
       have v0:=cv _ _ c0
       have v1:=cv _ _ c1
       have v2:=cv _ _ c2
       have v3:=cv _ _ c3
       have v4:=cv _ _ c4
       have v5':=cv _ _ c5
       have cW:=(h1.box HBW.out (by omega)).cell
       obtain ⟨f0,f1,f2,f3,f4,f5⟩:=fz_cells hRh
       have ltI:(0:Int)<(D.length:Int):=Int.ofNat_lt.2 hlt
       have H1:=dhid (And.intro h1 (And.intro h2 (And.intro h3 (And.intro h4 (And.intro h5 h6)))))
       clear hx hsp h1 h2 h3 h4 h5 h6 hln c0 c1 c2 c3 c4 c5 cv hl hR hgw hrec hA4 hN4 hB4 hF4 hU4 h64 hq4
       rw [HT4.out]
       gi_wp2_with fail
       simp only [List.setIfInBounds_toArray,List.set_cons_succ,List.set_cons_zero]
       refine region_quiet_r (by kernel_rfl) (by kernel_rfl) (by kernel_rfl) ?_
       repeat (gi_big_quiet_step (fail))
       refine wpQuietIn_nil ?_
       intro _ hw'
       obtain ⟨nq,hw''⟩:=hw'
       subst hw''
       gi_wp2_with fail
       obtain ⟨h1,h2,h3,h4,h5,h6⟩:=H1.out
       exact ⟨Upon.drewN _ _ nq,rfl,⟨h1.drewN nq,Boxed.drewN h2 nq⟩,below_drewN h3 nq,h4,h5.trans (Upon.drewN _ _ nq),h6.trans ⟨Nat.le_refl _,fun _ _ _ _ _ h=>h⟩⟩
     case end4=>
       rintro pre2 U2 hor
       obtain ⟨⟨h1,h2⟩,h3,h4,h5,h6⟩:(Agree W0 (w5.heap.size+1) U2∧Boxed U2 (w5.heap.size+1) 3 (.int .i64 ((k:Int)+1)))∧Below w.heap.size w U2∧U2.heap[D1]?=some (.deferred (some []))∧Upon W2.heap.size V U2∧Fr W2.heap.size V U2:=by
         rcases hor with ⟨_,q⟩|⟨_,q⟩
         · exact ⟨q.1.2,q.2⟩
         · exact q
       refine ⟨h5,⟨h6,fun _=>HCR.out _ h1⟩,h1,?_,h3,h4⟩
       rw [hxk]
       exact h2
   case done2=>
     rintro D2 pre U hD2 hor hK3
     obtain ⟨h1,h2,h5,h6⟩:Agree W0 (w5.heap.size+1) U∧Boxed U (w5.heap.size+1) 3 (.int .i64 (D.length:Int))∧Below w.heap.size w U∧U.heap[D1]?=some (.deferred (some [])):=by
       rcases hor with ⟨hp,q⟩|⟨_,q⟩
       · rw [hp] at q
         exact q
       · exact q.elim
     have cN:=h2.cell
     have cW:=(h1.box bW0 (by omega)).cell
     have hw01:=HX2.out.2.2.2.2.2.2.1
     have br:=h1.box bR0 (by omega)
     have cr:=br.cell
     have fr:=br.frozen
     have HBR:=dhid br
     have HBW:=dhid h5
     have hw0:w.heap.size≤W0.heap.size:=B0.out.size
     have hN12:D1≠D2:=by omega
     have HN:=dhid (show w.heap.size≤D1∧w.heap.size≤D2 by omega)
     clear hor br h1 h2 h5 hw01 hw0
     rw [HT2.out]
     gi_wp2_with fail
     have x2:=(KeepsOthers.setCell U ⟨w.heap.size,0,none⟩ (.bool true)).same D2 _ hK3 rfl
     have x1:=(KeepsOthers.setCell U ⟨w.heap.size,0,none⟩ (.bool true)).same D1 _ h6 rfl
     have bz:=HBR.out.set (.bool true)
     have hz:=HBW.out.setCell (p:=⟨w.heap.size,0,none⟩) (Nat.le_refl _) (.bool true)
     obtain ⟨Z,hZ⟩:∃ Z,U.setCell ⟨w.heap.size,0,none⟩ (.bool true)=Z:=⟨_,rfl⟩
     rw [hZ] at x1 x2 bz hz ⊢
     have x1':(Z.putObj D2 (.deferred none)).heap[D1]?=some (.deferred (some [])):=(World.putObj_heap_other hN12).trans x1
     have bz1:=boxed_stepY bz (grownBy_putObj' _ D2 (.deferred none)) (fun r e=>by cases e;exact ⟨_,x2,rfl⟩)
     have bz2:=(boxed_stepY bz1 (grownBy_putObj' _ D1 (.deferred none)) (fun r e=>by cases e;exact ⟨_,x1',rfl⟩)).cell
     have hz1:=hz.trans (belowK_b (w:=w) (Nat.le_refl _) _ D2 _ (.deferred none) HN.out.2 x2 rfl rfl)
     have hz2:=hz1.trans (belowK_b (w:=w) (Nat.le_refl _) _ D1 _ (.deferred none) HN.out.1 x1' rfl rfl)
     refine ⟨by simp,.inl ⟨_,_,rfl,run_takeDeferred x2,?_⟩⟩
     refine ⟨by simp,.inl ⟨_,_,rfl,run_takeDeferred x1',?_⟩⟩
     refine ⟨.bool true,?_,rfl,hz2⟩
     simp [results,Tryz.f5,go_sem,bz2]
end Go.Proofs.YtibhlcfligfhdaaGreat
