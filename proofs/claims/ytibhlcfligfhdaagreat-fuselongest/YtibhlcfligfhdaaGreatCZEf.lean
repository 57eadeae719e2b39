import Derived.Test.YtibhlcfligfhdaaGreatCZDq
import Derived.Test.YtibhlcfligfhdaaGreatCZTh
namespace Go.Proofs.YtibhlcfligfhdaaGreat
open Go.RowKit Go.WideShapes Go.Shelf
set_option maxRecDepth 100000
structure Tb (w wr:World) (A B:Nat) (f g:Fz):Prop where
 bw:Below w.heap.size w wr
 ba:wr.heap[A]?=some (.cells (fzA f) 28)
 bb:wr.heap[B]?=some (.cells (fzA g) 28)
 la:w.heap.size≤A
 lb:w.heap.size≤B
 ne:A<B
theorem Tb.next {w wr w':World} {A B:Nat} {f g:Fz} (h:Tb w wr A B f g) (hb:Below wr.heap.size wr w'):Tb w w' A B f g:=
 ⟨h.bw.trans (hb.mono h.bw.size),(hb.block _ (Array.getElem?_eq_some_iff.1 h.ba).1).trans h.ba,(hb.block _ (Array.getElem?_eq_some_iff.1 h.bb).1).trans h.bb,h.la,h.lb,h.ne⟩
theorem Tb.setA {w wr:World} {A B:Nat} {f g:Fz} (h:Tb w wr A B f g) (f':Fz):Tb w (wr.setRow A (fzA f')) A B f' g:=by
 have hk:=KpSetRow (S:=fun i=>i=A) wr A (fzA f') rfl
 have h1:=h.la
 have h2:=h.ne
 exact ⟨h.bw.trans (hk.below h.bw.size (fun i e=>by omega)),setRow_heap _ _ _ _ _ _ h.ba,(hk.block _ (Array.getElem?_eq_some_iff.1 h.bb).1 (by omega)).trans h.bb,h.la,h.lb,h.ne⟩
theorem Tb.setB {w wr:World} {A B:Nat} {f g:Fz} (h:Tb w wr A B f g) (g':Fz):Tb w (wr.setRow B (fzA g')) A B f g':=by
 have hk:=KpSetRow (S:=fun i=>i=B) wr B (fzA g') rfl
 have h1:=h.lb
 have h2:=h.ne
 exact ⟨h.bw.trans (hk.below h.bw.size (fun i e=>by omega)),(hk.block _ (Array.getElem?_eq_some_iff.1 h.ba).1 (by omega)).trans h.ba,setRow_heap _ _ _ _ _ _ h.bb,h.la,h.lb,h.ne⟩
def ovL (L O:List (Nat × Nat)):List (Nat × Nat):=O.take L.length ++ L.drop O.length
theorem ov_len (L O:List (Nat × Nat)):(ovL L O).length=L.length:=by
 unfold ovL;rw [List.length_append,List.length_take,List.length_drop];omega
theorem ov_lt {L O:List (Nat × Nat)} {k:Nat} (h:k<L.length) (ho:k<O.length):(ovL L O).getD k (0,0)=O.getD k (0,0):=by
 unfold ovL
 rw [List.getD_eq_getElem?_getD,List.getElem?_append_left (by rw [List.length_take];omega),List.getElem?_take_of_lt h,←List.getD_eq_getElem?_getD]
theorem ov_ge {L O:List (Nat × Nat)} {k:Nat} (h:k<L.length) (ho:¬ k<O.length):(ovL L O).getD k (0,0)=L.getD k (0,0):=by
 unfold ovL
 rw [List.getD_eq_getElem?_getD,List.getElem?_append_right (by rw [List.length_take];omega),List.getElem?_drop,List.length_take,show O.length+(k-min L.length O.length)=k by omega,←List.getD_eq_getElem?_getD]
theorem ov_wf {L O:List (Nat × Nat)} (h1:Wfc L) (h2:Wfc O):Wfc (ovL L O):=by
 intro p hp
 rcases List.mem_append.1 hp with h|h
 · exact h2 p (List.mem_of_mem_take h)
 · exact h1 p (List.mem_of_mem_drop h)
structure FlR (w w4 wr:World) (g c n k:Nat) (M0 T N:List (Nat × Nat)) (v:Value):Prop where
 kp:Kp (fun i=>i=g) w4 wr
 o1:wr.ownsRow w.heap.size 37 2 (.slice (some ⟨g,0,none⟩) (n+64) c) (n+64) (cv N)
 o2:wr.ownsRow w4.heap.size 37 2 v k (cv (T.take k))
 ln:N.length=n+64
 tk:N.take k=T.take k
 dp:N.drop k=M0.drop k
structure FlQ (w w4 wr:World) (g c n k:Nat) (M0 T N:List (Nat × Nat)) (v:Value):Prop where
 kp:Kp (fun i=>i=g) w4 wr
 o1:wr.ownsRow w.heap.size 37 2 (.slice (some ⟨g,0,none⟩) (n+64) c) (n+64) (cv N)
 o2:wr.ownsRow w4.heap.size 37 2 v k (cv (T.take k))
 ln:N.length=n+64
 tk:N.take (k+1)=T.take (k+1)
 dp:N.drop (k+1)=M0.drop (k+1)
theorem drop_one {N M:List (Nat × Nat)} {k:Nat} (h:N.drop k=M.drop k):N.drop (k+1)=M.drop (k+1):=by
 have:=congrArg (List.drop 1) h
 simpa [List.drop_drop] using this
theorem getD_drop {N M:List (Nat × Nat)} {k:Nat} (h:N.drop k=M.drop k):N.getD k (0,0)=M.getD k (0,0):=by
 have:=congrArg (fun l=>l[0]?) h
 simp only [List.getElem?_drop,Nat.add_zero] at this
 rw [List.getD_eq_getElem?_getD,List.getD_eq_getElem?_getD,this]
theorem FlR.stay {w w4 wr:World} {g c n k:Nat} {M0 T N:List (Nat × Nat)} {v:Value} (h:FlR w w4 wr g c n k M0 T N v) (hk:k<n) (hT:T.length=n) (ht:T.getD k (0,0)=M0.getD k (0,0)) :
   FlQ w w4 wr g c n k M0 T N v∧N.getD k (0,0)=T.getD k (0,0):=by
 have hl:=h.ln
 have e1:N.getD k (0,0)=T.getD k (0,0):=(getD_drop h.dp).trans ht.symm
 exact ⟨⟨h.kp,h.o1,h.o2,h.ln,by rw [takeP _ _ (by omega),takeP _ _ (by omega),h.tk,e1],drop_one h.dp⟩,e1⟩
theorem FlR.set {w w4 wr:World} {g c n k:Nat} {M0 T N:List (Nat × Nat)} {v:Value} (h:FlR w w4 wr g c n k M0 T N v) (hk:k<n) (hg:g<w4.heap.size) (hT:T.length=n) (op arg:Nat) (ht:T.getD k (0,0)=(op,arg)) :
   FlQ w w4 ((wr.setCell ⟨g,k*2,none⟩ (.int .u8 (op:Int))).setCell ⟨g,k*2+1,none⟩ (.int .u32 (arg:Int))) g c n k M0 T (N.set k (op,arg)) v:=by
 have hl:=h.ln
 have HA:=h.o1.stored (k*2) (.int .u8 (op:Int))
 have HB:=HA.1.stored (k*2+1) (.int .u32 (arg:Int))
 have hK:Kp (fun i=>i=g) wr ((wr.setCell ⟨g,k*2,none⟩ (.int .u8 (op:Int))).setCell ⟨g,k*2+1,none⟩ (.int .u32 (arg:Int))):=(Kp.setCell (S:=fun i=>i=g) wr _ _ rfl).trans (Kp.setCell (S:=fun i=>i=g) _ _ _ rfl) (fun _ _ e=>e)
 refine ⟨h.kp.trans hK (fun _ _ e=>e),?_,hK.own h.o2 (fun j hj e=>?_),by rw [List.length_set];exact hl,?_,?_⟩
 · rw [cv_set];exact HB.1
 · have:=(h.o2.lt j hj).1
   omega
 · have:=take_set (k:=k) h.tk (by omega) (by omega)
   rw [ht] at this
   exact this
 · rw [List.drop_set_of_lt (by omega)]
   exact drop_one h.dp
theorem FlQ.cells {w w4 wr:World} {g c n k:Nat} {M0 T N:List (Nat × Nat)} {v:Value} (h:FlQ w w4 wr g c n k M0 T N v) (hk:k<n) (op arg:Nat) (ht:N.getD k (0,0)=(op,arg)) :
   wr.cell? ⟨g,k*2,none⟩=some (.int .u8 (op:Int))∧wr.cell? ⟨g,k*2+1,none⟩=some (.int .u32 (arg:Int)):=by
 obtain ⟨e1,e2⟩:=cvD_get N k (by have:=h.ln;omega)
 have r1:=h.o1.cells (g:=g) rfl _ _ e1
 have r2:=h.o1.cells (g:=g) rfl _ _ e2
 rw [Go.WideShapes.add_plain] at r1 r2
 simp only [Nat.zero_add,ht] at r1 r2
 exact ⟨r1,r2⟩
theorem FlQ.app {w w4 wr w1:World} {g c n k:Nat} {M0 T N:List (Nat × Nat)} {v v':Value} (h:FlQ w w4 wr g c n k M0 T N v) (hg:g<w4.heap.size) (o:Obj) (hown':w1.ownsRow w4.heap.size 37 2 v' (k+1) (cv (T.take (k+1)))) (hgrow:(wr.alloc o).grownBy w1 v.ownBlock) :
   FlR w w4 w1 g c n (k+1) M0 T N v':=by
 have hK:Kp (fun i=>w4.heap.size≤i) wr w1:=(Kp.alloc wr o).trans (Kp.ofGrown (S:=fun i=>w4.heap.size≤i) hgrow (fun i hi _=>(h.o2.lt i hi).1)) (fun _ _ e=>e)
 refine ⟨h.kp.trans hK (fun i hi e=>by omega),hK.own h.o1 (fun j hj e=>?_),hown',h.ln,h.tk,h.dp⟩
 have:j=g:=by cases hj;rfl
 omega
set_option maxHeartbeats 8000000 in
theorem flong_law (ao oo:Option Addr) (cap capO a e:Nat) (L O:List (Nat × Nat)) (w:World) (hn:L.length≤17592186044352) (hnO:O.length≤17592186044352) (ha:a<4294967296) (he:e<4294967296) (hwf:Wfc L) (hwO:Wfc O) (hr:CRd w ao L w.heap.size) (hrO:CRd w oo O w.heap.size) :
   Calls Tryz.prog 4 #[.slice ao L.length cap,.slice oo O.length capO,.int .u32 (a:Int),.int .u32 (e:Int)] w fun x w'=>x=.returned (.bool true)∧Below w.heap.size w w':=by
 obtain ⟨i0,hi,hz0,hz1,hz2⟩:=infoDI
 have HR:=dhid hr
 have HO:=dhid hrO
 clear hr hrO
 go_enter Tryz.func4,Tryz.ntmps4
 go_wp2_with fail
 refine (lentc_any ao cap L w hn HR.out).mono ?_
 rintro x w1 ⟨v,rfl,own1,B1⟩
 have hlen:(L ++ mksC 64).length=L.length+64:=by rw [List.length_append,mksC_len]
 rw [←hlen] at own1
 obtain ⟨g,c,rfl,hlc,hg1,hg2,rd1⟩:=own_g own1 (by rw [hlen];omega)
 rw [hlen] at own1 hlc ⊢
 have hcI:(L.length:Int)≤(c:Int):=by omega
 have z1:=B1.size
 replace own1:=dhid own1
 replace B1:=dhid B1
 replace rd1:=dhid rd1
 have HK:=dhid (fun W (hb:Below w1.heap.size w1 W)=>keptc_any ao cap L g c W hn (((HR.out.below B1.out).mono B1.out.size |>.below hb).mono hb.size) ((rd1.out.below hb).mono hb.size))
 have F1:=flongest_any (some ⟨g,0,none⟩) c a e L w1 (by omega) (by omega) ha he hwf (crd_left rd1.out)
 have F2:=dhid (fun W (hb:Below w1.heap.size w1 W)=>dlong_any ao cap a e L W (by omega) ha he hwf (((HR.out.below B1.out).mono B1.out.size |>.below hb).mono hb.size))
 unfold FlD at F2
 generalize flV L a e=q at F1 F2
 generalize flE L a e=er at F1 F2
 obtain ⟨f0,f1,f2,f3,f4,f5⟩:=q
 simp only [fzA] at F1 F2
 go_wp2_with fail
 refine F1.mono ?_
 rintro x w2 ⟨rfl,b2⟩
 have FA:=dhid (fun o=>F2.out (w2.alloc o) (b2.alloc b2.size o))
 have B2:=dhid b2
 have z2:=b2.size
 clear F1 F2 b2
 go_wp2_with fail
 refine (FA.out _).mono ?_
 rintro x w3 ⟨rfl,b3⟩
 have p3:=(b3.block w2.heap.size (by simp)).trans (heap_alloc_new w2 _)
 obtain ⟨e0,e1,e2,e3,e4,e5⟩:=fz_cells (f:=⟨f0,f1,f2,f3,f4,f5⟩) p3
 simp only at e0 e1 e2 e3 e4 e5
 have hl3:w2.heap.size<w3.heap.size:=(Array.getElem?_eq_some_iff.1 p3).1
 have T3:Hid (Tb w1 (w3.alloc (.cells #[.int .u32 (f0:Int),.int .u32 (f1:Int),.int .u8 (f2:Int),.int .u8 (f3:Int),.int .u32 (f4:Int),.int .u32 (f5:Int)] 28)) w2.heap.size w3.heap.size ⟨f0,f1,f2,f3,f4,f5⟩ ⟨f0,f1,f2,f3,f4,f5⟩):=dhid
   ⟨((B2.out.alloc B2.out.size _).trans (b3.mono (by simp;omega))).trans ((bel1 w3 _).mono (by omega)),(Below.heap_alloc w3 _ _ hl3).trans p3,heap_alloc_new w3 _,z2,by omega,hl3⟩
 clear FA b3 p3 B2
 go_wp2_with fail
 refine (HK.out _ T3.out.bw).mono ?_
 rintro x w4 ⟨rfl,b4⟩
 have T4:=dhid (T3.out.next b4)
 generalize w2.heap.size=A at *
 generalize w3.heap.size=B at *
 have hgw:g<w4.heap.size:=Nat.lt_of_lt_of_le hg2 T4.out.bw.size
 have hgA:w1.heap.size≤A:=T4.out.la
 have hgB:w1.heap.size≤B:=T4.out.lb
 have own4:Hid (w4.ownsRow w.heap.size 37 2 (.slice (some ⟨g,0,none⟩) (L.length+64) c) (L.length+64) (cv (L ++ mksC 64))):=dhid ((Kp.ofBelow (S:=fun _=>False) T4.out.bw).own own1.out (fun _ _ e=>e))
 have HT:=dhid (ov_wf hwf hwO)
 have HTl:=ov_len L O
 have HT1:=dhid (fun k h1 h2=>ov_lt (L:=L) (O:=O) (k:=k) h1 h2)
 have HT2:=dhid (fun k h1 h2=>ov_ge (L:=L) (O:=O) (k:=k) h1 h2)
 have HAL:∀ (W:World) (o:Obj) (b:Nat),W.heap.size=b→(W.alloc o).heap[b]?=some o:=by rintro W o _ rfl;exact heap_alloc_new W o
 generalize ovL L O=T at *
 clear T3 b4 HK e0 e1 e2 e3 e4 e5 rd1 hwf
 go_wp2_with fail
 go_loopw [14,15] (fun v u wr=>∃ (k:Nat) (N:List (Nat × Nat)),u=.int .i64 (k:Int)∧k≤L.length∧Hid (FlR w w4 wr g c L.length k (L ++ mksC 64) T N v)) (fun _ u _=>L.length-(intOf u).toNat)
 case atStart=>exact ⟨0,L ++ mksC 64,rfl,Nat.zero_le _,dhid ⟨Kp.refl _ _,own4.out,World.ownsRow_nil _ _ _ _,hlen,rfl,rfl⟩⟩
 case round=>
   obtain ⟨k,N,rfl,hk,HX⟩:=hrel
   by_cases hlt:k<L.length
   · have hltI:(k:Int)<(L.length:Int):=by omega
     have hltJ:(k:Int)<(L.length:Int)+64:=by omega
     by_cases hlo:k<O.length
     · have hloI:(k:Int)<(O.length:Int):=by omega
       have hTk:=HT1.out k hlt hlo
       have BW:Below w.heap.size w wr:=(B1.out.trans (T4.out.bw.mono z1)).trans (HX.out.kp.below (by have:=T4.out.bw.size;omega) (fun i e=>by omega))
       obtain ⟨b5,o5,rfl,hb5,hc⟩:=(HO.out.below BW) (by omega)
       obtain ⟨x0,x1⟩:=hc k hlo
       generalize O.getD k (0,0)=y at hTk x0 x1
       obtain ⟨op,arg⟩:=y
       simp only at x0 x1
       have HQ:=dhid (HX.out.set hlt hgw HTl op arg hTk)
       have HTS:Hid (T.take (k+1)=T.take k ++ [(op,arg)]):=dhid (by rw [takeP _ _ (by omega),hTk])
       have hw4:=HX.out.kp.size
       have hgr2:g<wr.heap.size:=Nat.lt_of_lt_of_le hgw hw4
       have f1:=HX.out.o1.frozenAt (k*2)
       have f2:=HX.out.o1.frozenAt (k*2+1)
       obtain ⟨e1,e2⟩:=cvD_get N k (by have:=HX.out.ln;omega)
       have r1:=HX.out.o1.cells (g:=g) rfl _ _ e1
       have r2:=HX.out.o1.cells (g:=g) rfl _ _ e2
       rw [Go.WideShapes.add_plain] at r1 r2
       simp only [Nat.zero_add] at r1 r2
       clear hTk hc e1 e2 BW HX
       go_wp2_with (at_builtin;refine wpList_append_own _ rfl _ _ 22 rfl w4.heap.size 37 i0 (.agg #[.int .u8 0,.int .u32 0]) 2 8 Tryz.underlying22 hi hz0 hz1 hz2 rfl (by decide) _ _ _ rfl (HQ.out.o2.alloc _) ⟨_,0,none⟩ 1 1 [.int .u8 (op:Int),.int .u32 (arg:Int)] rfl rfl ?c1 ?c2 ?c3 ?c4 ?c5 ?_)
       case c1=>
         intro j u hj
         match j,hj with
         |0,hj=>simp at hj;subst hj;simp [Addr.add];exact obj_cell (HAL _ _ _ (by simp only [World.size_setCell])) 0
         |1,hj=>simp at hj;subst hj;simp [Addr.add];exact obj_cell (HAL _ _ _ (by simp only [World.size_setCell])) 1
       case c2=>intro u hu;simp at hu;rcases hu with rfl|rfl <;> rfl
       case c3=>unfold maxLen;omega
       case c4=>omega
       case c5=>simp;omega
       intro v' w5 hown' hgrow _
       have HR2:=dhid (HQ.out.app hgw _ (by rw [HTS.out,cv_append];exact hown') hgrow)
       clear hown' hgrow HQ
       go_wp2_with fail
       go_roundw
       case rel=>exact ⟨k+1,_,by go_num,by omega,HR2⟩
       case measure=>simp [intOf];omega
     · have hloI:¬ (k:Int)<(O.length:Int):=by omega
       have hTk:=HT2.out k hlt hlo
       have hMk:(L ++ mksC 64).getD k (0,0)=L.getD k (0,0):=by rw [List.getD_eq_getElem?_getD,List.getElem?_append_left hlt,←List.getD_eq_getElem?_getD]
       obtain ⟨hq,hNk⟩:=HX.out.stay hlt HTl (hTk.trans hMk.symm)
       have HQ:=dhid hq
       have HTS:Hid (T.take (k+1)=T.take k ++ [T.getD k (0,0)]):=dhid (by rw [takeP _ _ (by omega)])
       generalize T.getD k (0,0)=y at hNk HTS
       obtain ⟨op,arg⟩:=y
       obtain ⟨r1,r2⟩:=hq.cells hlt op arg hNk
       have hw4:=HX.out.kp.size
       have hgr2:g<wr.heap.size:=Nat.lt_of_lt_of_le hgw hw4
       clear hTk hMk hq hNk HX
       go_wp2_with (at_builtin;refine wpList_append_own _ rfl _ _ 22 rfl w4.heap.size 37 i0 (.agg #[.int .u8 0,.int .u32 0]) 2 8 Tryz.underlying22 hi hz0 hz1 hz2 rfl (by decide) _ _ _ rfl (HQ.out.o2.alloc _) ⟨_,0,none⟩ 1 1 [.int .u8 (op:Int),.int .u32 (arg:Int)] rfl rfl ?c1 ?c2 ?c3 ?c4 ?c5 ?_)
       case c2=>exact ⟨rfl,rfl⟩
       case c3=>unfold maxLen;omega
       case c4=>omega
       case c5=>omega
       intro v' w5 hown' hgrow _
       have HR2:=dhid (HQ.out.app hgw _ (by rw [HTS.out,cv_append];exact hown') hgrow)
       clear hown' hgrow HQ
       go_wp2_with fail
       go_roundw
       case rel=>exact ⟨k+1,_,by go_num,by omega,HR2⟩
       case measure=>simp [intOf];omega
   · have hltI:¬ (k:Int)<(L.length:Int):=by omega
     have hke:k=L.length:=by omega
     subst hke
     have BW:Below w.heap.size w wr:=(B1.out.trans (T4.out.bw.mono z1)).trans (HX.out.kp.below (by have:=T4.out.bw.size;omega) (fun i e=>by omega))
     have hNs:N=T ++ N.drop L.length:=by
       have h1:=HX.out.tk
       rw [←HTl,List.take_length,HTl] at h1
       rw [←h1,List.take_append_drop]
     have hrow:=HX.out.o1
     rw [←HX.out.ln] at hrow
     obtain ⟨g',c',eg,-,-,-,rdN⟩:=own_g hrow (by have:=HX.out.ln;omega)
     cases eg
     rw [hNs] at rdN
     have rdT:=crd_left rdN
     have ho2:=HX.out.o2
     rw [show List.take L.length T=T by rw [←HTl,List.take_length],←HTl] at ho2
     obtain ⟨a5,c5,rfl,hc5,rd5⟩:=own_crdD ho2
     have G1:=flongest_any (some ⟨g,0,none⟩) c a e T wr (by omega) (by omega) ha he HT.out rdT
     have hlt5:=ho2.lt
     have hAB:A<w4.heap.size:=(Array.getElem?_eq_some_iff.1 T4.out.ba).1
     have rdW:∀ W,Kp (fun i=>i=A) wr W→CRd W a5 T W.heap.size:=fun W hK hl=>by
       obtain ⟨b5,o5,e5,hb5,hc⟩:=rd5 hl
       subst e5
       obtain ⟨q1,q2⟩:=hlt5 b5 rfl
       exact ⟨b5,o5,rfl,Nat.lt_of_lt_of_le hb5 hK.size,fun j hj=>⟨(hK.cell (p:=⟨b5,o5+j*2,none⟩) hb5 (by show ¬ b5=A;omega)).trans (hc j hj).1,(hK.cell (p:=⟨b5,o5+j*2+1,none⟩) hb5 (by show ¬ b5=A;omega)).trans (hc j hj).2⟩⟩
     have G2:=dhid (fun W (hK:Kp (fun i=>i=A) wr W)=>dlong_any a5 c5 a e T W (by omega) ha he HT.out (rdW W hK))
     have TX:Hid (Tb w wr A B ⟨f0,f1,f2,f3,f4,f5⟩ ⟨f0,f1,f2,f3,f4,f5⟩):=dhid ⟨BW,(HX.out.kp.block A (Array.getElem?_eq_some_iff.1 T4.out.ba).1 (by omega)).trans T4.out.ba,(HX.out.kp.block B (Array.getElem?_eq_some_iff.1 T4.out.bb).1 (by omega)).trans T4.out.bb,by omega,by omega,T4.out.ne⟩
     rw [HTl] at G1 G2 ⊢
     unfold FlD at G2
     generalize flV T a e=q at G1 G2
     generalize flE T a e=er2 at G1 G2
     obtain ⟨j0,j1,j2,j3,j4,j5⟩:=q
     simp only [fzA] at G1 G2
     clear hlt5 rdW hNs hrow rdN rdT ho2 rd5 HX T4 own4 BW own1 HT HT1 HT2
     go_wp2_with fail
     refine G1.mono ?_
     rintro x w5 ⟨rfl,b5⟩
     have T5:=dhid (TX.out.next b5)
     have T6:=dhid (T5.out.setA ⟨j0,j1,j2,j3,j4,j5⟩)
     have G3:=dhid (G2.out (w5.setRow A (fzA ⟨j0,j1,j2,j3,j4,j5⟩)) ((Kp.ofBelow (S:=fun i=>i=A) b5).trans (KpSetRow (S:=fun i=>i=A) w5 A _ rfl) (fun _ _ e=>e)))
     clear G2 TX b5
     go_wp2_with (refine wpList_storeF rfl _ _ rfl A ⟨f0,f1,f2,f3,f4,f5⟩ ⟨j0,j1,j2,j3,j4,j5⟩ rfl rfl T5.out.ba ?_)
     simp only [fzA] at G3 ⊢
     refine G3.out.mono ?_
     rintro x w6 ⟨rfl,b6⟩
     have T7:=dhid (T6.out.next b6)
     have T8:=dhid (T7.out.setB ⟨j0,j1,j2,j3,j4,j5⟩)
     obtain ⟨e0,e1,e2,e3,e4,e5⟩:=fz_cells T8.out.ba
     obtain ⟨d0,d1,d2,d3,d4,d5⟩:=fz_cells T8.out.bb
     simp only at e0 e1 e2 e3 e4 e5 d0 d1 d2 d3 d4 d5
     clear T5 T6 G3 b6
     go_wp2_with (refine wpList_storeF rfl _ _ rfl B ⟨f0,f1,f2,f3,f4,f5⟩ ⟨j0,j1,j2,j3,j4,j5⟩ rfl rfl T7.out.bb ?_)
     go_ret
     exact ⟨rfl,T8.out.bw⟩
end Go.Proofs.YtibhlcfligfhdaaGreat
