import Derived.Test.YtibhlcfligfhdaaGreatCZDi5
import Derived.Test.YtibhlcfligfhdaaGreatCZDi9
import Derived.Test.YtibhlcfligfhdaaGreatCZDl12
import Derived.Test.YtibhlcfligfhdaaGreatCZDl14
import Derived.Test.YtibhlcfligfhdaaGreatCZDl15
namespace Go.Proofs.YtibhlcfligfhdaaGreat
set_option maxHeartbeats 40000000
open Go.RowKit Go.WideShapes Go.Shelf
set_option maxRecDepth 100000
def ShP (L:List (Nat × Nat)) (a e k:Nat) (x:Ending):Prop:=∃ (f:Fz) (ok:Bool),x=.returned (.tuple #[.agg (fzA f),.bool ok])∧if ok=true then ShD L a e k f else ∀ g,¬ ShD L a e k g
theorem sh_no {L:List (Nat × Nat)} {a e k:Nat} (f:Fz) (h:∀ g,¬ ShD L a e k g):ShP L a e k (.returned (.tuple #[.agg (fzA f),.bool false])):=⟨f,false,rfl,h⟩
theorem sh_facts {ao:Option Addr} {cap a e:Nat} {L:List (Nat × Nat)} {w:World} (hL:L.length≤140737488355328) (hae:a<e) (he:e≤L.length) (he32:e<4294967296) (hwf:Wfc L) (hr:CRd w ao L w.heap.size) :
   Hid (∀ W (_:Below w.heap.size w W),Calls Tryz.prog 44 #[.slice ao L.length cap,.int .i64 (a:Int),.int .i64 (e:Int)] W fun x w'=>x=.returned (.bool (mayD L a e))∧Below W.heap.size W w')∧IntKind.u32.wrap (a:Int)=(a:Int)∧(e:Int)-(a:Int)=((e-a:Nat):Int)∧wrap64 ((e-a:Nat):Int)=((e-a:Nat):Int)∧IntKind.i64.wrap ((e-a:Nat):Int)=((e-a:Nat):Int)∧IntKind.u32.wrap ((e-a:Nat):Int)=((e-a:Nat):Int):=
 ⟨dhid (fun W hW=>dmay_any ao cap a e L W (by omega) he hwf ((hr.below hW).mono hW.size)),by rw [IntKind.wrap_u32];omega,by omega,by unfold wrap64;omega,by rw [IntKind.wrap_i64];omega,by rw [IntKind.wrap_u32];omega⟩
theorem hy_last {L:List (Nat × Nat)} {a e k:Nat} (h5:5≤k) (h10:k≤10) (hn:¬ e<a+2) (hm:mayD L a e=true) (x:Ending) (h:LsP a (e-a) k (cnO ((L.drop a).take (e-1-a))) (L.getD (e-1) (0,0)) x) :
   ∃ f0 f1 f2 f3 f4 f5 ok,x=.returned (.tuple #[.agg (fzA ⟨f0,f1,f2,f3,f4,f5⟩),.bool ok])∧ShP L a e k (.returned (.tuple #[.agg (fzA ⟨f0,f1,f2,f3,f4,f5⟩),.bool ok])):=by
 obtain ⟨⟨f0,f1,f2,f3,f4,f5⟩,ok,rfl,h⟩:=h
 refine ⟨f0,f1,f2,f3,f4,f5,ok,rfl,_,ok,rfl,?_⟩
 unfold ShD ShC
 cases ok with
 | true=>
   rw [if_pos rfl] at h ⊢
   rw [if_neg (by omega),if_pos ⟨h5,h10⟩]
   obtain ⟨v,h1,h2⟩:=h
   exact ⟨hm,by omega,v,h1,h2⟩
 | false=>
   rw [if_neg (by decide)] at h ⊢
   intro g hg
   rw [if_neg (by omega),if_pos ⟨h5,h10⟩] at hg
   obtain ⟨-,-,v,h1,h2⟩:=hg
   rw [h v h1] at h2
   cases h2
theorem hy_loc {L:List (Nat × Nat)} {a e k:Nat} (h5:11≤k) (h10:k≤15) (hm:mayD L a e=true) (x:Ending) (h:LcP L a e k x) :
   ∃ f0 f1 f2 f3 f4 f5 ok,x=.returned (.tuple #[.agg (fzA ⟨f0,f1,f2,f3,f4,f5⟩),.bool ok])∧ShP L a e k (.returned (.tuple #[.agg (fzA ⟨f0,f1,f2,f3,f4,f5⟩),.bool ok])):=by
 obtain ⟨⟨f0,f1,f2,f3,f4,f5⟩,ok,rfl,h⟩:=h
 refine ⟨f0,f1,f2,f3,f4,f5,ok,rfl,_,ok,rfl,?_⟩
 unfold ShD ShC
 cases ok with
 |true=>rw [if_pos rfl] at h ⊢;rw [if_neg (by omega),if_neg (by omega),if_pos ⟨h5,h10⟩];exact ⟨hm,h⟩
 | false=>
   rw [if_neg (by decide)] at h ⊢
   intro g hg
   rw [if_neg (by omega),if_neg (by omega),if_pos ⟨h5,h10⟩] at hg
   exact h g hg.2
theorem Bs.setopr {w V:World} {f r:Fz} (h:Bs w V f r) (v:Nat):Bs w (V.setCell ⟨w.heap.size+1,3,none⟩ (.int .u8 (v:Int))) f { r with op:=v }:=by
 have h3:=heap_setCell_same V (w.heap.size+1) 3 _ _ (.int .u8 (v:Int)) h.c1
 have hk:=Kp.setCell (S:=fun i=>i=w.heap.size+1) V ⟨w.heap.size+1,3,none⟩ (.int .u8 (v:Int)) rfl
 have hl:=h.lt
 exact ⟨h.bw.trans (hk.below (by omega) (fun i e=>by omega)),(hk.block _ (by omega) (by omega)).trans h.c0,h3⟩
theorem Bs.setar {w V:World} {f r:Fz} (h:Bs w V f r) (v:Nat):Bs w (V.setCell ⟨w.heap.size+1,4,none⟩ (.int .u32 (v:Int))) f { r with a:=v }:=by
 have h3:=heap_setCell_same V (w.heap.size+1) 4 _ _ (.int .u32 (v:Int)) h.c1
 have hk:=Kp.setCell (S:=fun i=>i=w.heap.size+1) V ⟨w.heap.size+1,4,none⟩ (.int .u32 (v:Int)) rfl
 have hl:=h.lt
 exact ⟨h.bw.trans (hk.below (by omega) (fun i e=>by omega)),(hk.block _ (by omega) (by omega)).trans h.c0,h3⟩
theorem Bs.put0 {w V:World} {f r f':Fz} (h:Bs w V f r):Below w.heap.size w (V.setRow w.heap.size (fzA f')):=h.bw.trans ((KpSetRow (S:=fun i=>i=w.heap.size) _ _ _ rfl).below h.bw.size (fun i e=>by omega))
theorem dshapeN_any (ao:Option Addr) (cap a e k:Nat) (L:List (Nat × Nat)) (w:World) (hL:L.length≤140737488355328) (hae:a<e) (he:e≤L.length) (he32:e<4294967296) (hwf:Wfc L) (hr:CRd w ao L w.heap.size) (hm:mayD L a e=false) :
   Calls Tryz.prog 22 #[.slice ao L.length cap,.int .i64 (a:Int),.int .i64 (e:Int),.int .u8 (k:Int)] w fun x w'=>ShP L a e k x∧Below w.heap.size w w':=by
 obtain ⟨HM,v1,hsub,hwn,hwo,v2⟩:=sh_facts (ao:=ao) (cap:=cap) hL hae he he32 hwf hr
 have HN:=dhid (fun f=>sh_no (L:=L) (a:=a) (e:=e) (k:=k) f (fun g h=>by rw [h.1] at hm;cases hm))
 generalize ShP L a e k=PP at HN ⊢
 rw [hm] at HM
 clear hr hwf hL he he32 hae
 generalize e-a=n at *
 go_enter Tryz.func22,Tryz.ntmps22
 go_wp2_with fail
 refine (HM.out _ (zbel2 w _ _)).mono ?_
 rintro en w2 ⟨rfl,hb2⟩
 have HB:=dhid ((Bs.new w fz0 ⟨a,n,k,0,0,0⟩).next hb2)
 obtain ⟨z0,z1,z2,z3,z4,z5⟩:=fz_cells HB.out.c1
 simp only at z0 z1 z2 z3 z4 z5
 clear hb2 HM
 go_wp2_with (refine wpList_storeF rfl _ _ rfl w.heap.size fz0 ⟨a,n,k,0,0,0⟩ rfl rfl HB.out.c0 ?_)
 exact bodyPost_ret (resFzB (p:=8) (u:=9) (by kernel_rfl) _ _ w.heap.size _ rfl (setRow_heap _ _ _ _ _ _ HB.out.c0) _ rfl rfl) rfl ⟨HN.out _,HB.out.put0⟩
theorem dshapeZ_any (ao:Option Addr) (cap a e k:Nat) (L:List (Nat × Nat)) (w:World) (hL:L.length≤140737488355328) (hae:a<e) (he:e≤L.length) (he32:e<4294967296) (hwf:Wfc L) (hr:CRd w ao L w.heap.size) (hm:mayD L a e=true) (hk:¬ k=1∧(k<5∨15<k)) :
   Calls Tryz.prog 22 #[.slice ao L.length cap,.int .i64 (a:Int),.int .i64 (e:Int),.int .u8 (k:Int)] w fun x w'=>ShP L a e k x∧Below w.heap.size w w':=by
 obtain ⟨HM,v1,hsub,hwn,hwo,v2⟩:=sh_facts (ao:=ao) (cap:=cap) hL hae he he32 hwf hr
 have HN:=dhid (fun f=>sh_no (L:=L) (a:=a) (e:=e) (k:=k) f (fun g h=>by
   have h2:=h.2
   unfold ShC at h2
   rw [if_neg hk.1,if_neg (by omega),if_neg (by omega)] at h2
   exact h2))
 generalize ShP L a e k=PP at HN ⊢
 rw [hm] at HM
 have g1:((k:Int) == 1)=false:=by rw [beq_eq_false_iff_ne];omega
 have g5:((k:Int) == 5)=false:=by rw [beq_eq_false_iff_ne];omega
 have g6:((k:Int) == 6)=false:=by rw [beq_eq_false_iff_ne];omega
 have g7:((k:Int) == 7)=false:=by rw [beq_eq_false_iff_ne];omega
 have g8:((k:Int) == 8)=false:=by rw [beq_eq_false_iff_ne];omega
 have g9:((k:Int) == 9)=false:=by rw [beq_eq_false_iff_ne];omega
 have g10:((k:Int) == 10)=false:=by rw [beq_eq_false_iff_ne];omega
 have g11:((k:Int) == 11)=false:=by rw [beq_eq_false_iff_ne];omega
 have g12:((k:Int) == 12)=false:=by rw [beq_eq_false_iff_ne];omega
 have g13:((k:Int) == 13)=false:=by rw [beq_eq_false_iff_ne];omega
 have g14:((k:Int) == 14)=false:=by rw [beq_eq_false_iff_ne];omega
 have g15:((k:Int) == 15)=false:=by rw [beq_eq_false_iff_ne];omega
 clear hk
 clear hr hwf hL he he32 hae
 generalize e-a=n at *
 go_enter Tryz.func22,Tryz.ntmps22
 go_wp2_with fail
 refine (HM.out _ (zbel2 w _ _)).mono ?_
 rintro en w2 ⟨rfl,hb2⟩
 have HB:=dhid ((Bs.new w fz0 ⟨a,n,k,0,0,0⟩).next hb2)
 obtain ⟨z0,z1,z2,z3,z4,z5⟩:=fz_cells HB.out.c1
 simp only at z0 z1 z2 z3 z4 z5
 clear hb2 HM
 go_wp2_with (refine wpList_storeF rfl _ _ rfl w.heap.size fz0 ⟨a,n,k,0,0,0⟩ rfl rfl HB.out.c0 ?_)
 exact bodyPost_ret (resFzB (p:=8) (u:=9) (by kernel_rfl) _ _ w.heap.size _ rfl (setRow_heap _ _ _ _ _ _ HB.out.c0) _ rfl rfl) rfl ⟨HN.out _,HB.out.put0⟩
theorem dshape1_any (ao:Option Addr) (cap a e:Nat) (L:List (Nat × Nat)) (w:World) (hL:L.length≤140737488355328) (hae:a<e) (he:e≤L.length) (he32:e<4294967296) (hwf:Wfc L) (hr:CRd w ao L w.heap.size) (hm:mayD L a e=true) :
   Calls Tryz.prog 22 #[.slice ao L.length cap,.int .i64 (a:Int),.int .i64 (e:Int),.int .u8 1] w fun x w'=>ShP L a e 1 x∧Below w.heap.size w w':=by
 obtain ⟨HM,v1,hsub,hwn,hwo,v2⟩:=sh_facts (ao:=ao) (cap:=cap) hL hae he he32 hwf hr
 obtain ⟨b,off,rfl,hbl,hc⟩:=hr (by omega)
 have X0:=dhid (fun (W:World) (hW:Below w.heap.size w W)=>(hW.cell (p:=⟨b,off+a*2,none⟩) hbl).trans (hc a (by omega)).1)
 have X1:=dhid (fun (W:World) (hW:Below w.heap.size w W)=>(hW.cell (p:=⟨b,off+a*2+1,none⟩) hbl).trans (hc a (by omega)).2)
 have HY:Hid (ShP L a e 1 (.returned (.tuple #[.agg (fzA ⟨a,e-a,1,(L.getD a (0,0)).1,(L.getD a (0,0)).2,0⟩),.bool (((e-a:Nat):Int) == 1)]))):=dhid (by
   rw [show (((e-a:Nat):Int) == 1)=decide (e-a=1) from beqN _ 1]
   refine ⟨_,_,rfl,?_⟩
   by_cases h:e-a=1
   · rw [decide_eq_true h,if_pos rfl,h]
     exact ⟨hm,by unfold ShC;rw [if_pos rfl];exact ⟨by omega,rfl⟩⟩
   · rw [decide_eq_false h,if_neg (by decide)]
     intro g hg
     have h2:=hg.2
     unfold ShC at h2
     rw [if_pos rfl] at h2
     exact h (by omega))
 have haL:(a:Int)<(L.length:Int):=by omega
 generalize ShP L a e 1=PP at HY ⊢
 generalize L.getD a (0,0)=q at X0 X1 HY
 obtain ⟨op,arg⟩:=q
 simp only at X0 X1 HY
 rw [hm] at HM
 clear hc
 clear hwf hL he he32 hae
 generalize e-a=n at *
 go_enter Tryz.func22,Tryz.ntmps22
 go_wp2_with fail
 refine (HM.out _ (zbel2 w _ _)).mono ?_
 rintro en w2 ⟨rfl,hb2⟩
 have HB:=dhid ((Bs.new w fz0 ⟨a,n,1,0,0,0⟩).next hb2)
 obtain ⟨z0,z1,z2,z3,z4,z5⟩:=fz_cells HB.out.c1
 simp only at z0 z1 z2 z3 z4 z5
 clear hb2 HM
 have y0:=X0.out w2 HB.out.bw
 have y1:=X1.out w2 HB.out.bw
 have hneb:¬ b=w.heap.size+1:=by omega
 have hlt2:w.heap.size+1<w2.heap.size:=HB.out.lt
 obtain ⟨u0,u1,u2,u3,u4,u5⟩:=fz_frozen HB.out.c1
 have HB3:Hid (Bs w ((w2.setCell ⟨w.heap.size+1,3,none⟩ (.int .u8 (op:Int))).setCell ⟨w.heap.size+1,4,none⟩ (.int .u32 (arg:Int))) fz0 ⟨a,n,1,op,arg,0⟩):=dhid ((HB.out.setopr op).setar arg)
 go_wp2_with (refine wpList_storeF rfl _ _ rfl w.heap.size fz0 ⟨a,n,1,op,arg,0⟩ rfl rfl HB3.out.c0 ?_)
 exact bodyPost_ret (resFzB (p:=8) (u:=9) (by kernel_rfl) _ _ w.heap.size _ rfl (setRow_heap _ _ _ _ _ _ HB3.out.c0) _ rfl rfl) rfl ⟨HY.out,HB3.out.put0⟩
theorem shB :
   (∀ (ao:Option Addr) (cap a e:Nat) (L:List (Nat × Nat)) (w:World),(L.length≤140737488355328)→(a<e)→(e≤L.length)→(e<4294967296)→(Wfc L)→(CRd w ao L w.heap.size)→(mayD L a e=true)→Calls Tryz.prog 22 #[.slice ao L.length cap,.int .i64 (a:Int),.int .i64 (e:Int),.int .u8 5] w fun x w'=>ShP L a e 5 x∧Below w.heap.size w w') ∧
   (∀ (ao:Option Addr) (cap a e:Nat) (L:List (Nat × Nat)) (w:World),(L.length≤140737488355328)→(a<e)→(e≤L.length)→(e<4294967296)→(Wfc L)→(CRd w ao L w.heap.size)→(mayD L a e=true)→Calls Tryz.prog 22 #[.slice ao L.length cap,.int .i64 (a:Int),.int .i64 (e:Int),.int .u8 6] w fun x w'=>ShP L a e 6 x∧Below w.heap.size w w') ∧
   (∀ (ao:Option Addr) (cap a e:Nat) (L:List (Nat × Nat)) (w:World),(L.length≤140737488355328)→(a<e)→(e≤L.length)→(e<4294967296)→(Wfc L)→(CRd w ao L w.heap.size)→(mayD L a e=true)→Calls Tryz.prog 22 #[.slice ao L.length cap,.int .i64 (a:Int),.int .i64 (e:Int),.int .u8 7] w fun x w'=>ShP L a e 7 x∧Below w.heap.size w w') ∧
   (∀ (ao:Option Addr) (cap a e:Nat) (L:List (Nat × Nat)) (w:World),(L.length≤140737488355328)→(a<e)→(e≤L.length)→(e<4294967296)→(Wfc L)→(CRd w ao L w.heap.size)→(mayD L a e=true)→Calls Tryz.prog 22 #[.slice ao L.length cap,.int .i64 (a:Int),.int .i64 (e:Int),.int .u8 8] w fun x w'=>ShP L a e 8 x∧Below w.heap.size w w') ∧
   (∀ (ao:Option Addr) (cap a e:Nat) (L:List (Nat × Nat)) (w:World),(L.length≤140737488355328)→(a<e)→(e≤L.length)→(e<4294967296)→(Wfc L)→(CRd w ao L w.heap.size)→(mayD L a e=true)→Calls Tryz.prog 22 #[.slice ao L.length cap,.int .i64 (a:Int),.int .i64 (e:Int),.int .u8 9] w fun x w'=>ShP L a e 9 x∧Below w.heap.size w w') ∧
   (∀ (ao:Option Addr) (cap a e:Nat) (L:List (Nat × Nat)) (w:World),(L.length≤140737488355328)→(a<e)→(e≤L.length)→(e<4294967296)→(Wfc L)→(CRd w ao L w.heap.size)→(mayD L a e=true)→Calls Tryz.prog 22 #[.slice ao L.length cap,.int .i64 (a:Int),.int .i64 (e:Int),.int .u8 10] w fun x w'=>ShP L a e 10 x∧Below w.heap.size w w'):=by
 refine ⟨?_,?_,?_,?_,?_,?_⟩
 all_goals intro ao cap a e L w hL hae he he32 hwf hr hm
 all_goals (obtain ⟨HM,v1,hsub,hwn,hwo,v2⟩:=sh_facts (ao:=ao) (cap:=cap) hL hae he he32 hwf hr)
 all_goals (by_cases hn:e<a+2)
 focus
   · have HN:=dhid (fun f=>sh_no (L:=L) (a:=a) (e:=e) (k:=5) f (fun g h=>by
       have h2:=h.2
       unfold ShC at h2
       rw [if_neg (by decide),if_pos (by decide)] at h2
       omega))
     generalize ShP L a e 5=PP at HN ⊢
     rw [hm] at HM
     have gn:((e-a:Nat):Int)<2:=by omega
     clear hn
     clear hr hwf hL he he32 hae
     generalize e-a=n at *
     go_enter Tryz.func22,Tryz.ntmps22
     go_wp2_with fail
     refine (HM.out _ (zbel2 w _ _)).mono ?_
     rintro en w2 ⟨rfl,hb2⟩
     have HB:=dhid ((Bs.new w fz0 ⟨a,n,5,0,0,0⟩).next hb2)
     obtain ⟨z0,z1,z2,z3,z4,z5⟩:=fz_cells HB.out.c1
     simp only at z0 z1 z2 z3 z4 z5
     clear hb2 HM
     go_wp2_with (refine wpList_storeF rfl _ _ rfl w.heap.size fz0 ⟨a,n,5,0,0,0⟩ rfl rfl HB.out.c0 ?_)
     exact bodyPost_ret (resFzB (p:=8) (u:=9) (by kernel_rfl) _ _ w.heap.size _ rfl (setRow_heap _ _ _ _ _ _ HB.out.c0) _ rfl rfl) rfl ⟨HN.out _,HB.out.put0⟩
 focus
   · have HLS:=dhid (fun W (hW:Below w.heap.size w W)=>dlast5_any ao cap a e (e-a) L W hL (by omega) he he32 hwf ((hr.below hW).mono hW.size))
     have HY:=dhid (hy_last (L:=L) (a:=a) (e:=e) (k:=5) (by decide) (by decide) hn hm)
     generalize LsP a (e-a) 5 (cnO ((L.drop a).take (e-1-a))) (L.getD (e-1) (0,0))=LL at HLS HY
     generalize ShP L a e 5=PP at HY ⊢
     rw [hm] at HM
     have gn:¬ ((e-a:Nat):Int)<2:=by omega
     clear hn hm
     clear hr hwf hL he he32 hae
     generalize e-a=n at *
     go_enter Tryz.func22,Tryz.ntmps22
     go_wp2_with fail
     refine (HM.out _ (zbel2 w _ _)).mono ?_
     rintro en w2 ⟨rfl,hb2⟩
     have HB:=dhid ((Bs.new w fz0 ⟨a,n,5,0,0,0⟩).next hb2)
     obtain ⟨z0,z1,z2,z3,z4,z5⟩:=fz_cells HB.out.c1
     simp only at z0 z1 z2 z3 z4 z5
     clear hb2 HM
     go_wp2_with fail
     refine (HLS.out w2 HB.out.bw).mono ?_
     rintro en w3 ⟨hls,hb3⟩
     obtain ⟨f0,f1,f2,f3,f4,f5,ok,rfl,HP⟩:=HY.out _ hls
     replace HP:=dhid HP
     have HB3:=dhid (HB.out.next hb3)
     simp only [fzA] at HP
     clear hls hb3 HLS HY HB z0 z1 z2 z3 z4 z5
     go_wp2_with (refine wpList_storeF rfl _ _ rfl w.heap.size fz0 ⟨f0,f1,f2,f3,f4,f5⟩ rfl rfl HB3.out.c0 ?_)
     exact bodyPost_ret (resFzB (p:=8) (u:=9) (by kernel_rfl) _ _ w.heap.size _ rfl (setRow_heap _ _ _ _ _ _ HB3.out.c0) _ rfl rfl) rfl ⟨HP.out,HB3.out.put0⟩
 focus
   · have HN:=dhid (fun f=>sh_no (L:=L) (a:=a) (e:=e) (k:=6) f (fun g h=>by
       have h2:=h.2
       unfold ShC at h2
       rw [if_neg (by decide),if_pos (by decide)] at h2
       omega))
     generalize ShP L a e 6=PP at HN ⊢
     rw [hm] at HM
     have gn:((e-a:Nat):Int)<2:=by omega
     clear hn
     clear hr hwf hL he he32 hae
     generalize e-a=n at *
     go_enter Tryz.func22,Tryz.ntmps22
     go_wp2_with fail
     refine (HM.out _ (zbel2 w _ _)).mono ?_
     rintro en w2 ⟨rfl,hb2⟩
     have HB:=dhid ((Bs.new w fz0 ⟨a,n,6,0,0,0⟩).next hb2)
     obtain ⟨z0,z1,z2,z3,z4,z5⟩:=fz_cells HB.out.c1
     simp only at z0 z1 z2 z3 z4 z5
     clear hb2 HM
     go_wp2_with (refine wpList_storeF rfl _ _ rfl w.heap.size fz0 ⟨a,n,6,0,0,0⟩ rfl rfl HB.out.c0 ?_)
     exact bodyPost_ret (resFzB (p:=8) (u:=9) (by kernel_rfl) _ _ w.heap.size _ rfl (setRow_heap _ _ _ _ _ _ HB.out.c0) _ rfl rfl) rfl ⟨HN.out _,HB.out.put0⟩
 focus
   · have HLS:=dhid (fun W (hW:Below w.heap.size w W)=>dlast6_any ao cap a e (e-a) L W hL (by omega) he he32 hwf ((hr.below hW).mono hW.size))
     have HY:=dhid (hy_last (L:=L) (a:=a) (e:=e) (k:=6) (by decide) (by decide) hn hm)
     generalize LsP a (e-a) 6 (cnO ((L.drop a).take (e-1-a))) (L.getD (e-1) (0,0))=LL at HLS HY
     generalize ShP L a e 6=PP at HY ⊢
     rw [hm] at HM
     have gn:¬ ((e-a:Nat):Int)<2:=by omega
     clear hn hm
     clear hr hwf hL he he32 hae
     generalize e-a=n at *
     go_enter Tryz.func22,Tryz.ntmps22
     go_wp2_with fail
     refine (HM.out _ (zbel2 w _ _)).mono ?_
     rintro en w2 ⟨rfl,hb2⟩
     have HB:=dhid ((Bs.new w fz0 ⟨a,n,6,0,0,0⟩).next hb2)
     obtain ⟨z0,z1,z2,z3,z4,z5⟩:=fz_cells HB.out.c1
     simp only at z0 z1 z2 z3 z4 z5
     clear hb2 HM
     go_wp2_with fail
     refine (HLS.out w2 HB.out.bw).mono ?_
     rintro en w3 ⟨hls,hb3⟩
     obtain ⟨f0,f1,f2,f3,f4,f5,ok,rfl,HP⟩:=HY.out _ hls
     replace HP:=dhid HP
     have HB3:=dhid (HB.out.next hb3)
     simp only [fzA] at HP
     clear hls hb3 HLS HY HB z0 z1 z2 z3 z4 z5
     go_wp2_with (refine wpList_storeF rfl _ _ rfl w.heap.size fz0 ⟨f0,f1,f2,f3,f4,f5⟩ rfl rfl HB3.out.c0 ?_)
     exact bodyPost_ret (resFzB (p:=8) (u:=9) (by kernel_rfl) _ _ w.heap.size _ rfl (setRow_heap _ _ _ _ _ _ HB3.out.c0) _ rfl rfl) rfl ⟨HP.out,HB3.out.put0⟩
 focus
   · have HN:=dhid (fun f=>sh_no (L:=L) (a:=a) (e:=e) (k:=7) f (fun g h=>by
       have h2:=h.2
       unfold ShC at h2
       rw [if_neg (by decide),if_pos (by decide)] at h2
       omega))
     generalize ShP L a e 7=PP at HN ⊢
     rw [hm] at HM
     have gn:((e-a:Nat):Int)<2:=by omega
     clear hn
     clear hr hwf hL he he32 hae
     generalize e-a=n at *
     go_enter Tryz.func22,Tryz.ntmps22
     go_wp2_with fail
     refine (HM.out _ (zbel2 w _ _)).mono ?_
     rintro en w2 ⟨rfl,hb2⟩
     have HB:=dhid ((Bs.new w fz0 ⟨a,n,7,0,0,0⟩).next hb2)
     obtain ⟨z0,z1,z2,z3,z4,z5⟩:=fz_cells HB.out.c1
     simp only at z0 z1 z2 z3 z4 z5
     clear hb2 HM
     go_wp2_with (refine wpList_storeF rfl _ _ rfl w.heap.size fz0 ⟨a,n,7,0,0,0⟩ rfl rfl HB.out.c0 ?_)
     exact bodyPost_ret (resFzB (p:=8) (u:=9) (by kernel_rfl) _ _ w.heap.size _ rfl (setRow_heap _ _ _ _ _ _ HB.out.c0) _ rfl rfl) rfl ⟨HN.out _,HB.out.put0⟩
 focus
   · have HLS:=dhid (fun W (hW:Below w.heap.size w W)=>dlast7_any ao cap a e (e-a) L W hL (by omega) he he32 hwf ((hr.below hW).mono hW.size))
     have HY:=dhid (hy_last (L:=L) (a:=a) (e:=e) (k:=7) (by decide) (by decide) hn hm)
     generalize LsP a (e-a) 7 (cnO ((L.drop a).take (e-1-a))) (L.getD (e-1) (0,0))=LL at HLS HY
     generalize ShP L a e 7=PP at HY ⊢
     rw [hm] at HM
     have gn:¬ ((e-a:Nat):Int)<2:=by omega
     clear hn hm
     clear hr hwf hL he he32 hae
     generalize e-a=n at *
     go_enter Tryz.func22,Tryz.ntmps22
     go_wp2_with fail
     refine (HM.out _ (zbel2 w _ _)).mono ?_
     rintro en w2 ⟨rfl,hb2⟩
     have HB:=dhid ((Bs.new w fz0 ⟨a,n,7,0,0,0⟩).next hb2)
     obtain ⟨z0,z1,z2,z3,z4,z5⟩:=fz_cells HB.out.c1
     simp only at z0 z1 z2 z3 z4 z5
     clear hb2 HM
     go_wp2_with fail
     refine (HLS.out w2 HB.out.bw).mono ?_
     rintro en w3 ⟨hls,hb3⟩
     obtain ⟨f0,f1,f2,f3,f4,f5,ok,rfl,HP⟩:=HY.out _ hls
     replace HP:=dhid HP
     have HB3:=dhid (HB.out.next hb3)
     simp only [fzA] at HP
     clear hls hb3 HLS HY HB z0 z1 z2 z3 z4 z5
     go_wp2_with (refine wpList_storeF rfl _ _ rfl w.heap.size fz0 ⟨f0,f1,f2,f3,f4,f5⟩ rfl rfl HB3.out.c0 ?_)
     exact bodyPost_ret (resFzB (p:=8) (u:=9) (by kernel_rfl) _ _ w.heap.size _ rfl (setRow_heap _ _ _ _ _ _ HB3.out.c0) _ rfl rfl) rfl ⟨HP.out,HB3.out.put0⟩
 focus
   · have HN:=dhid (fun f=>sh_no (L:=L) (a:=a) (e:=e) (k:=8) f (fun g h=>by
       have h2:=h.2
       unfold ShC at h2
       rw [if_neg (by decide),if_pos (by decide)] at h2
       omega))
     generalize ShP L a e 8=PP at HN ⊢
     rw [hm] at HM
     have gn:((e-a:Nat):Int)<2:=by omega
     clear hn
     clear hr hwf hL he he32 hae
     generalize e-a=n at *
     go_enter Tryz.func22,Tryz.ntmps22
     go_wp2_with fail
     refine (HM.out _ (zbel2 w _ _)).mono ?_
     rintro en w2 ⟨rfl,hb2⟩
     have HB:=dhid ((Bs.new w fz0 ⟨a,n,8,0,0,0⟩).next hb2)
     obtain ⟨z0,z1,z2,z3,z4,z5⟩:=fz_cells HB.out.c1
     simp only at z0 z1 z2 z3 z4 z5
     clear hb2 HM
     go_wp2_with (refine wpList_storeF rfl _ _ rfl w.heap.size fz0 ⟨a,n,8,0,0,0⟩ rfl rfl HB.out.c0 ?_)
     exact bodyPost_ret (resFzB (p:=8) (u:=9) (by kernel_rfl) _ _ w.heap.size _ rfl (setRow_heap _ _ _ _ _ _ HB.out.c0) _ rfl rfl) rfl ⟨HN.out _,HB.out.put0⟩
 focus
   · have HLS:=dhid (fun W (hW:Below w.heap.size w W)=>dlast8_any ao cap a e (e-a) L W hL (by omega) he he32 hwf ((hr.below hW).mono hW.size))
     have HY:=dhid (hy_last (L:=L) (a:=a) (e:=e) (k:=8) (by decide) (by decide) hn hm)
     generalize LsP a (e-a) 8 (cnO ((L.drop a).take (e-1-a))) (L.getD (e-1) (0,0))=LL at HLS HY
     generalize ShP L a e 8=PP at HY ⊢
     rw [hm] at HM
     have gn:¬ ((e-a:Nat):Int)<2:=by omega
     clear hn hm
     clear hr hwf hL he he32 hae
     generalize e-a=n at *
     go_enter Tryz.func22,Tryz.ntmps22
     go_wp2_with fail
     refine (HM.out _ (zbel2 w _ _)).mono ?_
     rintro en w2 ⟨rfl,hb2⟩
     have HB:=dhid ((Bs.new w fz0 ⟨a,n,8,0,0,0⟩).next hb2)
     obtain ⟨z0,z1,z2,z3,z4,z5⟩:=fz_cells HB.out.c1
     simp only at z0 z1 z2 z3 z4 z5
     clear hb2 HM
     go_wp2_with fail
     refine (HLS.out w2 HB.out.bw).mono ?_
     rintro en w3 ⟨hls,hb3⟩
     obtain ⟨f0,f1,f2,f3,f4,f5,ok,rfl,HP⟩:=HY.out _ hls
     replace HP:=dhid HP
     have HB3:=dhid (HB.out.next hb3)
     simp only [fzA] at HP
     clear hls hb3 HLS HY HB z0 z1 z2 z3 z4 z5
     go_wp2_with (refine wpList_storeF rfl _ _ rfl w.heap.size fz0 ⟨f0,f1,f2,f3,f4,f5⟩ rfl rfl HB3.out.c0 ?_)
     exact bodyPost_ret (resFzB (p:=8) (u:=9) (by kernel_rfl) _ _ w.heap.size _ rfl (setRow_heap _ _ _ _ _ _ HB3.out.c0) _ rfl rfl) rfl ⟨HP.out,HB3.out.put0⟩
 focus
   · have HN:=dhid (fun f=>sh_no (L:=L) (a:=a) (e:=e) (k:=9) f (fun g h=>by
       have h2:=h.2
       unfold ShC at h2
       rw [if_neg (by decide),if_pos (by decide)] at h2
       omega))
     generalize ShP L a e 9=PP at HN ⊢
     rw [hm] at HM
     have gn:((e-a:Nat):Int)<2:=by omega
     clear hn
     clear hr hwf hL he he32 hae
     generalize e-a=n at *
     go_enter Tryz.func22,Tryz.ntmps22
     go_wp2_with fail
     refine (HM.out _ (zbel2 w _ _)).mono ?_
     rintro en w2 ⟨rfl,hb2⟩
     have HB:=dhid ((Bs.new w fz0 ⟨a,n,9,0,0,0⟩).next hb2)
     obtain ⟨z0,z1,z2,z3,z4,z5⟩:=fz_cells HB.out.c1
     simp only at z0 z1 z2 z3 z4 z5
     clear hb2 HM
     go_wp2_with (refine wpList_storeF rfl _ _ rfl w.heap.size fz0 ⟨a,n,9,0,0,0⟩ rfl rfl HB.out.c0 ?_)
     exact bodyPost_ret (resFzB (p:=8) (u:=9) (by kernel_rfl) _ _ w.heap.size _ rfl (setRow_heap _ _ _ _ _ _ HB.out.c0) _ rfl rfl) rfl ⟨HN.out _,HB.out.put0⟩
 focus
   · have HLS:=dhid (fun W (hW:Below w.heap.size w W)=>dlast9_any ao cap a e (e-a) L W hL (by omega) he he32 hwf ((hr.below hW).mono hW.size))
     have HY:=dhid (hy_last (L:=L) (a:=a) (e:=e) (k:=9) (by decide) (by decide) hn hm)
     generalize LsP a (e-a) 9 (cnO ((L.drop a).take (e-1-a))) (L.getD (e-1) (0,0))=LL at HLS HY
     generalize ShP L a e 9=PP at HY ⊢
     rw [hm] at HM
     have gn:¬ ((e-a:Nat):Int)<2:=by omega
     clear hn hm
     clear hr hwf hL he he32 hae
     generalize e-a=n at *
     go_enter Tryz.func22,Tryz.ntmps22
     go_wp2_with fail
     refine (HM.out _ (zbel2 w _ _)).mono ?_
     rintro en w2 ⟨rfl,hb2⟩
     have HB:=dhid ((Bs.new w fz0 ⟨a,n,9,0,0,0⟩).next hb2)
     obtain ⟨z0,z1,z2,z3,z4,z5⟩:=fz_cells HB.out.c1
     simp only at z0 z1 z2 z3 z4 z5
     clear hb2 HM
     go_wp2_with fail
     refine (HLS.out w2 HB.out.bw).mono ?_
     rintro en w3 ⟨hls,hb3⟩
     obtain ⟨f0,f1,f2,f3,f4,f5,ok,rfl,HP⟩:=HY.out _ hls
     replace HP:=dhid HP
     have HB3:=dhid (HB.out.next hb3)
     simp only [fzA] at HP
     clear hls hb3 HLS HY HB z0 z1 z2 z3 z4 z5
     go_wp2_with (refine wpList_storeF rfl _ _ rfl w.heap.size fz0 ⟨f0,f1,f2,f3,f4,f5⟩ rfl rfl HB3.out.c0 ?_)
     exact bodyPost_ret (resFzB (p:=8) (u:=9) (by kernel_rfl) _ _ w.heap.size _ rfl (setRow_heap _ _ _ _ _ _ HB3.out.c0) _ rfl rfl) rfl ⟨HP.out,HB3.out.put0⟩
 focus
   · have HN:=dhid (fun f=>sh_no (L:=L) (a:=a) (e:=e) (k:=10) f (fun g h=>by
       have h2:=h.2
       unfold ShC at h2
       rw [if_neg (by decide),if_pos (by decide)] at h2
       omega))
     generalize ShP L a e 10=PP at HN ⊢
     rw [hm] at HM
     have gn:((e-a:Nat):Int)<2:=by omega
     clear hn
     clear hr hwf hL he he32 hae
     generalize e-a=n at *
     go_enter Tryz.func22,Tryz.ntmps22
     go_wp2_with fail
     refine (HM.out _ (zbel2 w _ _)).mono ?_
     rintro en w2 ⟨rfl,hb2⟩
     have HB:=dhid ((Bs.new w fz0 ⟨a,n,10,0,0,0⟩).next hb2)
     obtain ⟨z0,z1,z2,z3,z4,z5⟩:=fz_cells HB.out.c1
     simp only at z0 z1 z2 z3 z4 z5
     clear hb2 HM
     go_wp2_with (refine wpList_storeF rfl _ _ rfl w.heap.size fz0 ⟨a,n,10,0,0,0⟩ rfl rfl HB.out.c0 ?_)
     exact bodyPost_ret (resFzB (p:=8) (u:=9) (by kernel_rfl) _ _ w.heap.size _ rfl (setRow_heap _ _ _ _ _ _ HB.out.c0) _ rfl rfl) rfl ⟨HN.out _,HB.out.put0⟩
 focus
   · have HLS:=dhid (fun W (hW:Below w.heap.size w W)=>dlast10_any ao cap a e (e-a) L W hL (by omega) he he32 hwf ((hr.below hW).mono hW.size))
     have HY:=dhid (hy_last (L:=L) (a:=a) (e:=e) (k:=10) (by decide) (by decide) hn hm)
     generalize LsP a (e-a) 10 (cnO ((L.drop a).take (e-1-a))) (L.getD (e-1) (0,0))=LL at HLS HY
     generalize ShP L a e 10=PP at HY ⊢
     rw [hm] at HM
     have gn:¬ ((e-a:Nat):Int)<2:=by omega
     clear hn hm
     clear hr hwf hL he he32 hae
     generalize e-a=n at *
     go_enter Tryz.func22,Tryz.ntmps22
     go_wp2_with fail
     refine (HM.out _ (zbel2 w _ _)).mono ?_
     rintro en w2 ⟨rfl,hb2⟩
     have HB:=dhid ((Bs.new w fz0 ⟨a,n,10,0,0,0⟩).next hb2)
     obtain ⟨z0,z1,z2,z3,z4,z5⟩:=fz_cells HB.out.c1
     simp only at z0 z1 z2 z3 z4 z5
     clear hb2 HM
     go_wp2_with fail
     refine (HLS.out w2 HB.out.bw).mono ?_
     rintro en w3 ⟨hls,hb3⟩
     obtain ⟨f0,f1,f2,f3,f4,f5,ok,rfl,HP⟩:=HY.out _ hls
     replace HP:=dhid HP
     have HB3:=dhid (HB.out.next hb3)
     simp only [fzA] at HP
     clear hls hb3 HLS HY HB z0 z1 z2 z3 z4 z5
     go_wp2_with (refine wpList_storeF rfl _ _ rfl w.heap.size fz0 ⟨f0,f1,f2,f3,f4,f5⟩ rfl rfl HB3.out.c0 ?_)
     exact bodyPost_ret (resFzB (p:=8) (u:=9) (by kernel_rfl) _ _ w.heap.size _ rfl (setRow_heap _ _ _ _ _ _ HB3.out.c0) _ rfl rfl) rfl ⟨HP.out,HB3.out.put0⟩
abbrev dshape5_any:=shB.1
abbrev dshape6_any:=shB.2.1
abbrev dshape7_any:=shB.2.2.1
abbrev dshape8_any:=shB.2.2.2.1
abbrev dshape9_any:=shB.2.2.2.2.1
abbrev dshape10_any:=shB.2.2.2.2.2
theorem shA :
   (∀ (ao:Option Addr) (cap a e:Nat) (L:List (Nat × Nat)) (w:World),(L.length≤140737488355328)→(a<e)→(e≤L.length)→(e<4294967296)→(Wfc L)→(CRd w ao L w.heap.size)→(mayD L a e=true)→Calls Tryz.prog 22 #[.slice ao L.length cap,.int .i64 (a:Int),.int .i64 (e:Int),.int .u8 11] w fun x w'=>ShP L a e 11 x∧Below w.heap.size w w') ∧
   (∀ (ao:Option Addr) (cap a e:Nat) (L:List (Nat × Nat)) (w:World),(L.length≤140737488355328)→(a<e)→(e≤L.length)→(e<4294967296)→(Wfc L)→(CRd w ao L w.heap.size)→(mayD L a e=true)→Calls Tryz.prog 22 #[.slice ao L.length cap,.int .i64 (a:Int),.int .i64 (e:Int),.int .u8 12] w fun x w'=>ShP L a e 12 x∧Below w.heap.size w w') ∧
   (∀ (ao:Option Addr) (cap a e:Nat) (L:List (Nat × Nat)) (w:World),(L.length≤140737488355328)→(a<e)→(e≤L.length)→(e<4294967296)→(Wfc L)→(CRd w ao L w.heap.size)→(mayD L a e=true)→Calls Tryz.prog 22 #[.slice ao L.length cap,.int .i64 (a:Int),.int .i64 (e:Int),.int .u8 13] w fun x w'=>ShP L a e 13 x∧Below w.heap.size w w') ∧
   (∀ (ao:Option Addr) (cap a e:Nat) (L:List (Nat × Nat)) (w:World),(L.length≤140737488355328)→(a<e)→(e≤L.length)→(e<4294967296)→(Wfc L)→(CRd w ao L w.heap.size)→(mayD L a e=true)→Calls Tryz.prog 22 #[.slice ao L.length cap,.int .i64 (a:Int),.int .i64 (e:Int),.int .u8 14] w fun x w'=>ShP L a e 14 x∧Below w.heap.size w w') ∧
   (∀ (ao:Option Addr) (cap a e:Nat) (L:List (Nat × Nat)) (w:World),(L.length≤140737488355328)→(a<e)→(e≤L.length)→(e<4294967296)→(Wfc L)→(CRd w ao L w.heap.size)→(mayD L a e=true)→Calls Tryz.prog 22 #[.slice ao L.length cap,.int .i64 (a:Int),.int .i64 (e:Int),.int .u8 15] w fun x w'=>ShP L a e 15 x∧Below w.heap.size w w'):=by
 refine ⟨?_,?_,?_,?_,?_⟩
 all_goals intro ao cap a e L w hL hae he he32 hwf hr hm
 all_goals (obtain ⟨HM,v1,hsub,hwn,hwo,v2⟩:=sh_facts (ao:=ao) (cap:=cap) hL hae he he32 hwf hr)
 have HLS:=dhid (fun W (hW:Below w.heap.size w W)=>dloc11_any ao cap a e L W hL hae he he32 hwf ((hr.below hW).mono hW.size))
 have HY:=dhid (hy_loc (L:=L) (a:=a) (e:=e) (k:=11) (by decide) (by decide) hm)
 generalize LcP L a e 11=LL at HLS HY
 generalize ShP L a e 11=PP at HY ⊢
 rotate_left
 have HLS:=dhid (fun W (hW:Below w.heap.size w W)=>dloc12_any ao cap a e L W hL hae he he32 hwf ((hr.below hW).mono hW.size))
 have HY:=dhid (hy_loc (L:=L) (a:=a) (e:=e) (k:=12) (by decide) (by decide) hm)
 generalize LcP L a e 12=LL at HLS HY
 generalize ShP L a e 12=PP at HY ⊢
 rotate_left
 have HLS:=dhid (fun W (hW:Below w.heap.size w W)=>dloc13_any ao cap a e L W hL hae he he32 hwf ((hr.below hW).mono hW.size))
 have HY:=dhid (hy_loc (L:=L) (a:=a) (e:=e) (k:=13) (by decide) (by decide) hm)
 generalize LcP L a e 13=LL at HLS HY
 generalize ShP L a e 13=PP at HY ⊢
 rotate_left
 have HLS:=dhid (fun W (hW:Below w.heap.size w W)=>dloc14_any ao cap a e L W hL hae he he32 hwf ((hr.below hW).mono hW.size))
 have HY:=dhid (hy_loc (L:=L) (a:=a) (e:=e) (k:=14) (by decide) (by decide) hm)
 generalize LcP L a e 14=LL at HLS HY
 generalize ShP L a e 14=PP at HY ⊢
 rotate_left
 have HLS:=dhid (fun W (hW:Below w.heap.size w W)=>dloc15_any ao cap a e L W hL hae he he32 hwf ((hr.below hW).mono hW.size))
 have HY:=dhid (hy_loc (L:=L) (a:=a) (e:=e) (k:=15) (by decide) (by decide) hm)
 generalize LcP L a e 15=LL at HLS HY
 generalize ShP L a e 15=PP at HY ⊢
 rotate_left
 all_goals (rw [hm] at HM)
 all_goals (clear hm)
 all_goals (clear hr hwf hL he he32 hae)
 all_goals (generalize e-a=n at *)
 all_goals (go_enter Tryz.func22,Tryz.ntmps22)
 all_goals (go_wp2_with fail)
 all_goals (refine (HM.out _ (zbel2 w _ _)).mono ?_)
 all_goals (rintro en w2 ⟨rfl,hb2⟩)
 have HB:=dhid ((Bs.new w fz0 ⟨a,n,11,0,0,0⟩).next hb2)
 rotate_left
 have HB:=dhid ((Bs.new w fz0 ⟨a,n,12,0,0,0⟩).next hb2)
 rotate_left
 have HB:=dhid ((Bs.new w fz0 ⟨a,n,13,0,0,0⟩).next hb2)
 rotate_left
 have HB:=dhid ((Bs.new w fz0 ⟨a,n,14,0,0,0⟩).next hb2)
 rotate_left
 have HB:=dhid ((Bs.new w fz0 ⟨a,n,15,0,0,0⟩).next hb2)
 rotate_left
 all_goals (obtain ⟨z0,z1,z2,z3,z4,z5⟩:=fz_cells HB.out.c1)
 all_goals (simp only at z0 z1 z2 z3 z4 z5)
 all_goals (clear hb2 HM)
 all_goals (go_wp2_with fail)
 all_goals (refine (HLS.out w2 HB.out.bw).mono ?_)
 all_goals (rintro en w3 ⟨hls,hb3⟩)
 all_goals (obtain ⟨f0,f1,f2,f3,f4,f5,ok,rfl,HP⟩:=HY.out _ hls)
 all_goals (replace HP:=dhid HP)
 all_goals (have HB3:=dhid (HB.out.next hb3))
 all_goals (simp only [fzA] at HP)
 all_goals (clear hls hb3 HLS HY HB z0 z1 z2 z3 z4 z5)
 all_goals (go_wp2_with (refine wpList_storeF rfl _ _ rfl w.heap.size fz0 ⟨f0,f1,f2,f3,f4,f5⟩ rfl rfl HB3.out.c0 ?_))
 all_goals (exact bodyPost_ret (resFzB (p:=8) (u:=9) (by kernel_rfl) _ _ w.heap.size _ rfl (setRow_heap _ _ _ _ _ _ HB3.out.c0) _ rfl rfl) rfl ⟨HP.out,HB3.out.put0⟩)
abbrev dshape11_any:=shA.1
abbrev dshape12_any:=shA.2.1
abbrev dshape13_any:=shA.2.2.1
abbrev dshape14_any:=shA.2.2.2.1
abbrev dshape15_any:=shA.2.2.2.2
theorem dshape_any (ao:Option Addr) (cap a e k:Nat) (L:List (Nat × Nat)) (w:World) (hL:L.length≤140737488355328) (hae:a<e) (he:e≤L.length) (he32:e<4294967296) (hwf:Wfc L) (hr:CRd w ao L w.heap.size) :
   Calls Tryz.prog 22 #[.slice ao L.length cap,.int .i64 (a:Int),.int .i64 (e:Int),.int .u8 (k:Int)] w fun x w'=>ShP L a e k x∧Below w.heap.size w w':=by
 cases hm:mayD L a e with
 |false=>exact dshapeN_any ao cap a e k L w hL hae he he32 hwf hr hm
 | true=>
   by_cases hz:¬ k=1∧(k<5∨15<k)
   · exact dshapeZ_any ao cap a e k L w hL hae he he32 hwf hr hm hz
   have hc:k=1∨k=5∨k=6∨k=7∨k=8∨k=9∨k=10∨k=11∨k=12∨k=13∨k=14∨k=15:=by omega
   rcases hc with h1|h5|h6|h7|h8|h9|h10|h11|h12|h13|h14|h15
   · subst h1;exact dshape1_any ao cap a e L w hL hae he he32 hwf hr hm
   · subst h5;exact dshape5_any ao cap a e L w hL hae he he32 hwf hr hm
   · subst h6;exact dshape6_any ao cap a e L w hL hae he he32 hwf hr hm
   · subst h7;exact dshape7_any ao cap a e L w hL hae he he32 hwf hr hm
   · subst h8;exact dshape8_any ao cap a e L w hL hae he he32 hwf hr hm
   · subst h9;exact dshape9_any ao cap a e L w hL hae he he32 hwf hr hm
   · subst h10;exact dshape10_any ao cap a e L w hL hae he he32 hwf hr hm
   · subst h11;exact dshape11_any ao cap a e L w hL hae he he32 hwf hr hm
   · subst h12;exact dshape12_any ao cap a e L w hL hae he he32 hwf hr hm
   · subst h13;exact dshape13_any ao cap a e L w hL hae he he32 hwf hr hm
   · subst h14;exact dshape14_any ao cap a e L w hL hae he he32 hwf hr hm
   · subst h15;exact dshape15_any ao cap a e L w hL hae he he32 hwf hr hm
end Go.Proofs.YtibhlcfligfhdaaGreat
