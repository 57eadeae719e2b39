import Derived.Test.YtibhlcfligfhdaaGreatCZTh
import Derived.BigQuiet
namespace Go.Proofs.YtibhlcfligfhdaaGreat
set_option maxHeartbeats 8000000
open Go.RowKit Go.WideShapes Go.Shelf
set_option maxRecDepth 100000
def cnO (M:List (Nat × Nat)):Option Nat:=
 if 1≤M.length∧M.length≤16 then (match plD M [] with|some (2,v)=>some v|_=>none) else none
theorem cnO_some {M:List (Nat × Nat)} {v:Nat}:cnO M=some v↔1≤M.length∧M.length≤16∧plD M []=some (2,v):=by
 unfold cnO
 by_cases h:1≤M.length∧M.length≤16
 · rw [if_pos h]
   constructor
   · intro q
     split at q
     · rename_i v' hv;cases q;exact ⟨h.1,h.2,hv⟩
     · cases q
   · rintro ⟨-,-,q⟩
     simp only [q]
 · rw [if_neg h]
   constructor
   · intro q;cases q
   · rintro ⟨a,b,-⟩;exact absurd ⟨a,b⟩ h
theorem cnO_none {M:List (Nat × Nat)} (h:∀ v,plD M []=some (2,v)→False):cnO M=none:=by
 cases hc:cnO M with
 |none=>rfl
 |some v=>exact (h v (cnO_some.1 hc).2.2).elim
theorem plR_valid:∀ (A:List (Nat × Nat)) (ws ws':List Nat),plR A ws=some ws'→A.all (fun p=>decide (erV p.1 p.2=0))=true
 | [],_,_,_=>rfl
 | p :: r,ws,ws',h=>by
   unfold plR at h
   split at h
   · rename_i h1
     split at h
     · cases h
     · rename_i wt _
       rw [List.all_cons,plR_valid r wt ws' h,decide_eq_true h1.1]
       rfl
   · cases h
theorem sub_len {L:List (Nat × Nat)} {a e:Nat} (he:e≤L.length):((L.drop a).take (e-a)).length=e-a:=by rw [List.length_take,List.length_drop];omega
theorem sub_one {L:List (Nat × Nat)} {a:Nat} (h:a<L.length):(L.drop a).take 1=[L.getD a (0,0)]:=by
 rw [List.drop_eq_getElem_cons h,List.take_succ_cons,List.take_zero,List.getD_eq_getElem?_getD,List.getElem?_eq_getElem h]
 rfl
theorem lnP_con {L:List (Nat × Nat)} (hwf:Wfc L) {a e:Nat} (h:a+2≤e) (he:e≤L.length) (hv:erV (L.getD a (0,0)).1 (L.getD a (0,0)).2=0) (v:Nat) :
   plD ((L.drop a).take (e-a)) []=some (2,v)↔(lnP L a e).2.2.1=2∧(lnP L a e).2.1=e-a∧(lnP L a e).2.2.2=v:=by
 have hP:lnP L a e=(a,lgV ((L.drop a).take (e-a))):=if_pos ⟨by omega,he,hv⟩
 rw [hP]
 have hl:=sub_len (L:=L) (a:=a) he
 have hb:=lgF_bst ((L.drop a).take (e-a)) [] 0 (1,1,0) (fun p hp=>(wfc_sub hwf a (e-a) p hp).1) (by decide) (fun _=>rfl)
 change Bst _ [] 0 (1,1,0) (lgV ((L.drop a).take (e-a))) at hb
 generalize (L.drop a).take (e-a)=M at *
 rcases hb with ⟨n,k,v',n1,n2,n3,n4,n5,n6⟩|⟨n1,n2⟩
 · rw [n5]
   simp only [Nat.zero_add]
   constructor
   · intro q
     have:n=M.length:=by
       apply Decidable.byContradiction
       intro hne
       have:=n6 M.length (by omega) (Nat.le_refl _)
       rw [List.take_of_length_le (Nat.le_refl _),q] at this
       cases this
     rw [this,List.take_of_length_le (Nat.le_refl _),q] at n4
     cases n4
     exact ⟨rfl,by omega,rfl⟩
   · rintro ⟨rfl,h2,rfl⟩
     rwa [h2,←hl,List.take_of_length_le (Nat.le_refl _)] at n4
 · rw [n2]
   constructor
   · intro q
     have:=n1 M.length (by omega) (Nat.le_refl _) (by omega)
     rw [List.take_of_length_le (Nat.le_refl _),q] at this
     cases this
   · rintro ⟨q,-,-⟩
     cases q
def DcP (M:List (Nat × Nat)) (x:Ending):Prop:=∃ (v:Nat) (ok:Bool),x=.returned (.tuple #[.int .u32 (v:Int),.bool ok])∧cnO M=if ok=true then some v else none
theorem dcon_any (ao:Option Addr) (cap a e:Nat) (L:List (Nat × Nat)) (w:World) (hL:L.length≤140737488355328) (he:e≤L.length) (ha32:a<4294967296) (he32:e<4294967296) (hwf:Wfc L) (hr:CRd w ao L w.heap.size) :
   Calls Tryz.prog 60 #[.slice ao L.length cap,.int .i64 (a:Int),.int .i64 (e:Int)] w fun x w'=>DcP ((L.drop a).take (e-a)) x∧Below w.heap.size w w':=by
 have HM:=dhid (dmay_any ao cap a e L w (by omega) he hwf hr)
 have HR:=dhid hr
 clear hr
 by_cases h1:e≤a
 · have g1:(e:Int)≤(a:Int):=by omega
   have HC:=dhid (show cnO ((L.drop a).take (e-a))=none by unfold cnO;rw [if_neg (by rw [sub_len he];omega)])
   go_enter Tryz.func60,Tryz.ntmps60
   go_wp2_with fail
   go_ret2
   exact ⟨⟨0,false,rfl,HC.out⟩,Below.refl _ _⟩
 have g1:¬ (e:Int)≤(a:Int):=by omega
 by_cases h2:16<e-a
 · have g2:(16:Int)<(e:Int)-(a:Int):=by omega
   have HC:=dhid (show cnO ((L.drop a).take (e-a))=none by unfold cnO;rw [if_neg (by rw [sub_len he];omega)])
   clear h1
   go_enter Tryz.func60,Tryz.ntmps60
   go_wp2_with fail
   go_ret2
   exact ⟨⟨0,false,rfl,HC.out⟩,Below.refl _ _⟩
 have g2:¬ (16:Int)<(e:Int)-(a:Int):=by omega
 cases hm:mayD L a e with
 | false=>
   rw [hm] at HM
   have HC:=dhid (show cnO ((L.drop a).take (e-a))=none from cnO_none (fun v q=>by
     have:=plR_valid _ _ _ (plD_word _ _ _ q)
     unfold mayD at hm
     rw [this] at hm
     cases hm))
   clear h1 h2
   go_enter Tryz.func60,Tryz.ntmps60
   go_wp2_with fail
   refine HM.out.mono ?_
   rintro en w2 ⟨rfl,hb2⟩
   go_wp2_with fail
   go_ret2
   exact ⟨⟨0,false,rfl,HC.out⟩,hb2⟩
 | true=>
   rw [hm] at HM
   have hlt:a<L.length:=by omega
   have hv0:erV (L.getD a (0,0)).1 (L.getD a (0,0)).2=0:=by
     have:=mayD_step L a e (by omega) hlt
     rw [hm] at this
     have:=this.symm
     rw [Bool.and_eq_true] at this
     exact of_decide_eq_true this.1
   by_cases h3:e=a+1
   · subst h3
     obtain ⟨b,off,rfl,hbl,hc⟩:=HR.out (by omega)
     have Y0:=dhid (fun W (hW:Below w.heap.size w W)=>(hW.cell (p:=⟨b,off+a*2,none⟩) hbl).trans (hc a hlt).1)
     have Y1:=dhid (fun W (hW:Below w.heap.size w W)=>(hW.cell (p:=⟨b,off+a*2+1,none⟩) hbl).trans (hc a hlt).2)
     have HC:=dhid (show cnO ((L.drop a).take (a+1-a))=if decide ((L.getD a (0,0)).1=8)=true then some (L.getD a (0,0)).2 else none by
       rw [show a+1-a=1 by omega,sub_one hlt]
       by_cases h8:(L.getD a (0,0)).1=8
       · rw [decide_eq_true h8,if_pos rfl]
         exact cnO_some.2 ⟨by simp,by simp,cnD_one.2 ⟨hv0,h8,rfl⟩⟩
       · rw [decide_eq_false h8,if_neg (by decide)]
         exact cnO_none (fun v q=>h8 (cnD_one.1 q).2.1))
     generalize L.getD a (0,0)=pp at Y0 Y1 HC
     obtain ⟨op,arg⟩:=pp
     simp only at Y0 Y1 HC
     have haI:(a:Int)<(L.length:Int):=by omega
     have g3:(((a+1:Nat):Int)-(a:Int) == 1)=true:=by rw [beq_iff_eq];omega
     have g4:((a+1:Nat):Int)-(a:Int)=1:=by omega
     clear h1 h2 hc hv0 hwf
     go_enter Tryz.func60,Tryz.ntmps60
     go_wp2_with fail
     refine HM.out.mono ?_
     rintro en w2 ⟨rfl,hb2⟩
     have y0:=Y0.out w2 hb2
     have y1:=Y1.out w2 hb2
     have y0d:=Y0.out w2.drew ⟨hb2.os,hb2.tape,hb2.output,hb2.size,hb2.block⟩
     have y1d:=Y1.out w2.drew ⟨hb2.os,hb2.tape,hb2.output,hb2.size,hb2.block⟩
     go_wp2_with fail
     go_quiet (fail)
     go_wp2_with fail
     go_ret2
     refine ⟨⟨arg,((op:Int) == 8),rfl,?_⟩,⟨hb2.os,hb2.tape,hb2.output,hb2.size,hb2.block⟩⟩
     rw [show ((op:Int) == 8)=decide (op=8) from beqN op 8]
     exact HC.out
   · have hlE:lnE L a e=0:=(if_pos ⟨by omega,he⟩).trans hv0
     have HLN:=dhid (fun W (hW:Below w.heap.size w W)=>rLongest_any ao cap a e L W hL ha32 he32 hwf ((HR.out.below hW).mono hW.size))
     rw [hlE] at HLN
     have HC0:=fun v=>lnP_con hwf (a:=a) (e:=e) (by omega) he hv0 v
     have hsl:=sub_len (L:=L) (a:=a) he
     have HC:=dhid (show cnO ((L.drop a).take (e-a))=if (decide ((lnP L a e).2.2.1=2) && decide ((lnP L a e).2.1=e-a))=true then some (lnP L a e).2.2.2 else none by
       by_cases hq:(lnP L a e).2.2.1=2∧(lnP L a e).2.1=e-a
       · rw [if_pos (show (decide ((lnP L a e).2.2.1=2) && decide ((lnP L a e).2.1=e-a))=true by rw [decide_eq_true hq.1,decide_eq_true hq.2];rfl)]
         exact cnO_some.2 ⟨by omega,by omega,(HC0 _).2 ⟨hq.1,hq.2,rfl⟩⟩
       · rw [if_neg (by simpa using hq)]
         exact cnO_none (fun v q=>hq ⟨((HC0 v).1 q).1,((HC0 v).1 q).2.1⟩))
     have HP1:=dhid (show wrap64 ((lnP L a e).2.1:Int)=((lnP L a e).2.1:Int) by have:=(lnP_le hwf a e).1;unfold wrap64;omega)
     generalize lnP L a e=q at HLN HC HP1
     obtain ⟨p0,p1,p2,p3⟩:=q
     simp only [pcA] at HLN HC HP1
     have g3:((e:Int)-(a:Int) == 1)=false:=by rw [beq_eq_false_iff_ne];omega
     have g4:¬ (e:Int)-(a:Int)=1:=by omega
     have v1:IntKind.u32.wrap (a:Int)=(a:Int):=by rw [IntKind.wrap_u32];omega
     have v2:IntKind.u32.wrap (e:Int)=(e:Int):=by rw [IntKind.wrap_u32];omega
     clear h1 h2 hv0 hwf HC0 hsl hlE
     by_cases q2:p2=2
     · subst q2
       by_cases q1:p1=e-a
       · have g5:((p1:Int) == (e:Int)-(a:Int))=true:=by rw [beq_iff_eq];omega
         have g6:(p1:Int)=(e:Int)-(a:Int):=by omega
         have HD:=dhid (show cnO ((L.drop a).take (e-a))=some p3 by rw [HC.out,decide_eq_true q1];rfl)
         clear HC q1 g6
         go_enter Tryz.func60,Tryz.ntmps60
         go_wp2_with fail
         refine HM.out.mono ?_
         rintro en w2 ⟨rfl,hb2⟩
         have HB2:=dhid hb2
         go_wp2_with fail
         refine (HLN.out _ HB2.out).mono ?_
         rintro en w3 ⟨rfl,hb3⟩
         have HB3:=dhid (HB2.out.trans (hb3.mono HB2.out.size))
         go_wp2_with fail
         go_quiet (fail)
         go_wp2_with fail
         go_ret2
         exact ⟨⟨p3,(wrap64 (p1:Int) == (e:Int)-(a:Int)),rfl,by rw [HD.out,HP1.out,g5];rfl⟩,below_drewN (HB3.out.alloc HB3.out.size _) _⟩
       · have g5:((p1:Int) == (e:Int)-(a:Int))=false:=by rw [beq_eq_false_iff_ne];omega
         have HD:=dhid (show cnO ((L.drop a).take (e-a))=none by rw [HC.out,decide_eq_false q1];rfl)
         clear HC q1
         go_enter Tryz.func60,Tryz.ntmps60
         go_wp2_with fail
         refine HM.out.mono ?_
         rintro en w2 ⟨rfl,hb2⟩
         have HB2:=dhid hb2
         go_wp2_with fail
         refine (HLN.out _ HB2.out).mono ?_
         rintro en w3 ⟨rfl,hb3⟩
         have HB3:=dhid (HB2.out.trans (hb3.mono HB2.out.size))
         go_wp2_with fail
         go_quiet (fail)
         go_wp2_with fail
         go_ret2
         exact ⟨⟨p3,(wrap64 (p1:Int) == (e:Int)-(a:Int)),rfl,by rw [HD.out,HP1.out,g5];rfl⟩,below_drewN (HB3.out.alloc HB3.out.size _) _⟩
     · have g5:((p2:Int) == 2)=false:=by rw [beq_eq_false_iff_ne];omega
       have HD:=dhid (show cnO ((L.drop a).take (e-a))=none by rw [HC.out,decide_eq_false q2];rfl)
       clear HC q2
       go_enter Tryz.func60,Tryz.ntmps60
       go_wp2_with fail
       refine HM.out.mono ?_
       rintro en w2 ⟨rfl,hb2⟩
       have HB2:=dhid hb2
       go_wp2_with fail
       refine (HLN.out _ HB2.out).mono ?_
       rintro en w3 ⟨rfl,hb3⟩
       have HB3:=dhid (HB2.out.trans (hb3.mono HB2.out.size))
       go_wp2_with fail
       go_quiet (fail)
       go_wp2_with fail
       go_ret2
       exact ⟨⟨p3,false,rfl,by rw [HD.out];rfl⟩,below_drewN (HB3.out.alloc HB3.out.size _) _⟩
theorem dlies_any (ao:Option Addr) (cap n a e:Nat) (w:World) (hn:n≤9223372036854775807) (_ha:a<4294967296) (he:e<4294967296) :
   Calls Tryz.prog 20 #[.slice ao n cap,.int .u32 (a:Int),.int .u32 (e:Int)] w fun x w'=>x=.returned (.bool (liB n a e))∧w'=w:=by
 by_cases h1:a<e
 · have d1:decide ((a:Int)<(e:Int))=true:=decide_eq_true (by omega)
   have d1':(a:Int)<(e:Int):=by omega
   by_cases h2:e≤n
   · have d2:decide ((e:Int)≤(n:Int))=true:=decide_eq_true (by omega)
     have d2':(e:Int)≤(n:Int):=by omega
     rw [show liB n a e=true from decide_eq_true ⟨h1,h2⟩]
     go_enter Tryz.func20,Tryz.ntmps20
     go_wp2
     go_ret
     exact ⟨rfl,rfl⟩
   · have d2:decide ((e:Int)≤(n:Int))=false:=decide_eq_false (by omega)
     have d2':¬ (e:Int)≤(n:Int):=by omega
     rw [show liB n a e=false from decide_eq_false (fun h=>h2 h.2)]
     go_enter Tryz.func20,Tryz.ntmps20
     go_wp2
     go_ret
     exact ⟨rfl,rfl⟩
 · have d1:decide ((a:Int)<(e:Int))=false:=decide_eq_false (by omega)
   have d1':¬ (a:Int)<(e:Int):=by omega
   rw [show liB n a e=false from decide_eq_false (fun h=>h1 h.1)]
   go_enter Tryz.func20,Tryz.ntmps20
   go_wp2
   go_ret
   exact ⟨rfl,rfl⟩
def FdP (a k er:Nat) (q:Nat × Nat × Nat × Nat) (x:Ending):Prop:=∃ (f:Fz) (ok:Bool),x=.returned (.tuple #[.agg (fzA f),.bool ok])∧ok=(decide (er=0) && decide (2≤q.2.1) && decide ((if q.2.2.1=4 then 4 else if q.2.2.1=3 then 3 else 2)=k))∧(ok=true→f=⟨a,q.2.1,k,0,q.2.2.2,0⟩)
theorem dfold_any (ao:Option Addr) (cap a e k:Nat) (L:List (Nat × Nat)) (w:World) (hL:L.length≤140737488355328) (ha32:a<4294967296) (he32:e<4294967296) (hwf:Wfc L) (hr:CRd w ao L w.heap.size) :
   Calls Tryz.prog 21 #[.slice ao L.length cap,.int .i64 (a:Int),.int .i64 (e:Int),.int .u8 (k:Int)] w fun x w'=>FdP a k (lnE L a e) (lnP L a e) x∧Below w.heap.size w w':=by
 have HLN:=dhid (fun W (hW:Below w.heap.size w W)=>rLongest_any ao cap a e L W hL ha32 he32 hwf ((hr.below hW).mono hW.size))
 generalize lnP L a e=q at HLN ⊢
 generalize lnE L a e=er at HLN ⊢
 obtain ⟨p0,p1,p2,p3⟩:=q
 simp only [pcA] at HLN
 have v1:IntKind.u32.wrap (a:Int)=(a:Int):=by rw [IntKind.wrap_u32];omega
 have v2:IntKind.u32.wrap (e:Int)=(e:Int):=by rw [IntKind.wrap_u32];omega
 clear hr hwf hL
 by_cases h1:er=0
 · subst h1
   by_cases h2:2≤p1
   · have g2:¬ (p1:Int)<2:=by omega
     by_cases h3:p2=3
     · subst h3
       go_enter Tryz.func21,Tryz.ntmps21
       go_wp2_with fail
       refine (HLN.out _ (bel1 w _)).mono ?_
       rintro en w3 ⟨rfl,hb3⟩
       have o3:=dhid ((hb3.block w.heap.size (by simp)).trans (heap_alloc_new w (.cells #[.int .u32 0,.int .u32 0,.int .u8 0,.int .u8 0,.int .u32 0,.int .u32 0] 28)))
       have B3:=dhid ((bel1 w (.cells #[.int .u32 0,.int .u32 0,.int .u8 0,.int .u8 0,.int .u32 0,.int .u32 0] 28)).trans (hb3.mono (by simp)))
       have O4:=dhid (fun o=>(Below.heap_alloc w3 o w.heap.size (Array.getElem?_eq_some_iff.1 o3.out).1).trans o3.out)
       have B4:=dhid (fun o=>B3.out.alloc B3.out.size o)
       go_wp2_with (refine wpList_storeF rfl _ _ rfl w.heap.size fz0 ⟨a,p1,k,0,p3,0⟩ rfl rfl (O4.out _) ?_)
       exact bodyPost_ret (resFzB (p:=8) (u:=9) (by kernel_rfl) _ _ w.heap.size _ rfl (setRow_heap _ _ _ _ _ _ (O4.out _)) _ rfl rfl) rfl ⟨⟨⟨a,p1,k,0,p3,0⟩,((3:Int) == (k:Int)),rfl,by rw [decide_eq_true h2];simpa using beqN 3 k,fun _=>rfl⟩,(B4.out _).trans ((KpSetRow (S:=fun i=>i=w.heap.size) _ _ _ rfl).below (B4.out _).size (fun i e=>by omega))⟩
     · have g3:((p2:Int) == 3)=false:=by rw [beq_eq_false_iff_ne];omega
       by_cases h4:p2=4
       · subst h4
         go_enter Tryz.func21,Tryz.ntmps21
         go_wp2_with fail
         refine (HLN.out _ (bel1 w _)).mono ?_
         rintro en w3 ⟨rfl,hb3⟩
         have o3:=dhid ((hb3.block w.heap.size (by simp)).trans (heap_alloc_new w (.cells #[.int .u32 0,.int .u32 0,.int .u8 0,.int .u8 0,.int .u32 0,.int .u32 0] 28)))
         have B3:=dhid ((bel1 w (.cells #[.int .u32 0,.int .u32 0,.int .u8 0,.int .u8 0,.int .u32 0,.int .u32 0] 28)).trans (hb3.mono (by simp)))
         have O4:=dhid (fun o=>(Below.heap_alloc w3 o w.heap.size (Array.getElem?_eq_some_iff.1 o3.out).1).trans o3.out)
         have B4:=dhid (fun o=>B3.out.alloc B3.out.size o)
         go_wp2_with (refine wpList_storeF rfl _ _ rfl w.heap.size fz0 ⟨a,p1,k,0,p3,0⟩ rfl rfl (O4.out _) ?_)
         exact bodyPost_ret (resFzB (p:=8) (u:=9) (by kernel_rfl) _ _ w.heap.size _ rfl (setRow_heap _ _ _ _ _ _ (O4.out _)) _ rfl rfl) rfl ⟨⟨⟨a,p1,k,0,p3,0⟩,((4:Int) == (k:Int)),rfl,by rw [decide_eq_true h2];simpa using beqN 4 k,fun _=>rfl⟩,(B4.out _).trans ((KpSetRow (S:=fun i=>i=w.heap.size) _ _ _ rfl).below (B4.out _).size (fun i e=>by omega))⟩
       · have g4:((p2:Int) == 4)=false:=by rw [beq_eq_false_iff_ne];omega
         have HH:=dhid (And.intro h3 h4)
         clear h3 h4
         go_enter Tryz.func21,Tryz.ntmps21
         go_wp2_with fail
         refine (HLN.out _ (bel1 w _)).mono ?_
         rintro en w3 ⟨rfl,hb3⟩
         have o3:=dhid ((hb3.block w.heap.size (by simp)).trans (heap_alloc_new w (.cells #[.int .u32 0,.int .u32 0,.int .u8 0,.int .u8 0,.int .u32 0,.int .u32 0] 28)))
         have B3:=dhid ((bel1 w (.cells #[.int .u32 0,.int .u32 0,.int .u8 0,.int .u8 0,.int .u32 0,.int .u32 0] 28)).trans (hb3.mono (by simp)))
         have O4:=dhid (fun o=>(Below.heap_alloc w3 o w.heap.size (Array.getElem?_eq_some_iff.1 o3.out).1).trans o3.out)
         have B4:=dhid (fun o=>B3.out.alloc B3.out.size o)
         go_wp2_with (refine wpList_storeF rfl _ _ rfl w.heap.size fz0 ⟨a,p1,k,0,p3,0⟩ rfl rfl (O4.out _) ?_)
         exact bodyPost_ret (resFzB (p:=8) (u:=9) (by kernel_rfl) _ _ w.heap.size _ rfl (setRow_heap _ _ _ _ _ _ (O4.out _)) _ rfl rfl) rfl ⟨⟨⟨a,p1,k,0,p3,0⟩,((2:Int) == (k:Int)),rfl,by rw [decide_eq_true h2,if_neg HH.out.2,if_neg HH.out.1];simpa using beqN 2 k,fun _=>rfl⟩,(B4.out _).trans ((KpSetRow (S:=fun i=>i=w.heap.size) _ _ _ rfl).below (B4.out _).size (fun i e=>by omega))⟩
   · have g2:(p1:Int)<2:=by omega
     go_enter Tryz.func21,Tryz.ntmps21
     go_wp2_with fail
     refine (HLN.out _ (bel1 w _)).mono ?_
     rintro en w3 ⟨rfl,hb3⟩
     have o3:=dhid ((hb3.block w.heap.size (by simp)).trans (heap_alloc_new w (.cells #[.int .u32 0,.int .u32 0,.int .u8 0,.int .u8 0,.int .u32 0,.int .u32 0] 28)))
     have B3:=dhid ((bel1 w (.cells #[.int .u32 0,.int .u32 0,.int .u8 0,.int .u8 0,.int .u32 0,.int .u32 0] 28)).trans (hb3.mono (by simp)))
     have O4:=dhid (fun o=>(Below.heap_alloc w3 o w.heap.size (Array.getElem?_eq_some_iff.1 o3.out).1).trans o3.out)
     have B4:=dhid (fun o=>B3.out.alloc B3.out.size o)
     go_wp2_with (refine wpList_storeF rfl _ _ rfl w.heap.size fz0 fz0 rfl rfl (O4.out _) ?_)
     exact bodyPost_ret (resFzB (p:=8) (u:=9) (by kernel_rfl) _ _ w.heap.size _ rfl (setRow_heap _ _ _ _ _ _ (O4.out _)) _ rfl rfl) rfl ⟨⟨fz0,false,rfl,by rw [decide_eq_false h2,Bool.and_false,Bool.false_and],fun h=>by cases h⟩,(B4.out _).trans ((KpSetRow (S:=fun i=>i=w.heap.size) _ _ _ rfl).below (B4.out _).size (fun i e=>by omega))⟩
 · have g1:((er:Int) != 0)=true:=by simp;omega
   have g1':¬ (er:Int)=0:=by omega
   go_enter Tryz.func21,Tryz.ntmps21
   go_wp2_with fail
   refine (HLN.out _ (bel1 w _)).mono ?_
   rintro en w3 ⟨rfl,hb3⟩
   have o3:=dhid ((hb3.block w.heap.size (by simp)).trans (heap_alloc_new w (.cells #[.int .u32 0,.int .u32 0,.int .u8 0,.int .u8 0,.int .u32 0,.int .u32 0] 28)))
   have B3:=dhid ((bel1 w (.cells #[.int .u32 0,.int .u32 0,.int .u8 0,.int .u8 0,.int .u32 0,.int .u32 0] 28)).trans (hb3.mono (by simp)))
   have O4:=dhid (fun o=>(Below.heap_alloc w3 o w.heap.size (Array.getElem?_eq_some_iff.1 o3.out).1).trans o3.out)
   have B4:=dhid (fun o=>B3.out.alloc B3.out.size o)
   go_wp2_with (refine wpList_storeF rfl _ _ rfl w.heap.size fz0 fz0 rfl rfl (O4.out _) ?_)
   exact bodyPost_ret (resFzB (p:=8) (u:=9) (by kernel_rfl) _ _ w.heap.size _ rfl (setRow_heap _ _ _ _ _ _ (O4.out _)) _ rfl rfl) rfl ⟨⟨fz0,false,rfl,by rw [decide_eq_false h1,Bool.false_and,Bool.false_and],fun h=>by cases h⟩,(B4.out _).trans ((KpSetRow (S:=fun i=>i=w.heap.size) _ _ _ rfl).below (B4.out _).size (fun i e=>by omega))⟩
theorem row_cl {M:List (Nat × Nat)} {lk:Lk} {c v:Nat} {q:Nat × Nat} (hc:cnV M=(c,v)) (h0:0<c) (hq:M[c]?=some q) (he:erV q.1 q.2=0) (hk:(lk q ⟨0,c+1,0,0,v,0⟩).2=true):shRow [ptConst layA,ptSingle lk] M=(lk q ⟨0,c+1,0,0,v,0⟩).1:=by
 have hl:=(List.getElem?_eq_some_iff.1 hq).1
 have hd:M.drop c=q :: M.drop (c+1):=by rw [List.drop_eq_getElem_cons hl,(List.getElem?_eq_some_iff.1 hq).2]
 have h1:ptConst layA (M.drop fz0.len) fz0=(⟨0,c,0,0,v,0⟩,true):=by
   show ptConst layA (M.drop 0) fz0=_
   rw [List.drop_zero]
   unfold ptConst
   rw [hc,decide_eq_true h0]
   simp [layA,fz0]
 have h2:ptSingle lk (M.drop c) ⟨0,c,0,0,v,0⟩=lk q ⟨0,c+1,0,0,v,0⟩:=by
   rw [hd]
   exact if_pos he
 unfold shRow rwF
 rw [h1,if_pos rfl]
 unfold rwF
 rw [show (⟨0,c,0,0,v,0⟩:Fz).len=c from rfl,h2,if_pos hk]
 rfl
theorem row_cl_back {M:List (Nat × Nat)} {lk:Lk} (h:¬ (shRow [ptConst layA,ptSingle lk] M).len=0):∃ c v q,cnV M=(c,v)∧0<c∧M[c]?=some q∧erV q.1 q.2=0∧(lk q ⟨0,c+1,0,0,v,0⟩).2=true:=by
 obtain ⟨c,v,hcv⟩:∃ c v:Nat,cnV M=(c,v):=⟨_,_,rfl⟩
 by_cases h0:0<c
 · have h1:ptConst layA (M.drop fz0.len) fz0=(⟨0,c,0,0,v,0⟩,true):=by
     show ptConst layA (M.drop 0) fz0=_
     rw [List.drop_zero]
     unfold ptConst
     rw [hcv,decide_eq_true h0]
     simp [layA,fz0]
   unfold shRow rwF at h
   rw [h1,if_pos rfl] at h
   unfold rwF at h
   rw [show (⟨0,c,0,0,v,0⟩:Fz).len=c from rfl] at h
   cases hd:M.drop c with
   |nil=>rw [hd] at h;exact absurd rfl h
   | cons q r=>
     have hl:c<M.length:=by
       apply Decidable.byContradiction
       intro hn
       rw [List.drop_eq_nil_of_le (by omega)] at hd
       cases hd
     have hq:M[c]?=some q:=by
       rw [List.drop_eq_getElem_cons hl] at hd
       injection hd with h1 _
       rw [List.getElem?_eq_getElem hl,h1]
     rw [hd] at h
     by_cases he:erV q.1 q.2=0
     · rw [show ptSingle lk (q :: r) ⟨0,c,0,0,v,0⟩=lk q ⟨0,c+1,0,0,v,0⟩ from if_pos he] at h
       by_cases hk:(lk q ⟨0,c+1,0,0,v,0⟩).2=true
       · exact ⟨c,v,q,hcv,h0,hq,he,hk⟩
       · rw [if_neg hk] at h;exact absurd rfl h
     · rw [show ptSingle lk (q :: r) ⟨0,c,0,0,v,0⟩=(⟨0,c,0,0,v,0⟩,false) from if_neg he,if_neg (by simp)] at h
       exact absurd rfl h
 · unfold shRow rwF at h
   have h1:(ptConst layA (M.drop fz0.len) fz0).2=false:=by
     show (ptConst layA (M.drop 0) fz0).2=_
     rw [List.drop_zero]
     unfold ptConst
     rw [hcv]
     exact decide_eq_false h0
   rw [if_neg (by rw [h1];decide)] at h
   exact absurd rfl h
def lkD:Nat→Lk
 |5=>lkBin
 |6=>lkCmp
 |7=>lkArg
 |8=>lkOnly 5
 |9=>lkLoad
 |_=>lkStore
def dsC (k at_ n:Nat) (q:Nat × Nat) (v:Nat):Option Fz:=
 if k=5 then (if dBin q.1=true then some ⟨at_,n,5,q.1,v,0⟩ else none)
 else if k=6 then (if dBra q.1=true then some ⟨at_,n,6,q.1,v,q.2⟩ else none)
 else if k=7 then (if q.1=12 then some ⟨at_,n,7,0,v,q.2⟩ else none)
 else if k=8 then (if q.1=5 then some ⟨at_,n,8,0,v,0⟩ else none)
 else if k=9 then (if dLoa q.1=true then some ⟨at_,n,9,q.1,v,0⟩ else none)
 else (if dSto q.1=true then some ⟨at_,n,10,q.1,v,0⟩ else none)
theorem dsC_eq {k:Nat} (h1:5≤k) (h2:k≤10) (at_ n:Nat) (q:Nat × Nat) (v:Nat) (hq:q.1<256) :
   dsC k at_ n q v=if (lkD k q ⟨0,n,0,0,v,0⟩).2=true then some { (lkD k q ⟨0,n,0,0,v,0⟩).1 with at_:=at_,kind:=k } else none:=by
 have hc:k=5∨k=6∨k=7∨k=8∨k=9∨k=10:=by omega
 rcases hc with rfl|rfl|rfl|rfl|rfl|rfl
 · show (if dBin q.1=true then _ else none)=_
   rw [dBin_eq q.1 hq];rfl
 · show (if dBra q.1=true then _ else none)=_
   rw [dBra_eq q.1 hq];rfl
 · show (if q.1=12 then _ else none)=if decide (q.1=12)=true then _ else none
   by_cases h:q.1=12 <;> simp [h,lkD,lkArg]
 · show (if q.1=5 then _ else none)=if decide (q.1=5)=true then _ else none
   by_cases h:q.1=5 <;> simp [h,lkD,lkOnly]
 · show (if dLoa q.1=true then _ else none)=_
   rw [dLoa_eq q.1 hq];rfl
 · show (if dSto q.1=true then _ else none)=_
   rw [dSto_eq q.1 hq];rfl
theorem lkD_stp {k:Nat} (h1:5≤k) (h2:k≤10) (q:Nat × Nat) (f:Fz) (hq:q.1<256) (h:(lkD k q f).2=true):stpB q.1=true:=by
 have hc:k=5∨k=6∨k=7∨k=8∨k=9∨k=10:=by omega
 rcases hc with rfl|rfl|rfl|rfl|rfl|rfl
 · have h:(decide (39≤q.1) && decide (q.1≤57) && decide (opTa q.1=2))=true:=h
   simp only [Bool.and_eq_true,decide_eq_true_eq] at h
   exact stp_bin q.1 hq h.1.1 h.1.2 h.2
 · have h:(decide (13≤q.1) && decide (q.1≤28))=true:=h
   simp only [Bool.and_eq_true,decide_eq_true_eq] at h
   exact stp_cmp q.1 hq h.1 h.2
 · have h:decide (q.1=12)=true:=h
   rw [of_decide_eq_true h];exact stp_5.2
 · have h:decide (q.1=5)=true:=h
   rw [of_decide_eq_true h];exact stp_5.1
 · have h:(decide (29≤q.1) && decide (q.1≤31))=true:=h
   simp only [Bool.and_eq_true,decide_eq_true_eq] at h
   exact stp_ls q.1 hq h.1 (by omega)
 · have h:(decide (32≤q.1) && decide (q.1≤34))=true:=h
   simp only [Bool.and_eq_true,decide_eq_true_eq] at h
   exact stp_ls q.1 hq (by omega) h.2
theorem lkD_len {k:Nat} (h1:5≤k) (h2:k≤10) (q:Nat × Nat) (f:Fz):(lkD k q f).1.len=f.len:=by
 have hc:k=5∨k=6∨k=7∨k=8∨k=9∨k=10:=by omega
 rcases hc with rfl|rfl|rfl|rfl|rfl|rfl <;> rfl
theorem shK_con {k:Nat} (h1:5≤k) (h2:k≤10):shK k=shRow [ptConst layA,ptSingle (lkD k)]:=by
 have hc:k=5∨k=6∨k=7∨k=8∨k=9∨k=10:=by omega
 rcases hc with rfl|rfl|rfl|rfl|rfl|rfl <;> rfl
theorem con_A {M:List (Nat × Nat)} (hwf:Wfc M) {k at_ n v:Nat} {q:Nat × Nat} {f:Fz} (h1:5≤k) (h2:k≤10) (hc:cnO (M.take (n-1))=some v) (hn:2≤n) (hq:M[n-1]?=some q) (he:erV q.1 q.2=0) (hd:dsC k at_ n q v=some f):fkV M at_ k=(f,true):=by
 have hl:=(List.getElem?_eq_some_iff.1 hq).1
 have hq2:q.1<256:=(hwf q (List.mem_of_getElem? hq)).1
 rw [dsC_eq h1 h2 at_ n q v hq2] at hd
 obtain ⟨c1,c2,c3⟩:=cnO_some.1 hc
 have hm:(M.take (n-1)).length=n-1:=by rw [List.length_take];omega
 by_cases hk:(lkD k q ⟨0,n,0,0,v,0⟩).2=true
 · rw [if_pos hk] at hd
   cases hd
   have hcv:=cnV_fit hwf (by omega:1≤n-1) (by omega) c3 hq (lkD_stp h1 h2 q _ hq2 hk)
   have hr:=row_cl (lk:=lkD k) hcv (by omega) hq he (by rw [show n-1+1=n by omega];exact hk)
   rw [show n-1+1=n by omega] at hr
   unfold fkV fitV
   rw [shK_con h1 h2,hr,if_neg (by rw [lkD_len h1 h2];simp only;omega)]
 · rw [if_neg hk] at hd;cases hd
theorem con_B {M:List (Nat × Nat)} (hwf:Wfc M) {k at_:Nat} {f:Fz} (h1:5≤k) (h2:k≤10) (h:fkV M at_ k=(f,true)) :
   ∃ v q,2≤f.len∧f.len≤M.length∧f.len≤30∧cnO (M.take (f.len-1))=some v∧M[f.len-1]?=some q∧erV q.1 q.2=0∧dsC k at_ f.len q v=some f:=by
 unfold fkV fitV at h
 rw [shK_con h1 h2] at h
 by_cases h0:(shRow [ptConst layA,ptSingle (lkD k)] M).len=0
 · rw [if_pos h0] at h;cases h
 · rw [if_neg h0] at h
   obtain ⟨c,v,q,hcv,hc0,hq,he,hk⟩:=row_cl_back h0
   have hl:=(List.getElem?_eq_some_iff.1 hq).1
   have hq2:q.1<256:=(hwf q (List.mem_of_getElem? hq)).1
   have hr:=row_cl hcv hc0 hq he hk
   have hi:=cnV_is hwf (by rw [hcv];exact hc0)
   rw [hcv] at hi
   obtain ⟨i1,i2,i3⟩:=hi
   rw [hr] at h
   have hf:f={ (lkD k q ⟨0,c+1,0,0,v,0⟩).1 with at_:=at_,kind:=k }:=by injection h with a _;exact a.symm
   have hfl:f.len=c+1:=by rw [hf];exact lkD_len h1 h2 q _
   have hm:(M.take c).length=c:=by rw [List.length_take];simp only at i1;omega
   rw [hfl,show c+1-1=c by omega]
   refine ⟨v,q,by omega,by omega,by simp only at i2;omega,cnO_some.2 ⟨by omega,by simp only at i2;omega,i3⟩,hq,he,?_⟩
   rw [dsC_eq h1 h2 at_ (c+1) q v hq2,if_pos hk,hf]
theorem rw_s {M:List (Nat × Nat)} {lk:Lk} {P:List Pt} {f:Fz} {q:Nat × Nat} (hq:M[f.len]?=some q) (he:erV q.1 q.2=0) (hk:(lk q { f with len:=f.len+1 }).2=true):rwF M (ptSingle lk :: P) f=rwF M P (lk q { f with len:=f.len+1 }).1:=by
 have hl:=(List.getElem?_eq_some_iff.1 hq).1
 have hd:M.drop f.len=q :: M.drop (f.len+1):=by rw [List.drop_eq_getElem_cons hl,(List.getElem?_eq_some_iff.1 hq).2]
 have h2:ptSingle lk (M.drop f.len) f=lk q { f with len:=f.len+1 }:=by rw [hd];exact if_pos he
 show (if (ptSingle lk (M.drop f.len) f).2=true then rwF M P (ptSingle lk (M.drop f.len) f).1 else fz0)=_
 rw [h2,if_pos hk]
theorem rw_s_back {M:List (Nat × Nat)} {lk:Lk} {P:List Pt} {f:Fz} (h:¬ (rwF M (ptSingle lk :: P) f).len=0):∃ q,M[f.len]?=some q∧erV q.1 q.2=0∧(lk q { f with len:=f.len+1 }).2=true:=by
 change ¬ (if (ptSingle lk (M.drop f.len) f).2=true then rwF M P (ptSingle lk (M.drop f.len) f).1 else fz0).len=0 at h
 by_cases hl:f.len<M.length
 · have hd:M.drop f.len=M[f.len] :: M.drop (f.len+1):=List.drop_eq_getElem_cons hl
   refine ⟨M[f.len],List.getElem?_eq_getElem hl,?_⟩
   generalize M[f.len]=q at hd
   by_cases he:erV q.1 q.2=0
   · refine ⟨he,Decidable.byContradiction fun hk=>?_⟩
     rw [hd,show ptSingle lk (q :: M.drop (f.len+1)) f=lk q { f with len:=f.len+1 } from if_pos he,if_neg hk] at h
     exact h rfl
   · rw [hd,show ptSingle lk (q :: M.drop (f.len+1)) f=(f,false) from if_neg he,if_neg (by simp)] at h
     exact absurd rfl h
 · rw [List.drop_eq_nil_of_le (by omega),show ptSingle lk [] f=(f,false) from rfl,if_neg (by simp)] at h
   exact absurd rfl h
theorem rw_c {M:List (Nat × Nat)} {lay:Fz→Nat→Fz} {P:List Pt} {f:Fz} {c v:Nat} (hc:cnV (M.drop f.len)=(c,v)) (h0:0<c):rwF M (ptConst lay :: P) f=rwF M P (lay { f with len:=f.len+c } v):=by
 have h1:ptConst lay (M.drop f.len) f=(lay { f with len:=f.len+c } v,true):=by
   unfold ptConst
   rw [hc,decide_eq_true h0]
 show (if (ptConst lay (M.drop f.len) f).2=true then rwF M P (ptConst lay (M.drop f.len) f).1 else fz0)=_
 rw [h1,if_pos rfl]
theorem rw_c_back {M:List (Nat × Nat)} {lay:Fz→Nat→Fz} {P:List Pt} {f:Fz} (h:¬ (rwF M (ptConst lay :: P) f).len=0):0<(cnV (M.drop f.len)).1:=by
 change ¬ (if (ptConst lay (M.drop f.len) f).2=true then rwF M P (ptConst lay (M.drop f.len) f).1 else fz0).len=0 at h
 apply Decidable.byContradiction
 intro h0
 rw [if_neg (show ¬ (ptConst lay (M.drop f.len) f).2=true by show ¬ decide (0<(cnV (M.drop f.len)).1)=true;rw [decide_eq_false h0];decide)] at h
 exact h rfl
def dsL (k at_:Nat) (q0 q1 q2:Nat × Nat):Option Fz:=
 if ¬ q0.1=9 then none
 else if k=11 then (if q1.1=12 then some ⟨at_,2,11,0,q0.2,q1.2⟩ else none)
 else if k=12 then (if dLoa q1.1=true then some ⟨at_,2,12,q1.1,q0.2,0⟩ else none)
 else if k=13 then (if q1.1=31∧dBin q2.1=true then some ⟨at_,3,13,q2.1,q0.2,0⟩ else none)
 else (if q1.1=31∧dBra q2.1=true then some ⟨at_,3,14,q2.1,q0.2,q2.2⟩ else none)
theorem loc2_A {M:List (Nat × Nat)} {k at_:Nat} {q0 q1:Nat × Nat} {f:Fz} (hk:k=11∨k=12) (h0:M[0]?=some q0) (h1:M[1]?=some q1) (e0:erV q0.1 q0.2=0) (e1:erV q1.1 q1.2=0) (hq1:q1.1<256) (q2:Nat × Nat) (hd:dsL k at_ q0 q1 q2=some f):fkV M at_ k=(f,true):=by
 unfold dsL at hd
 by_cases h9:q0.1=9
 · rw [if_neg (fun e=>e h9)] at hd
   have s0:∀ P,rwF M (ptSingle lkLocal :: P) fz0=rwF M P ⟨0,1,0,0,q0.2,0⟩:=fun P=>rw_s (f:=fz0) h0 e0 (show decide (q0.1=9)=true from decide_eq_true h9)
   rcases hk with rfl|rfl
   · rw [if_pos rfl] at hd
     by_cases h:q1.1=12
     · rw [if_pos h] at hd
       cases hd
       have s1:=rw_s (M:=M) (lk:=lkArg) (P:=[]) (f:=⟨0,1,0,0,q0.2,0⟩) h1 e1 (show decide (q1.1=12)=true from decide_eq_true h)
       have:shK 11 M=⟨0,2,0,0,q0.2,q1.2⟩:=(s0 _).trans s1
       unfold fkV fitV
       rw [this]
       rfl
     · rw [if_neg h] at hd;cases hd
   · rw [if_neg (by decide),if_pos rfl] at hd
     by_cases h:dLoa q1.1=true
     · rw [if_pos h] at hd
       cases hd
       rw [dLoa_eq q1.1 hq1] at h
       have s1:=rw_s (M:=M) (lk:=lkLoad) (P:=[]) (f:=⟨0,1,0,0,q0.2,0⟩) h1 e1 h
       have:shK 12 M=⟨0,2,0,q1.1,q0.2,0⟩:=(s0 _).trans s1
       unfold fkV fitV
       rw [this]
       rfl
     · rw [if_neg h] at hd;cases hd
 · rw [if_pos h9] at hd;cases hd
theorem loc3_A {M:List (Nat × Nat)} {k at_:Nat} {q0 q1 q2:Nat × Nat} {f:Fz} (hk:k=13∨k=14) (h0:M[0]?=some q0) (h1:M[1]?=some q1) (h2:M[2]?=some q2) (e0:erV q0.1 q0.2=0) (e1:erV q1.1 q1.2=0) (e2:erV q2.1 q2.2=0) (hq2:q2.1<256) (hd:dsL k at_ q0 q1 q2=some f):fkV M at_ k=(f,true):=by
 unfold dsL at hd
 by_cases h9:q0.1=9
 · rw [if_neg (fun e=>e h9)] at hd
   have s0:∀ P,rwF M (ptSingle lkLocal :: P) fz0=rwF M P ⟨0,1,0,0,q0.2,0⟩:=fun P=>rw_s (f:=fz0) h0 e0 (show decide (q0.1=9)=true from decide_eq_true h9)
   have s1:q1.1=31→∀ P,rwF M (ptSingle (lkOnly 31) :: P) ⟨0,1,0,0,q0.2,0⟩=rwF M P ⟨0,2,0,0,q0.2,0⟩:=fun h P=>rw_s (f:=⟨0,1,0,0,q0.2,0⟩) h1 e1 (show decide (q1.1=31)=true from decide_eq_true h)
   rcases hk with rfl|rfl
   · rw [if_neg (by decide),if_neg (by decide),if_pos rfl] at hd
     by_cases h:q1.1=31∧dBin q2.1=true
     · rw [if_pos h] at hd
       cases hd
       have hb:=h.2
       rw [dBin_eq q2.1 hq2] at hb
       have s2:=rw_s (M:=M) (lk:=lkBin) (P:=[]) (f:=⟨0,2,0,0,q0.2,0⟩) h2 e2 hb
       have:shK 13 M=⟨0,3,0,q2.1,q0.2,0⟩:=(s0 _).trans ((s1 h.1 _).trans s2)
       unfold fkV fitV
       rw [this]
       rfl
     · rw [if_neg h] at hd;cases hd
   · rw [if_neg (by decide),if_neg (by decide),if_neg (by decide)] at hd
     by_cases h:q1.1=31∧dBra q2.1=true
     · rw [if_pos h] at hd
       cases hd
       have hb:=h.2
       rw [dBra_eq q2.1 hq2] at hb
       have s2:=rw_s (M:=M) (lk:=lkCmp) (P:=[]) (f:=⟨0,2,0,0,q0.2,0⟩) h2 e2 hb
       have:shK 14 M=⟨0,3,0,q2.1,q0.2,q2.2⟩:=(s0 _).trans ((s1 h.1 _).trans s2)
       unfold fkV fitV
       rw [this]
       rfl
     · rw [if_neg h] at hd;cases hd
 · rw [if_pos h9] at hd;cases hd
theorem fit_back {M:List (Nat × Nat)} {k at_:Nat} {f:Fz} (h:fkV M at_ k=(f,true)):¬ (shK k M).len=0∧f={ shK k M with at_:=at_,kind:=k }:=by
 unfold fkV fitV at h
 by_cases h0:(shK k M).len=0
 · rw [if_pos h0] at h;cases h
 · rw [if_neg h0] at h
   injection h with a _
   exact ⟨h0,a.symm⟩
theorem loc2_B {M:List (Nat × Nat)} (hwf:Wfc M) {k at_:Nat} {f:Fz} (hk:k=11∨k=12) (h:fkV M at_ k=(f,true)):∃ q0 q1,M[0]?=some q0∧M[1]?=some q1∧erV q0.1 q0.2=0∧erV q1.1 q1.2=0∧f.len=2∧∀ q2,dsL k at_ q0 q1 q2=some f:=by
 obtain ⟨h0,hf⟩:=fit_back h
 have back:∀ lk,shK k=shRow [ptSingle lkLocal,ptSingle lk]→∃ q0 q1,M[0]?=some q0∧M[1]?=some q1∧erV q0.1 q0.2=0∧erV q1.1 q1.2=0∧q0.1=9∧(lk q1 ⟨0,2,0,0,q0.2,0⟩).2=true∧shK k M=(lk q1 ⟨0,2,0,0,q0.2,0⟩).1:=by
   intro lk hs
   rw [hs] at h0 ⊢
   obtain ⟨q0,a0,b0,c0⟩:=rw_s_back h0
   have s0:=rw_s (P:=[ptSingle lk]) a0 b0 c0
   have h1:¬ (rwF M [ptSingle lk] ⟨0,1,0,0,q0.2,0⟩).len=0:=by
     intro e
     exact h0 ((congrArg Fz.len s0).trans e)
   obtain ⟨q1,a1,b1,c1⟩:=rw_s_back h1
   exact ⟨q0,q1,a0,a1,b0,b1,of_decide_eq_true c0,c1,s0.trans (rw_s (P:=[]) (f:=⟨0,1,0,0,q0.2,0⟩) a1 b1 c1)⟩
 rcases hk with rfl|rfl
 · obtain ⟨q0,q1,a0,a1,b0,b1,c0,c1,e⟩:=back lkArg rfl
   rw [e] at hf
   refine ⟨q0,q1,a0,a1,b0,b1,by rw [hf];rfl,fun q2=>?_⟩
   unfold dsL
   rw [if_neg (fun n=>n c0),if_pos rfl,if_pos (of_decide_eq_true c1),hf]
   rfl
 · obtain ⟨q0,q1,a0,a1,b0,b1,c0,c1,e⟩:=back lkLoad rfl
   rw [e] at hf
   refine ⟨q0,q1,a0,a1,b0,b1,by rw [hf];rfl,fun q2=>?_⟩
   unfold dsL
   rw [if_neg (fun n=>n c0),if_neg (by decide),if_pos rfl,if_pos (by rw [dLoa_eq q1.1 (hwf q1 (List.mem_of_getElem? a1)).1];exact c1),hf]
   rfl
theorem loc3_B {M:List (Nat × Nat)} (hwf:Wfc M) {k at_:Nat} {f:Fz} (hk:k=13∨k=14) (h:fkV M at_ k=(f,true)):∃ q0 q1 q2,M[0]?=some q0∧M[1]?=some q1∧M[2]?=some q2∧erV q0.1 q0.2=0∧erV q1.1 q1.2=0∧erV q2.1 q2.2=0∧f.len=3∧dsL k at_ q0 q1 q2=some f:=by
 obtain ⟨h0,hf⟩:=fit_back h
 have back:∀ lk,shK k=shRow [ptSingle lkLocal,ptSingle (lkOnly 31),ptSingle lk]→∃ q0 q1 q2,M[0]?=some q0∧M[1]?=some q1∧M[2]?=some q2∧erV q0.1 q0.2=0∧erV q1.1 q1.2=0∧erV q2.1 q2.2=0∧q0.1=9∧q1.1=31∧(lk q2 ⟨0,3,0,0,q0.2,0⟩).2=true∧shK k M=(lk q2 ⟨0,3,0,0,q0.2,0⟩).1:=by
   intro lk hs
   rw [hs] at h0 ⊢
   obtain ⟨q0,a0,b0,c0⟩:=rw_s_back h0
   have s0:=rw_s (P:=[ptSingle (lkOnly 31),ptSingle lk]) a0 b0 c0
   have h1:¬ (rwF M [ptSingle (lkOnly 31),ptSingle lk] ⟨0,1,0,0,q0.2,0⟩).len=0:=fun e=>h0 ((congrArg Fz.len s0).trans e)
   obtain ⟨q1,a1,b1,c1⟩:=rw_s_back h1
   have s1:=rw_s (P:=[ptSingle lk]) (f:=⟨0,1,0,0,q0.2,0⟩) a1 b1 c1
   have h2:¬ (rwF M [ptSingle lk] ⟨0,2,0,0,q0.2,0⟩).len=0:=fun e=>h1 ((congrArg Fz.len s1).trans e)
   obtain ⟨q2,a2,b2,c2⟩:=rw_s_back h2
   exact ⟨q0,q1,q2,a0,a1,a2,b0,b1,b2,of_decide_eq_true c0,of_decide_eq_true c1,c2,s0.trans (s1.trans (rw_s (P:=[]) (f:=⟨0,2,0,0,q0.2,0⟩) a2 b2 c2))⟩
 rcases hk with rfl|rfl
 · obtain ⟨q0,q1,q2,a0,a1,a2,b0,b1,b2,c0,c1,c2,e⟩:=back lkBin rfl
   rw [e] at hf
   refine ⟨q0,q1,q2,a0,a1,a2,b0,b1,b2,by rw [hf];rfl,?_⟩
   unfold dsL
   rw [if_neg (fun n=>n c0),if_neg (by decide),if_neg (by decide),if_pos rfl,if_pos ⟨c1,by rw [dBin_eq q2.1 (hwf q2 (List.mem_of_getElem? a2)).1];exact c2⟩,hf]
   rfl
 · obtain ⟨q0,q1,q2,a0,a1,a2,b0,b1,b2,c0,c1,c2,e⟩:=back lkCmp rfl
   rw [e] at hf
   refine ⟨q0,q1,q2,a0,a1,a2,b0,b1,b2,by rw [hf];rfl,?_⟩
   unfold dsL
   rw [if_neg (fun n=>n c0),if_neg (by decide),if_neg (by decide),if_neg (by decide),if_pos ⟨c1,by rw [dBra_eq q2.1 (hwf q2 (List.mem_of_getElem? a2)).1];exact c2⟩,hf]
   rfl
def divB (op:Nat):Bool:=decide (op=42∨op=43∨op=44∨op=45)
theorem bump_A {M:List (Nat × Nat)} (hwf:Wfc M) {at_ c v:Nat} {q0 q2 qo ql:Nat × Nat} (h0:M[0]?=some q0) (h1:M[1]?=some q0) (h2:M[2]?=some q2) (hc:cnO ((M.drop 3).take c)=some v) (hl3:c≤(M.drop 3).length) (ho:M[3+c]?=some qo) (hl:M[4+c]?=some ql)
   (e0:erV q0.1 q0.2=0) (e2:erV q2.1 q2.2=0) (eo:erV qo.1 qo.2=0) (el:erV ql.1 ql.2=0) (k0:q0.1=9) (k2:q2.1=31) (ko:dBin qo.1=true) (kd:divB qo.1=false) (kl:ql.1=34):fkV M at_ 15=(⟨at_,5+c,15,qo.1,q0.2,v⟩,true):=by
 have hqo:qo.1<256:=(hwf qo (List.mem_of_getElem? ho)).1
 rw [dBin_eq qo.1 hqo] at ko
 have hst:stpB qo.1=true:=by
   simp only [Bool.and_eq_true,decide_eq_true_eq] at ko
   exact stp_bin qo.1 hqo ko.1.1 ko.1.2 ko.2
 obtain ⟨c1,c2,c3⟩:=cnO_some.1 hc
 rw [List.length_take,Nat.min_eq_left hl3] at c1 c2
 have hcv:cnV (M.drop 3)=(c,v):=cnV_fit (wfc_drop hwf 3) c1 c2 c3 (by rw [List.getElem?_drop];exact ho) hst
 have s0:=rw_s (lk:=lkLocal) (P:=[ptSingle lkSame,ptSingle (lkOnly 31),ptConst layB,ptSingle lkHarm,ptSingle (lkOnly 34)]) (f:=fz0) h0 e0 (show decide (q0.1=9)=true from decide_eq_true k0)
 have s1:=rw_s (lk:=lkSame) (P:=[ptSingle (lkOnly 31),ptConst layB,ptSingle lkHarm,ptSingle (lkOnly 34)]) (f:=⟨0,1,0,0,q0.2,0⟩) h1 e0 (show (decide (q0.1=9) && decide (q0.2=q0.2))=true by rw [decide_eq_true k0,decide_eq_true rfl];rfl)
 have s2:=rw_s (lk:=lkOnly 31) (P:=[ptConst layB,ptSingle lkHarm,ptSingle (lkOnly 34)]) (f:=⟨0,2,0,0,q0.2,0⟩) h2 e2 (show decide (q2.1=31)=true from decide_eq_true k2)
 have s3:=rw_c (lay:=layB) (P:=[ptSingle lkHarm,ptSingle (lkOnly 34)]) (f:=⟨0,3,0,0,q0.2,0⟩) hcv c1
 have hh:lkHarm qo ⟨0,3+c+1,0,0,q0.2,v⟩=(⟨0,3+c+1,0,qo.1,q0.2,v⟩,true):=by
   unfold lkHarm
   rw [if_neg (of_decide_eq_false kd)]
   unfold lkBin
   rw [ko]
 have s4:=rw_s (lk:=lkHarm) (P:=[ptSingle (lkOnly 34)]) (f:=⟨0,3+c,0,0,q0.2,v⟩) ho eo (by show (lkHarm qo ⟨0,3+c+1,0,0,q0.2,v⟩).2=true;rw [hh])
 rw [show lkHarm qo { (⟨0,3+c,0,0,q0.2,v⟩:Fz) with len:=(⟨0,3+c,0,0,q0.2,v⟩:Fz).len+1 }=(⟨0,3+c+1,0,qo.1,q0.2,v⟩,true) from hh] at s4
 have s5:=rw_s (lk:=lkOnly 34) (P:=[]) (f:=⟨0,3+c+1,0,qo.1,q0.2,v⟩) (show M[3+c+1]?=some ql by rw [show 3+c+1=4+c by omega];exact hl) el (show decide (ql.1=34)=true from decide_eq_true kl)
 have hS:shK 15 M=⟨0,3+c+1+1,0,qo.1,q0.2,v⟩:=s0.trans (s1.trans (s2.trans (s3.trans (s4.trans s5))))
 unfold fkV fitV
 rw [hS,if_neg (by simp),show 3+c+1+1=5+c by omega]
theorem bump_B {M:List (Nat × Nat)} (hwf:Wfc M) {at_:Nat} {f:Fz} (h:fkV M at_ 15=(f,true)) :
   ∃ c v q0 q2 qo ql,M[0]?=some q0∧M[1]?=some q0∧M[2]?=some q2∧1≤c∧c≤16∧cnO ((M.drop 3).take c)=some v∧M[3+c]?=some qo∧M[4+c]?=some ql∧erV q0.1 q0.2=0∧erV q2.1 q2.2=0∧erV qo.1 qo.2=0∧erV ql.1 ql.2=0∧q0.1=9∧q2.1=31∧dBin qo.1=true∧divB qo.1=false∧ql.1=34∧f=⟨at_,5+c,15,qo.1,q0.2,v⟩:=by
 obtain ⟨h0,hf⟩:=fit_back h
 change ¬ (rwF M [ptSingle lkLocal,ptSingle lkSame,ptSingle (lkOnly 31),ptConst layB,ptSingle lkHarm,ptSingle (lkOnly 34)] fz0).len=0 at h0
 obtain ⟨q0,a0,b0,d0⟩:=rw_s_back h0
 have s0:=rw_s (P:=[ptSingle lkSame,ptSingle (lkOnly 31),ptConst layB,ptSingle lkHarm,ptSingle (lkOnly 34)]) a0 b0 d0
 have k0:q0.1=9:=of_decide_eq_true d0
 have h1:¬ (rwF M [ptSingle lkSame,ptSingle (lkOnly 31),ptConst layB,ptSingle lkHarm,ptSingle (lkOnly 34)] ⟨0,1,0,0,q0.2,0⟩).len=0:=fun e=>h0 ((congrArg Fz.len s0).trans e)
 obtain ⟨q1,a1,b1,d1⟩:=rw_s_back h1
 have s1:=rw_s (P:=[ptSingle (lkOnly 31),ptConst layB,ptSingle lkHarm,ptSingle (lkOnly 34)]) (f:=⟨0,1,0,0,q0.2,0⟩) a1 b1 d1
 have d1':(decide (q1.1=9) && decide (q1.2=q0.2))=true:=d1
 simp only [Bool.and_eq_true,decide_eq_true_eq] at d1'
 have hq:q1=q0:=Prod.ext (d1'.1.trans k0.symm) d1'.2
 subst hq
 have h2:¬ (rwF M [ptSingle (lkOnly 31),ptConst layB,ptSingle lkHarm,ptSingle (lkOnly 34)] ⟨0,2,0,0,q1.2,0⟩).len=0:=fun e=>h1 ((congrArg Fz.len s1).trans e)
 obtain ⟨q2,a2,b2,d2⟩:=rw_s_back h2
 have s2:=rw_s (P:=[ptConst layB,ptSingle lkHarm,ptSingle (lkOnly 34)]) (f:=⟨0,2,0,0,q1.2,0⟩) a2 b2 d2
 have k2:q2.1=31:=of_decide_eq_true d2
 have h3:¬ (rwF M [ptConst layB,ptSingle lkHarm,ptSingle (lkOnly 34)] ⟨0,3,0,0,q1.2,0⟩).len=0:=fun e=>h2 ((congrArg Fz.len s2).trans e)
 have hc0:0<(cnV (M.drop 3)).1:=rw_c_back h3
 obtain ⟨i1,i2,i3⟩:=cnV_is (wfc_drop hwf 3) hc0
 obtain ⟨c,v,hcv⟩:∃ c v:Nat,cnV (M.drop 3)=(c,v):=⟨_,_,rfl⟩
 rw [hcv] at hc0 i1 i2 i3
 simp only at hc0 i1 i2 i3
 have s3:=rw_c (lay:=layB) (P:=[ptSingle lkHarm,ptSingle (lkOnly 34)]) (f:=⟨0,3,0,0,q1.2,0⟩) hcv hc0
 have h4:¬ (rwF M [ptSingle lkHarm,ptSingle (lkOnly 34)] ⟨0,3+c,0,0,q1.2,v⟩).len=0:=fun e=>h3 ((congrArg Fz.len s3).trans e)
 obtain ⟨qo,ao,bo,d4⟩:=rw_s_back h4
 have s4:=rw_s (P:=[ptSingle (lkOnly 34)]) (f:=⟨0,3+c,0,0,q1.2,v⟩) ao bo d4
 change (lkHarm qo ⟨0,3+c+1,0,0,q1.2,v⟩).2=true at d4
 have hdiv:¬ (qo.1=42∨qo.1=43∨qo.1=44∨qo.1=45):=by
   intro hd
   unfold lkHarm at d4
   rw [if_pos hd] at d4
   cases d4
 have hh:lkHarm qo ⟨0,3+c+1,0,0,q1.2,v⟩=lkBin qo ⟨0,3+c+1,0,0,q1.2,v⟩:=by unfold lkHarm;rw [if_neg hdiv]
 rw [hh] at d4
 have hb:dBin qo.1=true:=by rw [dBin_eq qo.1 (hwf qo (List.mem_of_getElem? ao)).1];exact d4
 rw [show lkHarm qo { (⟨0,3+c,0,0,q1.2,v⟩:Fz) with len:=(⟨0,3+c,0,0,q1.2,v⟩:Fz).len+1 }=lkBin qo ⟨0,3+c+1,0,0,q1.2,v⟩ from hh] at s4
 have h5:¬ (rwF M [ptSingle (lkOnly 34)] ⟨0,3+c+1,0,qo.1,q1.2,v⟩).len=0:=fun e=>h4 ((congrArg Fz.len s4).trans e)
 obtain ⟨ql,al,bl,d5⟩:=rw_s_back h5
 have s5:=rw_s (P:=[]) (f:=⟨0,3+c+1,0,qo.1,q1.2,v⟩) al bl d5
 have hS:shK 15 M=⟨0,3+c+1+1,0,qo.1,q1.2,v⟩:=s0.trans (s1.trans (s2.trans (s3.trans (s4.trans s5))))
 refine ⟨c,v,q1,q2,qo,ql,a0,a1,a2,hc0,i2,cnO_some.2 ⟨?_,?_,i3⟩,ao,?_,b0,b2,bo,bl,k0,k2,hb,decide_eq_false hdiv,of_decide_eq_true d5,?_⟩
 · rw [List.length_take,Nat.min_eq_left i1];exact hc0
 · rw [List.length_take,Nat.min_eq_left i1];exact i2
 · rw [show 4+c=3+c+1 by omega];exact al
 · rw [hf,hS,show 3+c+1+1=5+c by omega]
theorem plD_kind:∀ (A:List (Nat × Nat)) (ws:List Nat) (k v:Nat),plD A ws=some (k,v)→k=2∨k=3∨k=4
 | [],ws,k,v,h=>by
   unfold plD at h
   split at h
   · cases h;exact .inr (.inr rfl)
   · split at h
     · cases h;exact .inl rfl
     · cases h
 | p :: r,ws,k,v,h=>by
   by_cases h1:erV p.1 p.2=0
   · by_cases h2:opKi p.1=2
     · rw [plD_cmp h1 h2] at h
       split at h
       · split at h <;> cases h
         · exact .inr (.inl rfl)
         · exact .inr (.inr rfl)
       · cases h
     · cases hd:doD ws p.1 p.2 with
       |none=>rw [plD_no h2 hd] at h;cases h
       |some ws'=>rw [plD_on h1 h2 hd] at h;exact plD_kind r ws' k v h
   · rw [plD_er h1] at h;cases h
theorem lgV_kind {M:List (Nat × Nat)} (hwf:Wfc M):(lgV M).2.1=1∧(lgV M).1=1∨2≤(lgV M).1∧((lgV M).2.1=2∨(lgV M).2.1=3∨(lgV M).2.1=4):=by
 have hb:=lgF_bst M [] 0 (1,1,0) (fun p hp=>(hwf p hp).1) (by decide) (fun _=>rfl)
 change Bst M [] 0 (1,1,0) (lgV M) at hb
 rcases hb with ⟨n,k,v,n1,n2,n3,n4,n5,n6⟩|⟨n1,n2⟩
 · rw [n5]
   exact .inr ⟨n3,plD_kind _ _ _ _ n4⟩
 · rw [n2];exact .inl ⟨rfl,rfl⟩
theorem fold_eq {L:List (Nat × Nat)} (hwf:Wfc L) {a e k:Nat} (h:a<e∧e≤L.length) (hk:k=2∨k=3∨k=4) :
   fkV ((L.drop a).take (e-a)) a k=if (decide (lnE L a e=0) && decide (2≤(lnP L a e).2.1) && decide ((if (lnP L a e).2.2.1=4 then 4 else if (lnP L a e).2.2.1=3 then 3 else 2)=k))=true then (⟨a,(lnP L a e).2.1,k,0,(lnP L a e).2.2.2,0⟩,true) else (fz0,false):=by
 obtain ⟨M,hM⟩:∃ M,M=(L.drop a).take (e-a):=⟨_,rfl⟩
 have hMl:M.length=e-a:=by rw [hM];exact sub_len h.2
 have hg:M.getD 0 (0,0)=L.getD a (0,0):=by rw [hM];exact getD_td L a e h.1
 have hwM:Wfc M:=by rw [hM];exact wfc_sub hwf a (e-a)
 have hE:lnE L a e=erV (L.getD a (0,0)).1 (L.getD a (0,0)).2:=if_pos h
 have hS:shK k=shFold k:=by rcases hk with rfl|rfl|rfl <;> rfl
 rw [←hM]
 by_cases he:erV (L.getD a (0,0)).1 (L.getD a (0,0)).2=0
 · have hP:lnP L a e=(a,lgV M):=by rw [hM];exact if_pos ⟨h.1,h.2,he⟩
   have hP0:lnP M 0 M.length=(0,lgV M):=by
     unfold lnP
     rw [if_pos ⟨by omega,Nat.le_refl _,by rw [hg];exact he⟩,List.drop_zero,Nat.sub_zero,List.take_of_length_le (Nat.le_refl _)]
   have hkd:=lgV_kind hwM
   unfold fkV fitV
   rw [hS]
   unfold shFold
   rw [hP0,hP,hE,he]
   generalize lgV M=g at hkd
   obtain ⟨g1,g2,g3⟩:=g
   simp only at hkd ⊢
   rw [decide_true,Bool.true_and]
   by_cases hgk:g2=k
   · rw [if_pos hgk]
     have hg2:2≤g1:=by omega
     have hif:(if g2=4 then 4 else if g2=3 then 3 else 2)=k:=by
       rcases hk with rfl|rfl|rfl <;> subst hgk <;> rfl
     rw [if_neg (by simp only;omega),hif,decide_eq_true hg2]
     simp
   · rw [if_neg hgk]
     have hno:(decide (2≤g1) && decide ((if g2=4 then 4 else if g2=3 then 3 else 2)=k))=false:=by
       rcases hkd with ⟨q1,q2⟩|⟨q1,q2⟩
       · rw [decide_eq_false (by omega:¬ 2≤g1),Bool.false_and]
       · rw [Bool.and_eq_false_iff]
         refine .inr (decide_eq_false ?_)
         rcases q2 with rfl|rfl|rfl
         · exact hgk
         · exact hgk
         · exact hgk
     rw [hno]
     rfl
 · have hP0:lnP M 0 M.length=(0,0,0,0):=if_neg (fun q=>he (by rw [←hg];exact q.2.2))
   unfold fkV fitV
   rw [hS]
   unfold shFold
   rw [hP0,hE,decide_eq_false he,Bool.false_and,Bool.false_and]
   rw [if_pos (by rcases hk with rfl|rfl|rfl <;> decide)]
   rfl
def LsP (a n k:Nat) (O:Option Nat) (q:Nat × Nat) (x:Ending):Prop:=∃ (f:Fz) (ok:Bool),x=.returned (.tuple #[.agg (fzA f),.bool ok])∧if ok=true then ∃ v,O=some v∧dsC k a n q v=some f else ∀ v,O=some v→dsC k a n q v=none
theorem ls_yes {a n k v:Nat} {q:Nat × Nat} {f:Fz} {O:Option Nat} {ok:Bool} (hO:O=some v) (h:dsC k a n q v=if ok=true then some f else none):LsP a n k O q (.returned (.tuple #[.agg (fzA f),.bool ok])):=by
 refine ⟨f,ok,rfl,?_⟩
 cases ok with
 |true=>exact ⟨v,hO,h⟩
 |false=>intro v' e;rw [hO] at e;cases e;exact h
theorem ls_no {a n k:Nat} {q:Nat × Nat} {f:Fz} {O:Option Nat} (hO:O=none):LsP a n k O q (.returned (.tuple #[.agg (fzA f),.bool false])):=
 ⟨f,false,rfl,fun v' e=>by rw [hO] at e;cases e⟩
theorem heap_drewZ (W:World):W.drew.heap=W.heap:=rfl
theorem Bs.drewZ {w V:World} {f r:Fz} (h:Bs w V f r):Bs w V.drew f r:=⟨⟨h.bw.os,h.bw.tape,h.bw.output,h.bw.size,h.bw.block⟩,h.c0,h.c1⟩
theorem Bs.seta {w V:World} {f r:Fz} (h:Bs w V f r) (v:Nat):Bs w (V.setCell ⟨w.heap.size,4,none⟩ (.int .u32 (v:Int))) { f with a:=v } r:=by
 have h3:=heap_setCell_same V w.heap.size 4 _ _ (.int .u32 (v:Int)) h.c0
 have hk:=Kp.setCell (S:=fun i=>i=w.heap.size) V ⟨w.heap.size,4,none⟩ (.int .u32 (v:Int)) rfl
 have hl:=h.lt
 exact ⟨h.bw.trans (hk.below (by omega) (fun i e=>by omega)),h3,(hk.block _ (by omega) (by omega)).trans h.c1⟩
theorem Bs.setop {w V:World} {f r:Fz} (h:Bs w V f r) (v:Nat):Bs w (V.setCell ⟨w.heap.size,3,none⟩ (.int .u8 (v:Int))) { f with op:=v } r:=by
 have h3:=heap_setCell_same V w.heap.size 3 _ _ (.int .u8 (v:Int)) h.c0
 have hk:=Kp.setCell (S:=fun i=>i=w.heap.size) V ⟨w.heap.size,3,none⟩ (.int .u8 (v:Int)) rfl
 have hl:=h.lt
 exact ⟨h.bw.trans (hk.below (by omega) (fun i e=>by omega)),h3,(hk.block _ (by omega) (by omega)).trans h.c1⟩
theorem Bs.setb {w V:World} {f r:Fz} (h:Bs w V f r) (v:Nat):Bs w (V.setCell ⟨w.heap.size,5,none⟩ (.int .u32 (v:Int))) { f with b:=v } r:=by
 have h3:=heap_setCell_same V w.heap.size 5 _ _ (.int .u32 (v:Int)) h.c0
 have hk:=Kp.setCell (S:=fun i=>i=w.heap.size) V ⟨w.heap.size,5,none⟩ (.int .u32 (v:Int)) rfl
 have hl:=h.lt
 exact ⟨h.bw.trans (hk.below (by omega) (fun i e=>by omega)),h3,(hk.block _ (by omega) (by omega)).trans h.c1⟩
end Go.Proofs.YtibhlcfligfhdaaGreat
