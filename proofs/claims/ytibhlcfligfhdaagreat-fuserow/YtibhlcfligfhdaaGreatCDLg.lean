import Derived.Test.YtibhlcfligfhdaaGreatCDLo
import Derived.Test.YtibhlcfligfhdaaGreatCDOo
import Derived.Test.YtibhlcfligfhdaaGreatCITab
import Derived.Deep.RegionHeld3
namespace Go.Proofs.YtibhlcfligfhdaaGreat
set_option maxHeartbeats 4000000
open Go.RowKit Go.WideShapes
set_option maxRecDepth 100000
def lnP (L:List (Nat × Nat)) (a e:Nat):Nat × Nat × Nat × Nat:=
 if a<e∧e≤L.length∧erV (L.getD a (0,0)).1 (L.getD a (0,0)).2=0 then (a,lgV ((L.drop a).take (e-a))) else (0,0,0,0)
def lnE (L:List (Nat × Nat)) (a e:Nat):Nat:=if a<e∧e≤L.length then erV (L.getD a (0,0)).1 (L.getD a (0,0)).2 else 2
theorem crd_sub {w:World} {b off:Nat} {L:List (Nat × Nat)} {B a e:Nat} (hlt:b<B) (hae:a<e) (he:e≤L.length)
   (hc:∀ j,j<L.length→w.cell? ⟨b,off+j*2,none⟩=some (.int .u8 (L.getD j (0,0)).1)∧w.cell? ⟨b,off+j*2+1,none⟩=some (.int .u32 (L.getD j (0,0)).2)) :
   CRd w (some ⟨b,off+a*2,none⟩) ((L.drop a).take (e-a)) B:=by
 intro _
 refine ⟨b,off+a*2,rfl,hlt,fun j hj=>?_⟩
 simp only [List.length_take,List.length_drop] at hj
 have:=hc (a+j) (by omega)
 have e1:((L.drop a).take (e-a)).getD j (0,0)=L.getD (a+j) (0,0):=by
   simp only [List.getD]
   rw [List.getElem?_take_of_lt (by omega),List.getElem?_drop]
 rw [e1,show off+a*2+j*2=off+(a+j)*2 by omega]
 exact this
theorem wfc_sub {L:List (Nat × Nat)} (h:Wfc L) (a n:Nat):Wfc ((L.drop a).take n):=fun p hp=>h p (List.drop_subset _ _ (List.take_subset _ _ hp))
theorem Longest_any (ao:Option Addr) (cap a e:Nat) (L:List (Nat × Nat)) (w:World) (hL:L.length≤140737488355328) (hcap:L.length≤cap) (ha:a<4294967296) (he:e<4294967296) (hwf:Wfc L) (hr:CRd w ao L w.heap.size) :
   Calls Tryz.prog 57 #[.slice ao L.length cap,.int .u32 (a:Int),.int .u32 (e:Int)] w fun x w'=>x=.returned (.tuple #[.agg (pcA (lnP L a e).1 (lnP L a e).2),.int .i64 (lnE L a e:Int)])∧Below w.heap.size w w':=by
 by_cases hae:a<e
 · have d1:decide ((e:Int)≤(a:Int))=false:=by simp;omega
   by_cases hel:e≤L.length
   · have d2:decide ((L.length:Int)<(e:Int))=false:=by simp;omega
     obtain ⟨b,off,rfl,hbl,hc⟩:=hr (by omega)
     have hsub:=dhid (crd_sub (B:=w.heap.size) hbl hae hel hc)
     have x0:=(hc a (by omega)).1
     have x1:=(hc a (by omega)).2
     obtain ⟨hop,harg⟩:=hwf.at (k:=a) (by omega)
     have hi:(a:Int)<L.length:=by omega
     have hwf':=dhid (wfc_sub hwf a (e-a))
     have hlen:((L.drop a).take (e-a)).length=e-a:=by simp;omega
     rw [show lnE L a e=erV (L.getD a (0,0)).1 (L.getD a (0,0)).2 by simp [lnE,hae,hel]]
     rw [show lnP L a e=if erV (L.getD a (0,0)).1 (L.getD a (0,0)).2=0 then (a,lgV ((L.drop a).take (e-a))) else (0,0,0,0) by simp [lnP,hae,hel]]
     generalize L.getD a (0,0)=pp at *
     obtain ⟨op,arg⟩:=pp
     simp only at x0 x1 hop harg ⊢
     generalize (L.drop a).take (e-a)=M at *
     have HC:=dhid (fun w'=>fcheck_any op arg w' hop)
     have HL:=dhid (fun w' (hb:Below w.heap.size w w')=>longest_any (some ⟨b,off+a*2,none⟩) (cap-a) a M w' (by omega) hwf'.out ((hsub.out.below hb).mono hb.size))
     rw [hlen] at HL
     clear hc hr hwf hwf' hsub
     have hbd:Below w.heap.size w w:=Below.refl _ _
     by_cases her:erV op arg=0
     · rw [if_pos her,her]
       rw [her] at HC
       go_enter Tryz.func57,Tryz.ntmps57
       go_wp2_with (first
         | (go_at_call 23;refine (HC.out _).mono ?_;rintro x w1 ⟨rfl,hb1⟩
            have o1:=dhid ((hb1.block w.heap.size (by simp)).trans (heap_alloc_new w _))
            have hB1:=dhid ((hbd.alloc (Nat.le_refl _) _).trans (hb1.mono (by simp)))
            have hz1:=hB1.out.size)
         | (go_at_call 67;refine (HL.out _ hB1.out).mono ?_;rintro x w2 ⟨rfl,hb2⟩
            have o2:=dhid ((hb2.block w.heap.size (by have:=hb1.size;simp at this;omega)).trans o1.out)
            have hB2:=dhid (hB1.out.trans (hb2.mono hz1)))
         |(refine wpList_store_rowD rfl _ _ _ rfl w.heap.size _ (pcA a (lgV M)) rfl rfl o2.out (by rw [sizeDPc];rfl) rfl (by simp [pcA,Value.oneCell']) ?_))
       refine bodyPost_ret (resEPc (p:=6) (u:=7) (by kernel_rfl) _ _ w.heap.size (pcA a (lgV M)) rfl (setRow_heap _ _ _ _ _ _ o2.out) _ rfl rfl) rfl ⟨rfl,hB2.out.trans ((KpSetRow (S:=fun k=>k=w.heap.size) _ w.heap.size _ rfl).below hB2.out.size (fun i e=>by omega))⟩
     · rw [if_neg her]
       have hE1:((erV op arg:Int) != 0)=true:=by simp;omega
       have hE2:¬ (erV op arg:Int)=0:=by omega
       go_enter Tryz.func57,Tryz.ntmps57
       go_wp2_with (first
         | (go_at_call 23;refine (HC.out _).mono ?_;rintro x w1 ⟨rfl,hb1⟩
            have o1:=dhid ((hb1.block w.heap.size (by simp)).trans (heap_alloc_new w _))
            have hB1:=dhid ((hbd.alloc (Nat.le_refl _) _).trans (hb1.mono (by simp))))
         |(refine wpList_store_rowD rfl _ _ _ rfl w.heap.size _ (pcA 0 (0,0,0)) rfl rfl o1.out (by rw [sizeDPc];rfl) rfl (by simp [pcA,Value.oneCell']) ?_))
       refine bodyPost_ret (resEPc (p:=6) (u:=7) (by kernel_rfl) _ _ w.heap.size (pcA 0 (0,0,0)) rfl (setRow_heap _ _ _ _ _ _ o1.out) _ rfl rfl) rfl ⟨rfl,hB1.out.trans ((KpSetRow (S:=fun k=>k=w.heap.size) _ w.heap.size _ rfl).below hB1.out.size (fun i e=>by omega))⟩
   · have d2:decide ((L.length:Int)<(e:Int))=true:=by simp;omega
     rw [show lnE L a e=2 by simp [lnE,hae,hel],show lnP L a e=(0,0,0,0) by simp [lnP,hae,hel]]
     clear hr
     go_enter Tryz.func57,Tryz.ntmps57
     go_wp2
     exact bodyPost_ret (resEPc (p:=6) (u:=7) (by kernel_rfl) _ _ w.heap.size (pcA 0 (0,0,0)) rfl (heap_alloc_last w _) _ rfl rfl) rfl ⟨rfl,bel (Below.refl _ _)⟩
 · have d1:decide ((e:Int)≤(a:Int))=true:=by simp;omega
   rw [show lnE L a e=2 by simp [lnE,hae],show lnP L a e=(0,0,0,0) by simp [lnP,hae]]
   clear hr
   go_enter Tryz.func57,Tryz.ntmps57
   go_wp2
   exact bodyPost_ret (resEPc (p:=6) (u:=7) (by kernel_rfl) _ _ w.heap.size (pcA 0 (0,0,0)) rfl (heap_alloc_last w _) _ rfl rfl) rfl ⟨rfl,bel (Below.refl _ _)⟩
def PyP (o:Option (Nat × Nat)) (e:Ending):Prop:=
 (∃ k v:Int,o=none∧e=.returned (.tuple #[.int .u8 k,.int .u32 v,.bool false]))
 ∨ ∃ k v:Nat,o=some (k,v)∧e=.returned (.tuple #[.int .u8 (k:Int),.int .u32 (v:Int),.bool true])
theorem drop_getD {M:List (Nat × Nat)} {i:Nat} (h:i<M.length):M.drop i=M.getD i (0,0) :: M.drop (i+1):=by
 rw [List.drop_eq_getElem_cons h,List.getD_eq_getElem?_getD,List.getElem?_eq_getElem h];rfl
theorem sub_getD {L:List (Nat × Nat)} {a n i:Nat} (h:i<n):((L.drop a).take n).getD i (0,0)=L.getD (a+i) (0,0):=by
 rw [List.getD_eq_getElem?_getD,List.getElem?_take_of_lt h,List.getElem?_drop,List.getD_eq_getElem?_getD]
theorem onD_lt {ws ws':List Nat} {op arg:Nat} (hws:∀ x∈ws,x<4294967296) (ha:arg<4294967296) (h:onD ws op arg=some ws'):∀ x∈ws',x<4294967296:=by
 have hl:=getLastD_bd hws
 have hl2:=getLastD_bd (dropLast_bd hws)
 have app:∀ {us:List Nat} {y:Nat},(∀ x∈us,x<4294967296)→y<4294967296→∀ x∈us ++ [y],x<4294967296:=fun h1 h2 x hx=>by
   rcases List.mem_append.1 hx with h|h
   · exact h1 x h
   · rw [List.mem_singleton.1 h];exact h2
 unfold onD at h
 split at h
 · cases h;exact hws
 split at h
 · cases h;exact app hws ha
 split at h
 · split at h <;> cases h;exact dropLast_bd hws
 split at h
 · split at h <;> cases h;exact app hws hl
 split at h
 · split at h <;> cases h;exact app (dropLast_bd hws) (unV_lt _ _ hl)
 split at h
 · split at h <;> cases h;exact app (dropLast_bd (dropLast_bd hws)) (binV_lt _ _ _ hl2 hl)
 · cases h
structure PyS (w:World) (M:List (Nat × Nat)) (i:Nat) (ws:List Nat) (u:Value) (wr:World):Prop where
 pl:plD M []=plD (M.drop i) ws
 le:ws.length≤64
 bd:∀ x∈ws,x<4294967296
 bw:Below w.heap.size w wr
 row:∃ bo c,u=.slice bo ws.length c∧ws.length≤c∧WoR wr bo ws wr.heap.size
theorem played_any (ao:Option Addr) (cap a n:Nat) (L:List (Nat × Nat)) (w:World) (hL:L.length≤140737488355328) (han:a+n≤L.length) (hwf:Wfc L) (hr:CRd w ao L w.heap.size) :
   Calls Tryz.prog 59 #[.slice ao L.length cap,.int .i64 (a:Int),.int .i64 (n:Int)] w fun e w'=>PyP (plD ((L.drop a).take n) []) e∧Below w.heap.size w w':=by
 have hM:((L.drop a).take n).length=n:=by simp;omega
 have hMg:∀ i,i<n→((L.drop a).take n).getD i (0,0)=L.getD (a+i) (0,0):=fun i h=>sub_getD h
 generalize (L.drop a).take n=M at *
 go_enter Tryz.func59,Tryz.ntmps59
 go_wp2
 go_loopw [9,10] (fun u v wr=>∃ (i:Nat) (ws:List Nat),v=.int .i64 i∧i≤n∧PyS w M i ws u wr)
   (fun _ v _=>n-(intOf v).toNat)
 case atStart=>exact ⟨0,[],rfl,Nat.zero_le _,⟨by rw [List.drop_zero],by decide,by simp,Below.refl _ _,none,0,rfl,by decide,fun h=>absurd h (by decide)⟩⟩
 case round=>
   obtain ⟨i,ws,rfl,hi,⟨hpl,hle,hbd,hbw,bo,c,rfl,hlc,hwr⟩⟩:=hrel
   by_cases hlt:i<n
   · have hltI:(i:Int)<(n:Int):=by omega
     obtain ⟨b,off,rfl,hbj,hc⟩:=(hr.below hbw) (by omega)
     have hd:=drop_getD (M:=M) (i:=i) (by omega)
     rw [hMg i hlt] at hd
     have x0:=(hc (a+i) (by omega)).1
     have x1:=(hc (a+i) (by omega)).2
     obtain ⟨hop,harg⟩:=hwf.at (k:=a+i) (by omega)
     generalize L.getD (a+i) (0,0)=pp at *
     obtain ⟨op,arg⟩:=pp
     simp only at x0 x1 hop harg
     rw [hd] at hpl
     have HC:=dhid (fun w'=>rcheck_any op arg w' hop)
     have HI:=dhid (fun w'=>iscmp_any op w' hop)
     have hz:=hbw.size
     have HA:=dhid (fun o=>hbw.alloc hz o)
     have t0:(a:Int)+(i:Int)<(L.length:Int):=by omega
     have t1:(0:Int)≤(a:Int)+(i:Int):=by omega
     have t2:((a:Int)+(i:Int)).toNat=a+i:=by omega
     have t3:IntKind.i64.wrap ((a:Int)+(i:Int))=(a:Int)+(i:Int):=by rw [IntKind.wrap_i64];omega
     have hbne:b<wr.heap.size:=by omega
     clear hc hMg hd
     by_cases her:erV op arg=0
     · rw [her] at HC
       by_cases hk:opKi op=2
       · rw [show decide (opKi op=2)=true by simp [hk]] at HI
         by_cases hlast:i+1=n∧ws.length=2
         · obtain ⟨hl1,hl2⟩:=hlast
           have hnil:M.drop (i+1)=[]:=List.drop_eq_nil_of_le (by omega)
           have hp:plD M []=some (if hoV op (ws.getD 0 0) (ws.getD 1 0) then (3,arg) else (4,0)):=by rw [hpl,plD_cmp her hk,if_pos ⟨hnil,hl2⟩]
           obtain ⟨b2,off2,rfl,hb2l,hc2⟩:=hwr (by omega)
           have c0:=hc2 0 (by omega)
           rw [Nat.add_zero] at c0
           have c1:=hc2 1 (by omega)
           have hx:ws.getD 0 0<4294967296:=hbd _ (by rw [List.getD_eq_getElem?_getD,List.getElem?_eq_getElem (by omega)];simp)
           have hy:ws.getD 1 0<4294967296:=hbd _ (by rw [List.getD_eq_getElem?_getD,List.getElem?_eq_getElem (by omega)];simp)
           have HX:=dhid (fun w'=>rh_any op (ws.getD 0 0) (ws.getD 1 0) w' hx hy)
           have HS:=dhid (fun V (hh:Below wr.heap.size wr V)=>And.intro ((hh.cell (p:=⟨b2,off2,none⟩) hb2l).trans c0) ((hh.cell (p:=⟨b2,off2+1,none⟩) hb2l).trans c1))
           generalize ws.getD 0 0=x at *
           generalize ws.getD 1 0=y at *
           have HP:=dhid hp
           subst hl1
           have s3:IntKind.i64.wrap (i:Int)=(i:Int):=by rw [IntKind.wrap_i64];omega
           rw [hl2] at hlc ⊢
           clear hp hpl hM hwr hr hwf hc2 c0 c1 hnil
           generalize hoV op x y=ho at *
           go_wp2_with (first
           | (go_at_call 25;with_reducible refine (HC.out _).mono ?_;rintro e w1 ⟨rfl,hb1⟩
              have o1:=dhid ((hb1.block wr.heap.size (by simp)).trans (heap_alloc_new wr _))
              have e0:=obj_cell o1.out 0
              have e1:=obj_cell o1.out 1
              simp only [List.getElem?_toArray,List.getElem?_cons_zero,List.getElem?_cons_succ] at e0 e1
              have R1:=dhid ((HA.out _).trans (hb1.mono (by simp;omega)))
              have B1:=dhid (((Below.refl wr.heap.size wr).alloc (Nat.le_refl _) _).trans (hb1.mono (by simp))))
           | (go_at_call 70;with_reducible refine (HI.out _).mono ?_;rintro e w2 ⟨rfl,hb2⟩
              have o2:=dhid ((hb2.block wr.heap.size (Array.getElem?_eq_some_iff.1 o1.out).1).trans o1.out)
              have f0:=obj_cell o2.out 0
              have f1:=obj_cell o2.out 1
              simp only [List.getElem?_toArray,List.getElem?_cons_zero,List.getElem?_cons_succ] at f0 f1
              have R2:=dhid (R1.out.trans (hb2.mono R1.out.size))
              have B2:=dhid (B1.out.trans (hb2.mono B1.out.size))))
           have HS1:=dhid (fun V (hh:Below w2.heap.size w2 V)=>And.intro (obj_cell ((hh.block wr.heap.size (Array.getElem?_eq_some_iff.1 o2.out).1).trans o2.out) 0) (HS.out V (B2.out.trans (hh.mono B2.out.size))))
           simp only [List.getElem?_toArray,List.getElem?_cons_zero] at HS1
           have R0':Hid (Below w2.heap.size w2 w2.drew):=dhid (Below.drew (Below.refl _ _))
           clear HS hb2 e0 e1 hb1
           go_region_held3 (fun V=>V.cell? ⟨wr.heap.size,0,none⟩=some (.int .u8 (op:Int))∧V.cell? ⟨b2,off2,none⟩=some (.int .u32 (x:Int))∧V.cell? ⟨b2,off2+1,none⟩=some (.int .u32 (y:Int))) (first|exact HS1.out _ R0'.out|exact HS1.out _ (Below.refl _ _)|exact HS1.out _ (R0'.out.trans (hb3.mono R0'.out.size))) (first
             |(go_at_call 71;with_reducible refine (HX.out _).mono ?_;rintro e w3 ⟨rfl,hb3⟩))
           have o3:=dhid ((hb3.block wr.heap.size (show wr.heap.size<w2.heap.size from (Array.getElem?_eq_some_iff.1 o2.out).1)).trans o2.out)
           have f2:=obj_cell o3.out 1
           simp only [List.getElem?_toArray,List.getElem?_cons_zero,List.getElem?_cons_succ] at f2
           have R3:=dhid (R2.out.trans ((R0'.out.trans (hb3.mono R0'.out.size)).mono R2.out.size))
           have HS3:=dhid (fun V (hh:Below w3.heap.size w3 V)=>(hh.cell (p:=⟨wr.heap.size,1,none⟩) (Array.getElem?_eq_some_iff.1 o3.out).1).trans f2)
           have R3d:Hid (Below w3.heap.size w3 w3.drew):=dhid (Below.drew (Below.refl _ _))
           clear HS1 HX HC HI HA f2
           cases ho with
           | true=>
             go_wp2_with fail
             go_region_held3 (fun V=>V.cell? ⟨wr.heap.size,1,none⟩=some (.int .u32 (arg:Int))) (first|exact HS3.out _ R3d.out|exact HS3.out _ (Below.refl _ _)) (fail)
             go_wp2_with fail
             go_ret3
             exact ⟨.inr ⟨3,arg,HP.out.trans (by rfl),rfl⟩,R3.out.drew⟩
           | false=>
             go_wp2_with fail
             go_ret3
             exact ⟨.inr ⟨4,0,HP.out.trans (by rfl),rfl⟩,R3.out⟩
         · have hp:plD M []=none:=by
             rw [hpl,plD_cmp her hk,if_neg]
             rintro ⟨q1,q2⟩
             have:=congrArg List.length q1
             rw [List.length_drop,List.length_nil] at this
             exact hlast ⟨by omega,q2⟩
           have HP:=dhid hp
           by_cases hl1:i+1=n
           · subst hl1
             have s3:IntKind.i64.wrap (i:Int)=(i:Int):=by rw [IntKind.wrap_i64];omega
             have s4:((ws.length:Int) != 2)=true:=by simp;omega
             have s5:¬ (ws.length:Int)=2:=by omega
             clear hp hpl hM hwr hr hwf hlast
             go_wp2_with (first
           | (go_at_call 25;with_reducible refine (HC.out _).mono ?_;rintro e w1 ⟨rfl,hb1⟩
              have o1:=dhid ((hb1.block wr.heap.size (by simp)).trans (heap_alloc_new wr _))
              have e0:=obj_cell o1.out 0
              have e1:=obj_cell o1.out 1
              simp only [List.getElem?_toArray,List.getElem?_cons_zero,List.getElem?_cons_succ] at e0 e1
              have R1:=dhid ((HA.out _).trans (hb1.mono (by simp;omega)))
              have B1:=dhid (((Below.refl wr.heap.size wr).alloc (Nat.le_refl _) _).trans (hb1.mono (by simp))))
           | (go_at_call 70;with_reducible refine (HI.out _).mono ?_;rintro e w2 ⟨rfl,hb2⟩
              have o2:=dhid ((hb2.block wr.heap.size (Array.getElem?_eq_some_iff.1 o1.out).1).trans o1.out)
              have f0:=obj_cell o2.out 0
              have f1:=obj_cell o2.out 1
              simp only [List.getElem?_toArray,List.getElem?_cons_zero,List.getElem?_cons_succ] at f0 f1
              have R2:=dhid (R1.out.trans (hb2.mono R1.out.size))
              have B2:=dhid (B1.out.trans (hb2.mono B1.out.size))))
             go_ret3
             exact ⟨.inl ⟨_,_,HP.out,rfl⟩,R2.out⟩
           · have s3:IntKind.i64.wrap ((n:Int)-1)=(n:Int)-1:=by rw [IntKind.wrap_i64];omega
             have s1:((i:Int) != (n:Int)-1)=true:=by simp;omega
             have s2:¬ (i:Int)=(n:Int)-1:=by omega
             clear hp hpl hM hwr hr hwf hlast
             go_wp2_with (first
           | (go_at_call 25;with_reducible refine (HC.out _).mono ?_;rintro e w1 ⟨rfl,hb1⟩
              have o1:=dhid ((hb1.block wr.heap.size (by simp)).trans (heap_alloc_new wr _))
              have e0:=obj_cell o1.out 0
              have e1:=obj_cell o1.out 1
              simp only [List.getElem?_toArray,List.getElem?_cons_zero,List.getElem?_cons_succ] at e0 e1
              have R1:=dhid ((HA.out _).trans (hb1.mono (by simp;omega)))
              have B1:=dhid (((Below.refl wr.heap.size wr).alloc (Nat.le_refl _) _).trans (hb1.mono (by simp))))
           | (go_at_call 70;with_reducible refine (HI.out _).mono ?_;rintro e w2 ⟨rfl,hb2⟩
              have o2:=dhid ((hb2.block wr.heap.size (Array.getElem?_eq_some_iff.1 o1.out).1).trans o1.out)
              have f0:=obj_cell o2.out 0
              have f1:=obj_cell o2.out 1
              simp only [List.getElem?_toArray,List.getElem?_cons_zero,List.getElem?_cons_succ] at f0 f1
              have R2:=dhid (R1.out.trans (hb2.mono R1.out.size))
              have B2:=dhid (B1.out.trans (hb2.mono B1.out.size))))
             go_ret3
             exact ⟨.inl ⟨_,_,HP.out,rfl⟩,R2.out⟩
       · rw [show decide (opKi op=2)=false by simp [hk]] at HI
         have hdo:=doD_on (op:=op) (arg:=arg) hle
         have HO:=dhid (fun w' (hh:Below wr.heap.size wr w')=>one_any bo c op arg ws w' hop hlc hle hbd (WoR.mono (hwr.below hh) hh.size))
         have HON:=dhid (fun ws'=>onD_lt (ws:=ws) (ws':=ws') (op:=op) (arg:=arg) hbd harg)
         generalize onD ws op arg=oo at *
         have HPN:=dhid (fun (h:doD ws op arg=none)=>(hpl.trans (plD_no hk h)))
         have HPS:=dhid (fun ws' (h:doD ws op arg=some ws')=>(hpl.trans (plD_on her hk h)))
         rw [hdo] at HPN HPS
         clear hdo hpl hM hwr hr hwf
         go_wp2_with (first
           | (go_at_call 25;with_reducible refine (HC.out _).mono ?_;rintro e w1 ⟨rfl,hb1⟩
              have o1:=dhid ((hb1.block wr.heap.size (by simp)).trans (heap_alloc_new wr _))
              have e0:=obj_cell o1.out 0
              have e1:=obj_cell o1.out 1
              simp only [List.getElem?_toArray,List.getElem?_cons_zero,List.getElem?_cons_succ] at e0 e1
              have R1:=dhid ((HA.out _).trans (hb1.mono (by simp;omega)))
              have B1:=dhid (((Below.refl wr.heap.size wr).alloc (Nat.le_refl _) _).trans (hb1.mono (by simp))))
           | (go_at_call 70;with_reducible refine (HI.out _).mono ?_;rintro e w2 ⟨rfl,hb2⟩
              have o2:=dhid ((hb2.block wr.heap.size (Array.getElem?_eq_some_iff.1 o1.out).1).trans o1.out)
              have f0:=obj_cell o2.out 0
              have f1:=obj_cell o2.out 1
              simp only [List.getElem?_toArray,List.getElem?_cons_zero,List.getElem?_cons_succ] at f0 f1
              have R2:=dhid (R1.out.trans (hb2.mono R1.out.size))
              have B2:=dhid (B1.out.trans (hb2.mono B1.out.size))))
         refine (HO.out _ B2.out).mono ?_
         rintro e w3 (⟨bo3,c3,n3,rfl,rfl,hb3⟩|⟨bo3,c3,M3,rfl,rfl,hlc3,hw3,hb3⟩)
         · have R3:=dhid (R2.out.trans (hb3.mono R2.out.size))
           have HP:=dhid (HPN.out rfl)
           clear HPS HPN HON HO
           go_wp2
           go_ret3
           exact ⟨.inl ⟨_,_,HP.out,rfl⟩,R3.out⟩
         · have R3:=dhid (R2.out.trans (hb3.mono R2.out.size))
           by_cases hm:M3.length≤64
           · have HP:=dhid (HPS.out M3 (by rw [capD,if_pos hm]))
             have HON3:=dhid (HON.out M3 rfl)
             have s1:¬ (64:Int)<(M3.length:Int):=by omega
             have hw3':=dhid hw3
             clear HPS HPN HON HO hw3
             go_wp2
             go_roundw
             case rel=>exact ⟨i+1,M3,by go_num,by omega,⟨HP.out,hm,HON3.out,R3.out,_,_,rfl,hlc3,hw3'.out⟩⟩
             case measure=>simp [intOf];omega
           · have HP:=dhid (HPN.out (by rw [capD,if_neg hm]))
             have s1:(64:Int)<(M3.length:Int):=by omega
             clear HPS HPN HON HO hw3
             go_wp2
             go_ret3
             exact ⟨.inl ⟨_,_,HP.out,rfl⟩,R3.out⟩
     · have hp:plD M []=none:=by rw [hpl];exact plD_er her
       have dE:((erV op arg:Int) != 0)=true:=by simp;omega
       have HP:=dhid hp
       clear hp hpl hM hwr hr hwf
       generalize erV op arg=er at *
       go_wp2_with (go_at_call 25;with_reducible refine (HC.out _).mono ?_;rintro e w1 ⟨rfl,hb1⟩;have R1:=dhid ((HA.out _).trans (hb1.mono (by simp;omega))))
       go_ret3
       exact ⟨.inl ⟨_,_,HP.out,rfl⟩,R1.out⟩
   · have hltI:¬ (i:Int)<(n:Int):=by omega
     have hin:i=n:=by omega
     have hp:plD M []=plD [] ws:=by rw [hpl,List.drop_eq_nil_of_le (by omega)]
     clear hpl
     by_cases h0:ws.length=0
     · have HP:=dhid (hp.trans (show plD [] ws=some (4,0) by simp [plD,h0]))
       rw [h0]
       clear hp
       go_wp2
       go_ret3
       exact ⟨.inr ⟨4,0,HP.out,rfl⟩,hbw⟩
     · have d0:((ws.length:Int) == 0)=false:=by rw [beq_eq_false_iff_ne];omega
       have d0':¬ (ws.length:Int)=0:=by omega
       have d1:(0:Int)<(ws.length:Int):=by omega
       have d1':0<ws.length:=by omega
       obtain ⟨b2,off2,rfl,hb2l,hc2⟩:=hwr (by omega)
       have c0:=hc2 0 (by omega)
       rw [Nat.add_zero] at c0
       have HS3:=dhid (fun V (hh:Below wr.heap.size wr V)=>(hh.cell (p:=⟨b2,off2,none⟩) hb2l).trans c0)
       have R3d:Hid (Below wr.heap.size wr wr.drew):=dhid (Below.drew (Below.refl _ _))
       obtain ⟨x,hx⟩:∃ x,x=ws.getD 0 0:=⟨_,rfl⟩
       rw [←hx] at HS3
       have HP:Hid (plD M []=if ws.length=1 then some (2,x) else none):=dhid (hp.trans (by simp only [plD,h0,if_false,hx]))
       clear hp hx hc2 c0
       go_wp2_with fail
       go_region_held3 (fun V=>V.cell? ⟨b2,off2,none⟩=some (.int .u32 (x:Int))) (first|exact HS3.out _ R3d.out|exact HS3.out _ (Below.refl _ _)) (fail)
       by_cases h1:ws.length=1
       · have HP1:=dhid (HP.out.trans (if_pos h1))
         have d2:((ws.length:Int) == 1)=true:=by rw [h1];rfl
         simp only [d2]
         go_wp2_with fail
         go_ret3
         exact ⟨.inr ⟨2,x,HP1.out,rfl⟩,hbw.drew⟩
       · have HP1:=dhid (HP.out.trans (if_neg h1))
         have d2:((ws.length:Int) == 1)=false:=by rw [beq_eq_false_iff_ne];omega
         simp only [d2]
         go_wp2_with fail
         go_ret3
         exact ⟨.inl ⟨_,_,HP1.out,rfl⟩,hbw.drew⟩
theorem sub_take {L:List (Nat × Nat)} {a n m:Nat} (h:n≤m):(L.drop a).take n=((L.drop a).take m).take n:=by rw [List.take_take,Nat.min_eq_left h]
structure RlS (w wr:World):Prop where
 bw:Below w.heap.size w wr
 ob:wr.heap[w.heap.size]?=some (.cells (pcA 0 (0,0,0)) 70)
theorem RlS.next {w wr w':World} (h:RlS w wr) (hb:Below wr.heap.size wr w'):RlS w w':=⟨h.bw.trans (hb.mono h.bw.size),(hb.block _ (Array.getElem?_eq_some_iff.1 h.ob).1).trans h.ob⟩
theorem rLongest_any (ao:Option Addr) (cap a e:Nat) (L:List (Nat × Nat)) (w:World) (hL:L.length≤140737488355328) (ha:a<4294967296) (he:e<4294967296) (hwf:Wfc L) (hr:CRd w ao L w.heap.size) :
   Calls Tryz.prog 43 #[.slice ao L.length cap,.int .u32 (a:Int),.int .u32 (e:Int)] w fun x w'=>x=.returned (.tuple #[.agg (pcA (lnP L a e).1 (lnP L a e).2),.int .i64 (lnE L a e:Int)])∧Below w.heap.size w w':=by
 by_cases hae:a<e
 · have d1 : decide ((e:Int)≤(a:Int))=false:=by simp;omega
   by_cases hel:e≤L.length
   · have d2 : decide ((L.length:Int)<(e:Int))=false:=by simp;omega
     obtain ⟨b,off,rfl,hbl,hc⟩:=hr (by omega)
     have x0:=(hc a (by omega)).1
     have x1:=(hc a (by omega)).2
     obtain ⟨hop,harg⟩:=hwf.at (k:=a) (by omega)
     have hi:(a:Int)<L.length:=by omega
     rw [show lnE L a e=erV (L.getD a (0,0)).1 (L.getD a (0,0)).2 by simp [lnE,hae,hel]]
     rw [show lnP L a e=if erV (L.getD a (0,0)).1 (L.getD a (0,0)).2=0 then (a,lgV ((L.drop a).take (e-a))) else (0,0,0,0) by simp [lnP,hae,hel]]
     have HKN:=dhid (fun j (hj:j<e-a) w'=>known_any (L.getD (a+j) (0,0)).1 w' (hwf.at (k:=a+j) (by omega)).1)
     have HPL:=dhid (fun n (hn:n≤e-a) w' (hb:Below w.heap.size w w')=>played_any (some ⟨b,off,none⟩) cap a n L w' hL (by omega) hwf ((hr.below hb).mono hb.size))
     have hMl:((L.drop a).take (e-a)).length=e-a:=by simp;omega
     have hMg:∀ i,i<e-a→((L.drop a).take (e-a)).getD i (0,0)=L.getD (a+i) (0,0):=fun i h=>sub_getD h
     have hMw:∀ p∈(L.drop a).take (e-a),p.1<256:=fun p hp=>(wfc_sub hwf a (e-a) p hp).1
     have hMt:∀ n,n≤e-a→(L.drop a).take n=((L.drop a).take (e-a)).take n:=fun n h=>sub_take h
     generalize (L.drop a).take (e-a)=M at *
     have HLC:=dhid (fun j (hj:j<e-a) V (hh:Below w.heap.size w V)=>(hh.cell (p:=⟨b,off+(a+j)*2,none⟩) hbl).trans (hc (a+j) (by omega)).1)
     have hpp:Hid (L.getD a (0,0)=L.getD (a+0) (0,0)):=dhid rfl
     generalize hq:L.getD a (0,0)=pp at *
     obtain ⟨op,arg⟩:=pp
     simp only at x0 x1 hop harg ⊢
     have HC:=dhid (fun w'=>rcheck_any op arg w' hop)
     have hbd:Below w.heap.size w w:=Below.refl _ _
     have HA:=dhid (fun o=>hbd.alloc (Nat.le_refl _) o)
     clear hc hr hwf hq hpp
     by_cases her:erV op arg=0
     · rw [if_pos her,her]
       rw [her] at HC
       go_enter Tryz.func43,Tryz.ntmps43
       go_wp2_with (go_at_call 25;with_reducible refine (HC.out _).mono ?_;rintro x w1 ⟨rfl,hb1⟩
                    have S1:RlS w w1:=⟨(HA.out _).trans (hb1.mono (by simp)),(hb1.block w.heap.size (by simp)).trans (heap_alloc_new w _)⟩)
       go_loopw [9] (fun v wr=>∃ m:Nat,v=.int .i64 m∧m≤e-a∧RlS w wr)
         (fun v _=>e-a-(intOf v).toNat)
       case atStart=>exact ⟨0,rfl,Nat.zero_le _,S1⟩
       case round=>
         obtain ⟨m,rfl,hm,SX⟩:=hrel
         have q0:((e:Int)-(a:Int)) % 4294967296=(e:Int)-(a:Int):=by omega
         have q00:m<4294967296:=by omega
         by_cases hlt:m<e-a
         · have hltI : (m:Int)<(e:Int)-(a:Int):=by omega
           have t0:(a:Int)+(m:Int)<(L.length:Int):=by omega
           have t1:(0:Int)≤(a:Int)+(m:Int):=by omega
           have t2:((a:Int)+(m:Int)).toNat=a+m:=by omega
           have t3:IntKind.i64.wrap ((a:Int)+(m:Int))=(a:Int)+(m:Int):=by rw [IntKind.wrap_i64];omega
           have y0:=HLC.out m hlt wr SX.bw
           have hg:=hMg m hlt
           have HK:=dhid (HKN.out m hlt wr)
           generalize L.getD (a+m) (0,0)=p at *
           cases hk:kn p.1 with
           | true=>
             rw [hk] at HK
             go_wp2_with fail
             refine HK.out.mono ?_
             rintro x w2 ⟨rfl,hb2⟩
             have S2:=SX.next hb2
             go_wp2
             go_roundw
             case rel=>exact ⟨m+1,by go_num,by omega,S2⟩
             case measure=>simp [intOf];omega
           | false =>
             rw [hk] at HK
             have hfar:∀ n,m<n→n≤M.length→plD (M.take n) []=none:=fun n h1 h2=>plD_far (by omega) (by rw [hg];exact hk) h1 h2 []
             clear hg hk
             go_wp2_with fail
             refine HK.out.mono ?_
             rintro x w2 ⟨rfl,hb2⟩
             replace SX:=SX.next hb2
             clear hb2 HK
             have hml:=dhid (srch_lgV hMw (show m≤M.length by omega) hfar)
             clear hfar HKN HLC HC HA hMg
             go_wp2_with fail
             go_loopw [10] (fun v wr=>∃ n:Nat,v=.int .i64 n∧n≤m∧srch M m=srch M n∧RlS w wr)
               (fun v _=>(intOf v).toNat)
             case atStart=>exact ⟨m,rfl,Nat.le_refl _,rfl,SX⟩
             case round=>
               obtain ⟨n,rfl,hn,hsr,S2⟩:=hrel
               have HS2:=dhid S2.ob
               have HB2:=dhid S2.bw
               by_cases hn2:2≤n
               · have q1:(2:Int)≤(n:Int):=by omega
                 have q2:IntKind.i64.wrap (a:Int)=(a:Int):=by rw [IntKind.wrap_i64];omega
                 have HP:=dhid (HPL.out n (by omega) wr S2.bw)
                 rw [hMt n (by omega)] at HP
                 cases hpd:plD (M.take n) [] with
                 | none=>
                   rw [hpd] at HP
                   have hsr':=hsr.trans (show srch M n=srch M (n-1) by
                     obtain ⟨j,rfl⟩:∃ j,n=j+1:=⟨n-1,by omega⟩
                     exact srch_miss hpd (by omega))
                   clear hsr hpd HPL
                   go_wp2_with fail
                   refine HP.out.mono ?_
                   rintro x w3 ⟨⟨kk,vv,-,rfl⟩|⟨kk,vv,hk0,-⟩,hb3⟩
                   · have S3:=S2.next hb3
                     have q3:IntKind.i64.wrap ((n:Int)-1)=((n-1:Nat):Int):=by rw [IntKind.wrap_i64];omega
                     go_wp2
                     go_roundw
                     case rel=>exact ⟨n-1,by go_num,by omega,hsr',S3⟩
                     case measure=>simp [intOf];omega
                   · cases hk0
                 | some q=>
                   obtain ⟨kk,vv⟩:=q
                   rw [hpd] at HP
                   have HG:Hid (lgV M=(n,kk,vv)):=dhid (by rw [←hml.out,hsr];exact srch_hit hn2 hpd)
                   clear hsr hpd HPL
                   go_wp2_with fail
                   refine HP.out.mono ?_
                   rintro x w3 ⟨⟨k0,v0,hk0,-⟩|⟨k0,v0,hk0,rfl⟩,hb3⟩
                   · cases hk0
                   · cases hk0
                     have S3:=S2.next hb3
                     have o3:=dhid S3.ob
                     have hB3:=dhid S3.bw
                     have q4:n<4294967296:=by omega
                     go_wp2_with (refine wpList_store_rowD rfl _ _ _ rfl w.heap.size _ (pcA a (n,kk,vv)) rfl rfl o3.out (by rw [sizeDPc];rfl) rfl (by simp [pcA,Value.oneCell']) ?_)
                     refine bodyPost_ret (resEPc (p:=6) (u:=7) (by kernel_rfl) _ _ w.heap.size (pcA a (n,kk,vv)) rfl (setRow_heap _ _ _ _ _ _ o3.out) _ rfl rfl) rfl ⟨by rw [HG.out];rfl,hB3.out.trans ((KpSetRow (S:=fun k=>k=w.heap.size) _ w.heap.size _ rfl).below hB3.out.size (fun i e=>by omega))⟩
               · have q1:¬ (2:Int)≤(n:Int):=by omega
                 have HG:Hid (lgV M=(1,1,0)):=dhid (by
                   rw [←hml.out,hsr]
                   rcases Nat.eq_zero_or_pos n with rfl|h
                   · rfl
                   · obtain rfl:n=1:=by omega
                     rfl)
                 clear hsr HPL
                 go_wp2_with (refine wpList_store_rowD rfl _ _ _ rfl w.heap.size _ (pcA a (1,1,0)) rfl rfl HS2.out (by rw [sizeDPc];rfl) rfl (by simp [pcA,Value.oneCell']) ?_)
                 refine bodyPost_ret (resEPc (p:=6) (u:=7) (by kernel_rfl) _ _ w.heap.size (pcA a (1,1,0)) rfl (setRow_heap _ _ _ _ _ _ HS2.out) _ rfl rfl) rfl ⟨by rw [HG.out];rfl,HB2.out.trans ((KpSetRow (S:=fun k=>k=w.heap.size) _ w.heap.size _ rfl).below HB2.out.size (fun i e=>by omega))⟩
         · have hltI:¬ (m:Int)<(e:Int)-(a:Int):=by omega
           have hfar:∀ n,m<n→n≤M.length→plD (M.take n) []=none:=fun n h1 h2=>absurd h1 (by omega)
           have hml:=dhid (srch_lgV hMw (show m≤M.length by omega) hfar)
           clear hfar HKN HLC HC HA hMg
           go_wp2_with fail
           go_loopw [10] (fun v wr=>∃ n:Nat,v=.int .i64 n∧n≤m∧srch M m=srch M n∧RlS w wr)
             (fun v _=>(intOf v).toNat)
           case atStart=>exact ⟨m,rfl,Nat.le_refl _,rfl,SX⟩
           case round=>
             obtain ⟨n,rfl,hn,hsr,S2⟩:=hrel
             have HS2:=dhid S2.ob
             have HB2:=dhid S2.bw
             by_cases hn2:2≤n
             · have q1:(2:Int)≤(n:Int):=by omega
               have q2:IntKind.i64.wrap (a:Int)=(a:Int):=by rw [IntKind.wrap_i64];omega
               have HP:=dhid (HPL.out n (by omega) wr S2.bw)
               rw [hMt n (by omega)] at HP
               cases hpd:plD (M.take n) [] with
               | none=>
                 rw [hpd] at HP
                 have hsr':=hsr.trans (show srch M n=srch M (n-1) by
                   obtain ⟨j,rfl⟩:∃ j,n=j+1:=⟨n-1,by omega⟩
                   exact srch_miss hpd (by omega))
                 clear hsr hpd HPL
                 go_wp2_with fail
                 refine HP.out.mono ?_
                 rintro x w3 ⟨⟨kk,vv,-,rfl⟩|⟨kk,vv,hk0,-⟩,hb3⟩
                 · have S3:=S2.next hb3
                   have q3:IntKind.i64.wrap ((n:Int)-1)=((n-1:Nat):Int):=by rw [IntKind.wrap_i64];omega
                   go_wp2
                   go_roundw
                   case rel=>exact ⟨n-1,by go_num,by omega,hsr',S3⟩
                   case measure=>simp [intOf];omega
                 · cases hk0
               | some q=>
                 obtain ⟨kk,vv⟩:=q
                 rw [hpd] at HP
                 have HG:Hid (lgV M=(n,kk,vv)):=dhid (by rw [←hml.out,hsr];exact srch_hit hn2 hpd)
                 clear hsr hpd HPL
                 go_wp2_with fail
                 refine HP.out.mono ?_
                 rintro x w3 ⟨⟨k0,v0,hk0,-⟩|⟨k0,v0,hk0,rfl⟩,hb3⟩
                 · cases hk0
                 · cases hk0
                   have S3:=S2.next hb3
                   have o3:=dhid S3.ob
                   have hB3:=dhid S3.bw
                   have q4:n<4294967296:=by omega
                   go_wp2_with (refine wpList_store_rowD rfl _ _ _ rfl w.heap.size _ (pcA a (n,kk,vv)) rfl rfl o3.out (by rw [sizeDPc];rfl) rfl (by simp [pcA,Value.oneCell']) ?_)
                   refine bodyPost_ret (resEPc (p:=6) (u:=7) (by kernel_rfl) _ _ w.heap.size (pcA a (n,kk,vv)) rfl (setRow_heap _ _ _ _ _ _ o3.out) _ rfl rfl) rfl ⟨by rw [HG.out];rfl,hB3.out.trans ((KpSetRow (S:=fun k=>k=w.heap.size) _ w.heap.size _ rfl).below hB3.out.size (fun i e=>by omega))⟩
             · have q1:¬ (2:Int)≤(n:Int):=by omega
               have HG:Hid (lgV M=(1,1,0)):=dhid (by
                 rw [←hml.out,hsr]
                 rcases Nat.eq_zero_or_pos n with rfl|h
                 · rfl
                 · obtain rfl:n=1:=by omega
                   rfl)
               clear hsr HPL
               go_wp2_with (refine wpList_store_rowD rfl _ _ _ rfl w.heap.size _ (pcA a (1,1,0)) rfl rfl HS2.out (by rw [sizeDPc];rfl) rfl (by simp [pcA,Value.oneCell']) ?_)
               refine bodyPost_ret (resEPc (p:=6) (u:=7) (by kernel_rfl) _ _ w.heap.size (pcA a (1,1,0)) rfl (setRow_heap _ _ _ _ _ _ HS2.out) _ rfl rfl) rfl ⟨by rw [HG.out];rfl,HB2.out.trans ((KpSetRow (S:=fun k=>k=w.heap.size) _ w.heap.size _ rfl).below HB2.out.size (fun i e=>by omega))⟩
     · rw [if_neg her]
       have hE1:((erV op arg:Int) != 0)=true:=by simp;omega
       have hE2:¬ (erV op arg:Int)=0:=by omega
       go_enter Tryz.func43,Tryz.ntmps43
       go_wp2_with (first
         | (go_at_call 25;with_reducible refine (HC.out _).mono ?_;rintro x w1 ⟨rfl,hb1⟩
            have o1:=dhid ((hb1.block w.heap.size (by simp)).trans (heap_alloc_new w _))
            have hB1:=dhid ((HA.out _).trans (hb1.mono (by simp))))
         |(refine wpList_store_rowD rfl _ _ _ rfl w.heap.size _ (pcA 0 (0,0,0)) rfl rfl o1.out (by rw [sizeDPc];rfl) rfl (by simp [pcA,Value.oneCell']) ?_))
       refine bodyPost_ret (resEPc (p:=6) (u:=7) (by kernel_rfl) _ _ w.heap.size (pcA 0 (0,0,0)) rfl (setRow_heap _ _ _ _ _ _ o1.out) _ rfl rfl) rfl ⟨rfl,hB1.out.trans ((KpSetRow (S:=fun k=>k=w.heap.size) _ w.heap.size _ rfl).below hB1.out.size (fun i e=>by omega))⟩
   · have d2:decide ((L.length:Int)<(e:Int))=true:=by simp;omega
     rw [show lnE L a e=2 by simp [lnE,hae,hel],show lnP L a e=(0,0,0,0) by simp [lnP,hae,hel]]
     clear hr
     go_enter Tryz.func43,Tryz.ntmps43
     go_wp2
     exact bodyPost_ret (resEPc (p:=6) (u:=7) (by kernel_rfl) _ _ w.heap.size (pcA 0 (0,0,0)) rfl (heap_alloc_last w _) _ rfl rfl) rfl ⟨rfl,bel (Below.refl _ _)⟩
 · have d1:decide ((e:Int)≤(a:Int))=true:=by simp;omega
   rw [show lnE L a e=2 by simp [lnE,hae],show lnP L a e=(0,0,0,0) by simp [lnP,hae]]
   clear hr
   go_enter Tryz.func43,Tryz.ntmps43
   go_wp2
   exact bodyPost_ret (resEPc (p:=6) (u:=7) (by kernel_rfl) _ _ w.heap.size (pcA 0 (0,0,0)) rfl (heap_alloc_last w _) _ rfl rfl) rfl ⟨rfl,bel (Below.refl _ _)⟩
theorem cvD_get (L:List (Nat × Nat)):∀ j,j<L.length→(cv L)[j*2]?=some (.int .u8 (L.getD j (0,0)).1)∧(cv L)[j*2+1]?=some (.int .u32 (L.getD j (0,0)).2):=by
 induction L with
 |nil=>intro j hj;simp at hj
 | cons p L ih=>
   intro j hj
   cases j with
   |zero=>exact ⟨rfl,rfl⟩
   | succ j=>
     have:=ih j (by simpa using hj)
     rw [show cv (p :: L)=.int .u8 p.1 :: .int .u32 p.2 :: cv L from rfl,show (j+1)*2=j*2+1+1 by omega,show (p :: L).getD (j+1) (0,0)=L.getD j (0,0) from rfl]
     exact this
structure Fz where
 at_:Nat
 len:Nat
 kind:Nat
 op:Nat
 a:Nat
 b:Nat
def fz0:Fz:=⟨0,0,0,0,0,0⟩
def fzA (f:Fz):Array Value:=#[.int .u32 (f.at_:Int),.int .u32 (f.len:Int),.int .u8 (f.kind:Int),.int .u8 (f.op:Int),.int .u32 (f.a:Int),.int .u32 (f.b:Int)]
theorem sizeFz:(Tryz.prog.info? 28).map (·.size)=some 6:=by kernel_rfl
theorem undFz:∃ fs,Tryz.prog.underlying 28=some (.struct fs):=by
 have h:(match Tryz.prog.underlying 28 with|some (.struct _)=>true|_=>false)=true:=by kernel_rfl
 split at h
 · exact ⟨_,by assumption⟩
 · cases h
theorem resFz {fn:Func} {p:Tmp} (hf:fn.results=#[.cell p 28]) (W:World) (b:Nat) (cs:Array Value) (hs:cs.size=6) (hb:W.heap[b]?=some (.cells cs 28)) (tmps:Array Value) (h2:tmps.getD p undef=.pointer (some ⟨b,0,none⟩)) :
   (results fn tmps).run Tryz.prog W=.ok (.agg cs) W:=by
 obtain ⟨fs,hu⟩:=undFz
 exact results_cell_row (p:=p) (ty:=28) hf tmps W b 28 cs (0,0) _ h2 hb hu rfl (by rw [sizeFz,hs])
theorem resFzB {fn:Func} {p u:Tmp} (hf:fn.results=#[.cell p 28,.tmp u]) (t2:Value) (W:World) (b:Nat) (cs:Array Value) (hs:cs.size=6) (hb:W.heap[b]?=some (.cells cs 28)) (tmps:Array Value) (h2:tmps.getD p undef=.pointer (some ⟨b,0,none⟩)) (h3:tmps.getD u undef=t2) :
   (results fn tmps).run Tryz.prog W=.ok (.tuple #[.agg cs,t2]) W:=by
 obtain ⟨fs,hu⟩:=undFz
 rw [results_cell_tmp hf,h2,h3]
 have:=run_loadVar_row (P:=Tryz.prog) W b 28 28 cs (0,0) _ hb hu rfl (by rw [sizeFz,hs])
 simp only [asAddr,Sem.run_pure,Result.andThen,this]
abbrev Lk:=Nat × Nat→Fz→Fz × Bool
def lkLocal:Lk:=fun p f=>({ f with a:=p.2 },decide (p.1=9))
end Go.Proofs.YtibhlcfligfhdaaGreat
