import Derived.Test.YtibhlcfligfhdaaGreatCAHRx
import Derived.Deep.RegionHeld3
import Derived.Test.YtibhlcfligfhdaaGreatCITab
import Derived.Laws.ResultCell
import Derived.Laws.CopyOwn
import Derived.Lib.Tables
import Derived.Laws.AppendOwn
import Derived.WideShapes
import Derived.Laws.Cover3
namespace Go.Proofs.YtibhlcfligfhdaaGreat
set_option maxHeartbeats 4000000
open Go.RowKit Go.WideShapes
set_option maxRecDepth 100000
theorem onD_none_un {ws:List Nat} {op arg:Nat} (h1:¬ op=1) (h8:¬ op=8) (h10:¬ op=10) (h11:¬ op=11):onD ws op arg=if unE op=0 then (if 1≤ws.length then some (ws.dropLast ++ [unV op (ws.getLastD 0)]) else none)
 else if binE op 1=0 then (if 2≤ws.length∧binE op (ws.getLastD 0)=0 then some (ws.dropLast.dropLast ++ [binV op (ws.dropLast.getLastD 0) (ws.getLastD 0)]) else none)
 else none:=by simp only [onD,h1,h8,h10,h11,if_false]
theorem one_any (ao:Option Addr) (cap op arg:Nat) (ws:List Nat) (w:World) (hop:op<256) (hcap:ws.length≤cap) (hl:ws.length≤64) (hws:∀ x∈ws,x<4294967296) (hr:WoR w ao ws w.heap.size) :
   Calls Tryz.prog 72 #[.slice ao ws.length cap,.agg #[.int .u8 (op:Int),.int .u32 (arg:Int)]] w fun e w'=>OnP (onD ws op arg) w w' e:=by
 have hbd:Below w.heap.size w w:=Below.refl _ _
 by_cases h1:op=1
 · subst h1
   rw [show onD ws 1 arg=some ws from rfl]
   have HR:=dhid (fun o=>WoR.mono (hr.below (hbd.alloc (Nat.le_refl _) o)) (C:=(w.alloc o).heap.size) (by simp))
   clear hr
   go_enter Tryz.func72,Tryz.ntmps72
   go_wp2
   go_ret2
   exact .inr ⟨_,_,ws,rfl,rfl,hcap,HR.out _,hbd.alloc (Nat.le_refl _) _⟩
 by_cases h8:op=8
 · subst h8
   rw [show onD ws 8 arg=some (ws ++ [arg]) from rfl]
   have HW:=dhid (fun o=>with_on ao cap ws.length arg ws (ws ++ [arg]) (by rw [List.take_length]) (w.alloc o) (Nat.le_refl _) hl (WoR.mono (hr.below (hbd.alloc (Nat.le_refl _) o)) (by simp)))
   generalize ws ++ [arg]=M at HW
   clear hr
   go_enter Tryz.func72,Tryz.ntmps72
   go_wp2_with (go_at_call 83;with_reducible refine (HW.out _).mono ?_;rintro e w1 ⟨bo,c,rfl,h1,hb1⟩)
   go_ret2
   exact .inr ⟨_,_,M,rfl,rfl,h1.out.1,h1.out.2,(hbd.alloc (Nat.le_refl _) _).trans (hb1.mono (by simp))⟩
 by_cases h10:op=10
 · subst h10
   rw [show onD ws 10 arg=if 1≤ws.length then some ws.dropLast else none from rfl]
   by_cases hw:1≤ws.length
   · obtain ⟨k,hk⟩:∃ k,ws.length=k+1:=⟨ws.length-1,by omega⟩
     rw [if_pos hw,(last_at hk).2]
     have HR:=dhid (fun o=>WoR.mono ((hr.take k).below (hbd.alloc (Nat.le_refl _) o)) (C:=(w.alloc o).heap.size) (by simp))
     have hkl:(ws.take k).length=k:=by simp;omega
     clear hr hws
     generalize ws.take k=M at *
     have hkc:k+1≤cap:=by omega
     have hk64:k<64:=by omega
     rw [hk]
     clear hk hcap hl hw
     have t1:¬ ((k:Int)+1<1):=by omega
     have t2:(k:Int)≤(cap:Int):=by omega
     have t3:(0:Int)≤(k:Int):=by omega
     go_enter Tryz.func72,Tryz.ntmps72
     go_wp2
     go_ret2
     refine .inr ⟨_,cap,M,rfl,?_,(by omega),HR.out _,hbd.alloc (Nat.le_refl _) _⟩
     rw [hkl];rfl
   · rw [if_neg hw]
     have h0:ws.length=0:=by omega
     rw [h0]
     go_enter Tryz.func72,Tryz.ntmps72
     go_wp2
     go_ret2
     exact .inl ⟨_,_,_,rfl,rfl,hbd.alloc (Nat.le_refl _) _⟩
 by_cases h11:op=11
 · subst h11
   rw [show onD ws 11 arg=if 1≤ws.length then some (ws ++ [ws.getLastD 0]) else none from rfl]
   by_cases hw:1≤ws.length
   · obtain ⟨k,hk⟩:∃ k,ws.length=k+1:=⟨ws.length-1,by omega⟩
     rw [if_pos hw,(last_at hk).1]
     obtain ⟨b,off,rfl,hbl,hc⟩:=hr hw
     have c0:=hc k (by omega)
     have hne:¬ b=w.heap.size:=by omega
     have HW:=dhid (fun o=>with_on (some ⟨b,off,none⟩) cap ws.length (ws.getD k 0) ws (ws ++ [ws.getD k 0]) (by rw [List.take_length]) (w.alloc o) (Nat.le_refl _) hl (WoR.mono (hr.below (hbd.alloc (Nat.le_refl _) o)) (by simp)))
     generalize ws ++ [ws.getD k 0]=M at HW
     generalize ws.getD k 0=x at *
     clear hr hws hc
     have hkc:k+1≤cap:=by omega
     have hk64:k<64:=by omega
     rw [hk,show ((k+1:Nat):Int)=(k:Int)+1 from rfl] at HW
     rw [hk]
     clear hk hcap hl
     have t1:¬ ((k:Int)+1<1):=by omega
     have t3:(0:Int)≤(k:Int):=by omega
     clear hw
     go_enter Tryz.func72,Tryz.ntmps72
     go_wp2_with (go_at_call 83;with_reducible refine (HW.out _).mono ?_;rintro e w1 ⟨bo,c,rfl,h1,hb1⟩)
     go_ret2
     exact .inr ⟨_,_,M,rfl,rfl,h1.out.1,h1.out.2,(hbd.alloc (Nat.le_refl _) _).trans (hb1.mono (by simp))⟩
   · rw [if_neg hw]
     have h0:ws.length=0:=by omega
     rw [h0]
     go_enter Tryz.func72,Tryz.ntmps72
     go_wp2
     go_ret2
     exact .inl ⟨_,_,_,rfl,rfl,hbd.alloc (Nat.le_refl _) _⟩
 rw [onD_none_un h1 h8 h10 h11]
 have d1:((op:Int) == 1)=false:=ne_i h1
 have d8:((op:Int) == 8)=false:=ne_i h8
 have d10:((op:Int) == 10)=false:=ne_i h10
 have d11:((op:Int) == 11)=false:=ne_i h11
 clear h1 h8 h10 h11
 have HU:=dhid (fun w'=>isun_any op w')
 have HB:=dhid (fun w'=>isbin_any op w')
 have HA:=dhid (fun o=>hbd.alloc (Nat.le_refl _) o)
 by_cases hu:unE op=0
 · rw [if_pos hu]
   rw [show decide (unE op=0)=true by simp [hu]] at HU
   by_cases hw:1≤ws.length
   · obtain ⟨k,hk⟩:∃ k,ws.length=k+1:=⟨ws.length-1,by omega⟩
     rw [if_pos hw,(last_at hk).1,(last_at hk).2]
     obtain ⟨b,off,rfl,hbl,hc⟩:=hr hw
     have c0:=hc k (by omega)
     have hx:ws.getD k 0<4294967296:=hws _ (by rw [List.getD_eq_getElem?_getD,List.getElem?_eq_getElem (by omega)];simp)
     have HX:=dhid (fun w'=>ru_any op (ws.getD k 0) w' hx)
     rw [hu] at HX
     have HW:=dhid (fun w' (hh:Below w.heap.size w w')=>with_on (some ⟨b,off,none⟩) cap k (unV op (ws.getD k 0)) ws (ws.take k ++ [unV op (ws.getD k 0)]) rfl w' (by omega) hl (WoR.mono (hr.below hh) hh.size))
     generalize ws.take k ++ [unV op (ws.getD k 0)]=M at HW
     generalize unV op (ws.getD k 0)=y at *
     have HS:=dhid (fun V (hh:Below w.heap.size w V)=>(hh.cell (p:=⟨b,off+k,none⟩) hbl).trans c0)
     generalize ws.getD k 0=x at *
     clear hr hws hc c0
     have hkc:k+1≤cap:=by omega
     have hk64:k<64:=by omega
     rw [hk] at HW ⊢
     clear hk hcap hl
     have t1:¬ ((k:Int)+1<1):=by omega
     have t3:(0:Int)≤(k:Int):=by omega
     have t4:(k:Int)<(k:Int)+1:=by omega
     have hwk:IntKind.i64.wrap (k:Int)=(k:Int):=by rw [IntKind.wrap_i64];omega
     clear hw hu hop
     go_enter Tryz.func72,Tryz.ntmps72
     go_wp2_with (first
       | (go_at_call 68;with_reducible refine (HU.out _).mono ?_;rintro e w1 ⟨rfl,hb1⟩
          have o1:=dhid ((hb1.block w.heap.size (by simp)).trans (heap_alloc_new w _))
          have R1:=dhid ((HA.out _).trans (hb1.mono (by simp)))))
     have HS1:=dhid (fun V (hh:Below w1.heap.size w1 V)=>And.intro (obj_cell ((hh.block w.heap.size (Array.getElem?_eq_some_iff.1 o1.out).1).trans o1.out) 0) (HS.out V (R1.out.trans (hh.mono R1.out.size))))
     simp only [List.getElem?_toArray,List.getElem?_cons_zero] at HS1
     have R0:Hid (Below w1.heap.size w1 w1.drew):=dhid (Below.drew (Below.refl _ _))
     clear HS HU HB hb1 o1
     go_region_held3 (fun V=>V.cell? ⟨w.heap.size,0,none⟩=some (.int .u8 (op:Int))∧V.cell? ⟨b,off+k,none⟩=some (.int .u32 (x:Int))) (first|exact HS1.out _ R0.out|exact HS1.out _ (Below.refl _ _)|exact HS1.out _ (R0.out.trans (hb2.mono R0.out.size))) (first
       |(go_at_call 78;with_reducible refine (HX.out _).mono ?_;rintro e w2 ⟨rfl,hb2⟩))
     have R2:=dhid (R1.out.trans ((R0.out.trans (hb2.mono R0.out.size)).mono R1.out.size))
     go_wp2_with (go_at_call 83;with_reducible refine (HW.out _ R2.out).mono ?_;rintro e w3 ⟨bo,c,rfl,h1,hb3⟩)
     go_ret2
     exact .inr ⟨_,_,M,rfl,rfl,h1.out.1,h1.out.2,R2.out.trans (hb3.mono R2.out.size)⟩
   · rw [if_neg hw]
     have h0:ws.length=0:=by omega
     rw [h0]
     clear hw hu hop HB
     go_enter Tryz.func72,Tryz.ntmps72
     go_wp2_with (first
       | (go_at_call 68;with_reducible refine (HU.out _).mono ?_;rintro e w1 ⟨rfl,hb1⟩
          have R1:=dhid ((HA.out _).trans (hb1.mono (by simp)))))
     go_ret2
     exact .inl ⟨_,_,_,rfl,rfl,R1.out⟩
 rw [if_neg hu]
 rw [show decide (unE op=0)=false by simp [hu]] at HU
 by_cases hb:binE op 1=0
 · rw [if_pos hb]
   rw [show decide (binE op 1=0)=true by simp [hb]] at HB
   by_cases hw:2≤ws.length
   · obtain ⟨k,hk⟩:∃ k,ws.length=k+2:=⟨ws.length-2,by omega⟩
     have hk1:ws.length=(k+1)+1:=hk
     rw [(last_at hk1).1,(last_at2 hk).1,(last_at2 hk).2]
     obtain ⟨b,off,rfl,hbl,hc⟩:=hr (by omega)
     have c0:=hc k (by omega)
     have c1:=hc (k+1) (by omega)
     have hx:ws.getD k 0<4294967296:=hws _ (by rw [List.getD_eq_getElem?_getD,List.getElem?_eq_getElem (by omega)];simp)
     have hy:ws.getD (k+1) 0<4294967296:=hws _ (by rw [List.getD_eq_getElem?_getD,List.getElem?_eq_getElem (by omega)];simp)
     have HX:=dhid (fun w'=>rb_any op (ws.getD k 0) (ws.getD (k+1) 0) w' hx hy)
     have HW:=dhid (fun w' (hh:Below w.heap.size w w')=>with_on (some ⟨b,off,none⟩) cap k (binV op (ws.getD k 0) (ws.getD (k+1) 0)) ws (ws.take k ++ [binV op (ws.getD k 0) (ws.getD (k+1) 0)]) rfl w' (by omega) hl (WoR.mono (hr.below hh) hh.size))
     generalize ws.take k ++ [binV op (ws.getD k 0) (ws.getD (k+1) 0)]=M at *
     generalize binV op (ws.getD k 0) (ws.getD (k+1) 0)=z at *
     have HS:=dhid (fun V (hh:Below w.heap.size w V)=>And.intro ((hh.cell (p:=⟨b,off+k,none⟩) hbl).trans c0) ((hh.cell (p:=⟨b,off+(k+1),none⟩) hbl).trans c1))
     generalize ws.getD k 0=x at *
     generalize ws.getD (k+1) 0=y at *
     clear hr hws hc c0 c1
     have hkc:k+2≤cap:=by omega
     have hk64:k<63:=by omega
     rw [show (if 2≤ws.length∧binE op y=0 then some M else none)=(if binE op y=0 then some M else none) by simp [hw]]
     obtain ⟨o,hO⟩:∃ o,o=(if binE op y=0 then some M else none):=⟨_,rfl⟩
     rw [←hO]
     replace hO:=dhid hO
     rw [hk] at HW ⊢
     clear hk hk1 hcap hl
     have t1:¬ ((k:Int)+2<2):=by omega
     have t3:(0:Int)≤(k:Int):=by omega
     have t4:(k:Int)<(k:Int)+2:=by omega
     have t5:(k:Int)+1<(k:Int)+2:=by omega
     have t6:(0:Int)≤(k:Int)+1:=by omega
     have hwk:IntKind.i64.wrap (k:Int)=(k:Int):=by rw [IntKind.wrap_i64];omega
     have hwk1:IntKind.i64.wrap ((k:Int)+2-1)=(k:Int)+1:=by rw [IntKind.wrap_i64];omega
     have hwk2:IntKind.i64.wrap ((k:Int)+1)=(k:Int)+1:=by rw [IntKind.wrap_i64];omega
     have t7:((k:Int)+1).toNat=k+1:=by omega
     have t8:((k:Int)+2-1)=(k:Int)+1:=by omega
     clear hw hu hop hb
     go_enter Tryz.func72,Tryz.ntmps72
     go_wp2_with (first
       | (go_at_call 68;with_reducible refine (HU.out _).mono ?_;rintro e w0 ⟨rfl,hb0⟩
          have o0:=dhid ((hb0.block w.heap.size (by simp)).trans (heap_alloc_new w _))
          have e0:=obj_cell o0.out 0
          simp only [List.getElem?_toArray,List.getElem?_cons_zero] at e0
          have R0:=dhid ((HA.out _).trans (hb0.mono (by simp))))
       | (go_at_call 69;with_reducible refine (HB.out _).mono ?_;rintro e w1 ⟨rfl,hb1⟩
          have o1:=dhid ((hb1.block w.heap.size (Array.getElem?_eq_some_iff.1 o0.out).1).trans o0.out)
          have R1:=dhid (R0.out.trans (hb1.mono R0.out.size))))
     have HS1:=dhid (fun V (hh:Below w1.heap.size w1 V)=>And.intro (obj_cell ((hh.block w.heap.size (Array.getElem?_eq_some_iff.1 o1.out).1).trans o1.out) 0) (HS.out V (R1.out.trans (hh.mono R1.out.size))))
     simp only [List.getElem?_toArray,List.getElem?_cons_zero] at HS1
     have R0':Hid (Below w1.heap.size w1 w1.drew):=dhid (Below.drew (Below.refl _ _))
     clear HS HU HB hb1 o1 hb0 o0 R0 e0
     go_region_held3 (fun V=>V.cell? ⟨w.heap.size,0,none⟩=some (.int .u8 (op:Int))∧V.cell? ⟨b,off+k,none⟩=some (.int .u32 (x:Int))∧V.cell? ⟨b,off+(k+1),none⟩=some (.int .u32 (y:Int))) (first|exact HS1.out _ R0'.out|exact HS1.out _ (Below.refl _ _)|exact HS1.out _ (R0'.out.trans (hb2.mono R0'.out.size))) (first
       |(go_at_call 79;with_reducible refine (HX.out _).mono ?_;rintro e w2 ⟨rfl,hb2⟩))
     have R2:=dhid (R1.out.trans ((R0'.out.trans (hb2.mono R0'.out.size)).mono R1.out.size))
     by_cases hE:binE op y=0
     · have hO1:o=some M:=by rw [hO.out,if_pos hE]
       have dE:((binE op y:Int) == 0)=true:=by rw [hE];rfl
       clear hE hO
       replace hO1:=dhid hO1
       generalize binE op y=er at *
       go_wp2_with (go_at_call 83;with_reducible refine (HW.out _ R2.out).mono ?_;rintro e w3 ⟨bo,c,rfl,h1,hb3⟩)
       go_ret2
       exact .inr ⟨_,_,M,hO1.out,rfl,h1.out.1,h1.out.2,R2.out.trans (hb3.mono R2.out.size)⟩
     · have hO1:o=none:=by rw [hO.out,if_neg hE]
       have dE:((binE op y:Int) == 0)=false:=by rw [beq_eq_false_iff_ne];exact hE
       clear hE hO
       replace hO1:=dhid hO1
       generalize binE op y=er at *
       go_wp2_with (go_at_call 83;with_reducible refine (HW.out _ R2.out).mono ?_;rintro e w3 ⟨bo,c,rfl,h1,hb3⟩)
       go_ret2
       exact .inl ⟨_,_,_,hO1.out,rfl,R2.out.trans (hb3.mono R2.out.size)⟩
   · rw [if_neg (fun e=>hw e.1)]
     have t0:(ws.length:Int)<2:=by omega
     clear hw hu hop hr hws
     generalize ws.length=n at *
     go_enter Tryz.func72,Tryz.ntmps72
     go_wp2_with (first
       | (go_at_call 68;with_reducible refine (HU.out _).mono ?_;rintro e w1 ⟨rfl,hb1⟩
          have o1:=dhid ((hb1.block w.heap.size (by simp)).trans (heap_alloc_new w _))
          have e0:=obj_cell o1.out 0
          simp only [List.getElem?_toArray,List.getElem?_cons_zero] at e0
          have R1:=dhid ((HA.out _).trans (hb1.mono (by simp))))
       | (go_at_call 69;with_reducible refine (HB.out _).mono ?_;rintro e w2 ⟨rfl,hb2⟩
          have R2:=dhid (R1.out.trans (hb2.mono R1.out.size))))
     go_ret2
     exact .inl ⟨_,_,_,rfl,rfl,R2.out⟩
 · rw [if_neg hb]
   rw [show decide (binE op 1=0)=false by simp [hb]] at HB
   clear hb hu hop hr hws
   go_enter Tryz.func72,Tryz.ntmps72
   go_wp2_with (first
     | (go_at_call 68;with_reducible refine (HU.out _).mono ?_;rintro e w1 ⟨rfl,hb1⟩
        have o1:=dhid ((hb1.block w.heap.size (by simp)).trans (heap_alloc_new w _))
        have e0:=obj_cell o1.out 0
        simp only [List.getElem?_toArray,List.getElem?_cons_zero] at e0
        have R1:=dhid ((HA.out _).trans (hb1.mono (by simp))))
     | (go_at_call 69;with_reducible refine (HB.out _).mono ?_;rintro e w2 ⟨rfl,hb2⟩
        have R2:=dhid (R1.out.trans (hb2.mono R1.out.size))))
   go_ret2
   exact .inl ⟨_,_,_,rfl,rfl,R2.out⟩
theorem wpList_store_rowD {P:Program} {ops:Array Oper} {Q:Exit→Act→World→Prop} {rest:List Oper} {o:Oper} {a:Act} {w:World} (hg:o.guard=none) (t:TypeId) (p q:Operand) (ho:o.op=.store t p q)
   (b:Nat) (cs cs':Array Value) (h0:a.eval p=.pointer (some ⟨b,0,none⟩)) (h1:a.eval q=.agg cs') (hb:w.heap[b]?=some (.cells cs t)) (hi:(P.info? t).map (·.size)=some cs'.size) (hs:cs.size=cs'.size) (h2:cs'.all (·.oneCell')=true)
   (h:wpList P ops Q rest (a.put o.dst undef) (w.setRow b cs')):wpList P ops Q (o :: rest) a w:=by
 refine wpList_plain hg fun _ hK=>?_
 have:=run_storeVar_row (P:=P) w b t t cs cs' hb hi hs h2
 unfold Oper.wp
 have hr:(execOp a.eval o).run P w=.ok .skip (w.setRow b cs'):=by
   simp only [execOp,ho,h0,h1,Instr.storeAt,Instr.sureAddr,Sem.run_bind,Sem.run_pure,Result.andThen,this]
 rw [hr]
 exact hK _ _ h
theorem sizeDPc:(Tryz.prog.info? 70).map (·.size)=some 4:=by kernel_rfl
theorem undDPc:∃ fs,Tryz.prog.underlying 70=some (.struct fs):=by
 have h:(match Tryz.prog.underlying 70 with|some (.struct _)=>true|_=>false)=true:=by kernel_rfl
 split at h
 · exact ⟨_,by assumption⟩
 · cases h
theorem resDPc {fn:Func} {p:Tmp} (hf:fn.results=#[.cell p 70]) (W:World) (b:Nat) (cs:Array Value) (hs:cs.size=4) (hb:W.heap[b]?=some (.cells cs 70)) (tmps:Array Value) (h2:tmps.getD p undef=.pointer (some ⟨b,0,none⟩)) :
   (results fn tmps).run Tryz.prog W=.ok (.agg cs) W:=by
 obtain ⟨fs,hu⟩:=undDPc
 exact results_cell_row (p:=p) (ty:=70) hf tmps W b 70 cs (0,0) _ h2 hb hu rfl (by rw [sizeDPc,hs])
theorem resEPc {fn:Func} {p u:Tmp} (hf:fn.results=#[.cell p 70,.tmp u]) (t2:Value) (W:World) (b:Nat) (cs:Array Value) (hs:cs.size=4) (hb:W.heap[b]?=some (.cells cs 70)) (tmps:Array Value) (h2:tmps.getD p undef=.pointer (some ⟨b,0,none⟩)) (h3:tmps.getD u undef=t2) :
   (results fn tmps).run Tryz.prog W=.ok (.tuple #[.agg cs,t2]) W:=by
 obtain ⟨fs,hu⟩:=undDPc
 rw [results_cell_tmp hf,h2,h3]
 have:=run_loadVar_row (P:=Tryz.prog) W b 70 70 cs (0,0) _ hb hu rfl (by rw [sizeDPc,hs])
 simp only [asAddr,Sem.run_pure,Result.andThen,this]
def pcA (at':Nat) (c:Nat × Nat × Nat):Array Value:=#[.int .u32 (at':Int),.int .u32 (c.1:Int),.int .u8 (c.2.1:Int),.int .u32 (c.2.2:Int)]
theorem fcheck_any (op arg:Nat) (w:World) (h:op<256) :
   Calls Tryz.prog 23 #[.agg #[.int .u8 op,.int .u32 arg]] w fun e w'=>e=.returned (.int .i64 (erV op arg))∧Below w.heap.size w w':=by
 have hI:=fun w=>sized_any op arg w h
 go_enter Tryz.func23,Tryz.ntmps23
 go_wp2_with (go_at_call 47;refine (hI _).mono ?_;rintro e wq ⟨rfl,hq⟩)
 go_ret
 exact ⟨rfl,bt (bel (Below.refl _ _)) hq⟩
theorem fone_any (at':Nat) (w:World) :
   Calls Tryz.prog 73 #[.int .u32 (at':Int)] w fun e w'=>e=.returned (.agg (pcA at' (1,1,0)))∧Below w.heap.size w w':=by
 go_enter Tryz.func73,Tryz.ntmps73
 go_wp2
 exact bodyPost_ret (resDPc (p:=2) (by kernel_rfl) _ w.heap.size _ rfl (heap_alloc_last w _) _ rfl) rfl ⟨rfl,bel (Below.refl _ _)⟩
theorem left_any (b at' len:Nat) (w:World) (ws:List Nat) (h:RoS b w ws) :
   Calls Tryz.prog 77 #[.pointer (some ⟨b,0,none⟩),.int .u32 (at':Int),.int .u32 (len:Int)] w fun e w'=>e=.returned (.agg (pcA at' (leftV ws len)))∧Below w.heap.size w w':=by
 have c64:=h.cnt
 have hbl:=h.lt
 have hne:¬ b=w.heap.size:=by omega
 by_cases h0:ws.length=0
 · rw [show leftV ws len=(len,4,0) by simp [leftV,h0]]
   rw [h0] at c64
   go_enter Tryz.func77,Tryz.ntmps77
   go_wp2
   exact bodyPost_ret (resDPc (p:=6) (by kernel_rfl) _ w.heap.size _ rfl (heap_alloc_last w _) _ rfl) rfl ⟨rfl,bel (Below.refl _ _)⟩
 · rw [show leftV ws len=(len,2,ws.getD 0 0) by simp [leftV,h0]]
   have c0:=h.wd (i:=0) (by omega)
   have hz:((ws.length:Int) == 0)=false:=by rw [beq_eq_false_iff_ne];omega
   have hz':¬ (ws.length:Int)=0:=by omega
   go_enter Tryz.func77,Tryz.ntmps77
   go_wp2
   exact bodyPost_ret (resDPc (p:=6) (by kernel_rfl) _ w.heap.size _ rfl (heap_alloc_last w _) _ rfl) rfl ⟨rfl,bel (Below.refl _ _)⟩
abbrev infA (op:Nat):Array Value:=#[.string (opWd op),.int .i64 (opWi op:Int),.int .u32 (opMo op:Int),.int .i64 (opTa op:Int),.int .i64 (opGi op:Int),.int .u8 (opKi op:Int)]
theorem bears_gen (b op ta gi n:Nat) (w:World) (hbl:b<w.heap.size) (c64:w.cell? ⟨b,64,none⟩=some (.int .i64 (n:Int))) (hle:n≤64) (t1:ta≤2000000) (t2:gi≤2000000) :
   Calls Tryz.prog 74 #[.pointer (some ⟨b,0,none⟩),.agg #[.string (opWd op),.int .i64 (opWi op:Int),.int .u32 (opMo op:Int),.int .i64 (ta:Int),.int .i64 (gi:Int),.int .u8 (opKi op:Int)]] w fun e w'=>e=.returned (.bool (decide (ta≤n∧n-ta+gi≤64)))∧Below w.heap.size w w':=by
 have hne:¬ b=w.heap.size:=by omega
 have HB:=dhid (fun (o:Obj) (k:Nat)=>(show Below w.heap.size w ((w.alloc o).drewN k) from ⟨rfl,rfl,rfl,by simp,fun j hj=>Below.heap_alloc _ _ _ hj⟩))
 by_cases h1:ta≤n
 · have d1:decide (ta≤n)=true:=decide_eq_true h1
   have hs1:IntKind.i64.wrap ((n:Int)-(ta:Int))=((n-ta:Nat):Int):=by rw [IntKind.wrap_i64];omega
   have hs2:IntKind.i64.wrap (((n-ta:Nat):Int)+(gi:Int))=((n-ta+gi:Nat):Int):=by rw [IntKind.wrap_i64];omega
   rw [show decide (ta≤n∧n-ta+gi≤64)=decide (n-ta+gi≤64) by simp [h1]]
   generalize n-ta+gi=q at *
   generalize n-ta=r at *
   go_enter Tryz.func74,Tryz.ntmps74
   go_wp2
   go_quiet (fail)
   go_wp2
   go_ret
   exact ⟨by rw [show decide ((q:Int)≤64)=decide (q≤64) from decide_eq_decide.2 (by omega)];rfl,HB.out _ _⟩
 · have d1:decide (ta≤n)=false:=decide_eq_false h1
   rw [decide_eq_false (show ¬ (ta≤n∧n-ta+gi≤64) from fun c=>h1 c.1)]
   go_enter Tryz.func74,Tryz.ntmps74
   go_wp2
   go_quiet (fail)
   go_wp2
   go_ret
   exact ⟨rfl,HB.out _ _⟩
theorem bears_any (b op:Nat) (w:World) (ws:List Nat) (hop:op<256) (h:RoS b w ws) :
   Calls Tryz.prog 74 #[.pointer (some ⟨b,0,none⟩),.agg (infA op)] w fun e w'=>e=.returned (.bool (brB ws op))∧Below w.heap.size w w':=
 bears_gen b op (opTa op) (opGi op) ws.length w h.lt h.cnt h.le (ta_small op hop).1 (ta_small op hop).2
theorem works_any (b op:Nat) (w:World) (ws:List Nat) (_hop:op<256) (h:RoS b w ws) (hta:opTa op≤ws.length) :
   Calls Tryz.prog 88 #[.pointer (some ⟨b,0,none⟩),.int .u8 (op:Int),.int .i64 (opTa op:Int)] w fun e w'=>e=.returned (.bool (wkV ws op).isSome)∧(∀ ws',wkV ws op=some ws'→RoS b w' ws')∧Kp (fun k=>k=b) w w':=by
 have hle:=h.le
 by_cases h1:opTa op=1
 · rw [h1] at hta ⊢
   have hlast:=getLastD_bd h.bd
   have HU:=dhid (fun w=>un_any op (ws.getLastD 0) w hlast)
   have hcut:=last_cut ws (by omega)
   have HW:=dhid (show wkV ws op=if unE op=0 then some (ws.dropLast ++ [unV op (ws.getLastD 0)]) else none by simp [wkV,h1])
   have h':RoS b w (ws.dropLast ++ [ws.getLastD 0]):=hcut▸h
   have hdl:=dropLast_len ws
   generalize ws.getLastD 0=x at *
   generalize ws.dropLast=us at *
   clear hcut h
   have HPo:=dhid (pop_any b x w us h')
   have hpb:=unV_lt op x hlast
   have HPu:=dhid (fun w' (hh:RoS b w' us)=>push_any b (unV op x) w' us hh hpb (by omega))
   clear h'
   by_cases hE:unE op=0
   · rw [HW.out,if_pos hE]
     clear HW
     rw [hE] at HU
     generalize unV op x=y at *
     go_enter Tryz.func88,Tryz.ntmps88
     go_wp2_with (first|(go_at_call 87;refine HPo.out.mono ?_;rintro e w1 ⟨rfl,hr1,hk1⟩)|(go_at_call 102;refine (HU.out _).mono ?_;rintro e w2 ⟨rfl,rfl⟩)|(go_at_call 86;refine (HPu.out _ hr1).mono ?_;rintro e w3 ⟨rfl,hr3,hk3⟩))
     go_ret
     exact ⟨rfl,fun ws' e=>by cases e;exact hr3,hk1.trans hk3 (fun _ _ e=>e)⟩
   · rw [HW.out,if_neg hE]
     clear HW
     have hE':(unE op == 0)=false:=by rw [beq_eq_false_iff_ne];exact hE
     generalize unE op=er at *
     generalize unV op x=y at *
     go_enter Tryz.func88,Tryz.ntmps88
     go_wp2_with (first|(go_at_call 87;refine HPo.out.mono ?_;rintro e w1 ⟨rfl,hr1,hk1⟩)|(go_at_call 102;refine (HU.out _).mono ?_;rintro e w2 ⟨rfl,rfl⟩))
     go_ret
     exact ⟨rfl,fun ws' e=>(by cases e),hk1⟩
 · by_cases h2:opTa op=2
   · rw [h2] at hta ⊢
     have hlast:=getLastD_bd h.bd
     have hlast2:=getLastD_bd (dropLast_bd h.bd)
     have HU:=dhid (fun w=>bin_any op (ws.dropLast.getLastD 0) (ws.getLastD 0) w hlast2 hlast)
     have hcut:=last_cut ws (by omega)
     have hcut2:=last_cut ws.dropLast (by rw [dropLast_len];omega)
     have HW:=dhid (show wkV ws op=if binE op (ws.getLastD 0)=0 then some (ws.dropLast.dropLast ++ [binV op (ws.dropLast.getLastD 0) (ws.getLastD 0)]) else none by simp [wkV,h2])
     have h':RoS b w (ws.dropLast.dropLast ++ [ws.dropLast.getLastD 0] ++ [ws.getLastD 0]):=by rw [←hcut2,←hcut];exact h
     have hdl:=dropLast_len ws
     have hdl2:=dropLast_len ws.dropLast
     generalize ws.getLastD 0=x at *
     generalize ws.dropLast.getLastD 0=z at *
     generalize ws.dropLast.dropLast=us at *
     generalize ws.dropLast=vs at *
     clear hcut hcut2 h
     have HPo:=dhid (pop2_any b z x w us h')
     have hpb:=binV_lt op z x hlast2 hlast
     have HPu:=dhid (fun w' (hh:RoS b w' us)=>push_any b (binV op z x) w' us hh hpb (by omega))
     clear h'
     by_cases hE:binE op x=0
     · rw [HW.out,if_pos hE]
       clear HW
       rw [hE] at HU
       generalize binV op z x=y at *
       go_enter Tryz.func88,Tryz.ntmps88
       go_wp2_with (first|(go_at_call 84;refine HPo.out.mono ?_;rintro e w1 ⟨rfl,hr1,hk1⟩)|(go_at_call 103;refine (HU.out _).mono ?_;rintro e w2 ⟨rfl,hb2⟩;have hr2:=hr1.kept (Kp.ofBelow (S:=fun _=>False) hb2) (fun e=>e))|(go_at_call 86;refine (HPu.out _ hr2).mono ?_;rintro e w3 ⟨rfl,hr3,hk3⟩))
       go_ret
       exact ⟨rfl,fun ws' e=>by cases e;exact hr3,(hk1.trans (Kp.ofBelow (S:=fun _=>False) hb2) (fun _ _ e=>e.elim)).trans hk3 (fun _ _ e=>e)⟩
     · rw [HW.out,if_neg hE]
       clear HW
       have hE':(binE op x == 0)=false:=by rw [beq_eq_false_iff_ne];exact hE
       generalize binE op x=er at *
       generalize binV op z x=y at *
       go_enter Tryz.func88,Tryz.ntmps88
       go_wp2_with (first|(go_at_call 84;refine HPo.out.mono ?_;rintro e w1 ⟨rfl,hr1,hk1⟩)|(go_at_call 103;refine (HU.out _).mono ?_;rintro e w2 ⟨rfl,hb2⟩))
       go_ret
       exact ⟨rfl,fun ws' e=>(by cases e),hk1.trans (Kp.ofBelow (S:=fun _=>False) hb2) (fun _ _ e=>e.elim)⟩
   · rw [show wkV ws op=none by simp [wkV,h1,h2]]
     have d1:((opTa op:Int) == 1)=false:=by rw [beq_eq_false_iff_ne];omega
     have d2:((opTa op:Int) == 2)=false:=by rw [beq_eq_false_iff_ne];omega
     have d1':¬ (opTa op:Int)=1:=by omega
     have d2':¬ (opTa op:Int)=2:=by omega
     generalize opTa op=ta at *
     clear h
     go_enter Tryz.func88,Tryz.ntmps88
     go_wp2
     go_ret
     exact ⟨rfl,fun ws' e=>(by cases e),Kp.refl _ _⟩
theorem al2a (w:World) (o1 o2:Obj):((w.alloc o1).alloc o2).heap[w.heap.size]?=some o1:=(Below.heap_alloc _ _ _ (by simp)).trans (heap_alloc_new w o1)
theorem al2b (w:World) (o1 o2:Obj):((w.alloc o1).alloc o2).heap[w.heap.size+1]?=some o2:=by
 have:=heap_alloc_new (w.alloc o1) o2
 simpa using this
theorem KpSetRow {S:Nat→Prop} (w:World) (g:Nat) (cs:Array Value) (hs:S g):Kp S w (w.setRow g cs):=
 ⟨rfl,rfl,rfl,by simp [World.setRow],fun k _ hn=>setRow_other w g k cs (fun e=>hn (e▸hs))⟩
theorem two_of (ws:List Nat) (h:ws.length=2):ws=[] ++ [ws.getD 0 0] ++ [ws.getD 1 0]:=by
 match ws,h with
 | [a,b],_=>rfl
theorem compared_any (b op arg at' len:Nat) (w:World) (ws:List Nat) (h:RoS b w ws) (h2:ws.length=2) :
   Calls Tryz.prog 75 #[.pointer (some ⟨b,0,none⟩),.agg #[.int .u8 (op:Int),.int .u32 (arg:Int)],.int .u32 (at':Int),.int .u32 (len:Int)] w fun e w'=>e=.returned (.agg (pcA at' (cmpV ws op arg len)))∧Kp (fun k=>k=b) w w':=by
 have ha:ws.getD 0 0<4294967296:=h.bd _ (by rw [two_of ws h2];simp)
 have hb:ws.getD 1 0<4294967296:=h.bd _ (by rw [two_of ws h2];simp)
 have HO:=dhid (fun w=>ho_any op (ws.getD 0 0) (ws.getD 1 0) w ha hb)
 have h':RoS b w ([] ++ [ws.getD 0 0] ++ [ws.getD 1 0]):=two_of ws h2▸h
 have hbl:=h.lt
 have HP:=dhid (fun w' (hk:Kp (fun _=>False) w w')=>pop2_any b _ _ w' _ (h'.kept hk (fun e=>e)))
 have HL:=dhid (fun w' (hr:RoS b w' [])=>left_any b at' len w' [] hr)
 have HC:=dhid (show cmpV ws op arg len=if hoV op (ws.getD 0 0) (ws.getD 1 0) then (len,3,arg) else (len,4,0) from rfl)
 generalize hoE op=he at *
 generalize hoV op (ws.getD 0 0) (ws.getD 1 0)=hv at *
 generalize ws.getD 0 0=x at *
 generalize ws.getD 1 0=y at *
 clear h h'
 have hA:=dhid (fun (o1 o2:Obj)=>(Kp.alloc (S:=fun _=>False) w o1).trans (Kp.alloc (S:=fun _=>False) (w.alloc o1) o2) (fun _ _ e=>e))
 have hA':=dhid (fun (o1 o2:Obj)=>(Kp.alloc (S:=fun k=>k=b) w o1).trans (Kp.alloc (S:=fun k=>k=b) (w.alloc o1) o2) (fun _ _ e=>e))
 have hne1:¬ w.heap.size=b:=by omega
 have hne2:¬ w.heap.size+1=b:=by omega
 cases hv with
 | true =>
   rw [HC.out,if_pos rfl]
   go_enter Tryz.func75,Tryz.ntmps75
   go_wp2_with (first
     | (go_at_call 84;refine (HP.out _ (hA.out _ _)).mono ?_;rintro e w1 ⟨rfl,hr1,hk1⟩
        have o1:=(hk1.block w.heap.size (by simp;omega) hne1).trans (al2a w _ _)
        have o2:=(hk1.block (w.heap.size+1) (by simp) hne2).trans (al2b w _ _)
        have c0:=obj_cell o1 0
        have c1:=obj_cell o1 1
        simp only [List.getElem?_toArray,List.getElem?_cons_zero,List.getElem?_cons_succ] at c0 c1
        replace o1:=trivial
        replace o2:=dhid o2)
     |(go_at_call 85;refine (HO.out _).mono ?_;rintro e w2 ⟨rfl,rfl⟩)
     |(refine wpList_store_rowD rfl _ _ _ rfl (w.heap.size+1) _ (pcA at' (len,3,arg)) rfl rfl o2.out (by rw [sizeDPc];rfl) rfl (by simp [pcA,Value.oneCell']) ?_))
   refine bodyPost_ret (resDPc (p:=8) (by kernel_rfl) _ (w.heap.size+1) (pcA at' (len,3,arg)) rfl (setRow_heap _ _ _ _ _ _ o2.out) _ rfl) rfl ⟨rfl,?_⟩
   exact ((hA'.out _ _).trans hk1 (fun _ _ e=>e)).trans (KpSetRow (S:=fun k=>k=w.heap.size+1) w2 (w.heap.size+1) _ rfl) (fun k hk e=>by omega)
 | false=>
   rw [HC.out,if_neg (by simp)]
   go_enter Tryz.func75,Tryz.ntmps75
   go_wp2_with (first
     | (go_at_call 84;refine (HP.out _ (hA.out _ _)).mono ?_;rintro e w1 ⟨rfl,hr1,hk1⟩
        have o1:=(hk1.block w.heap.size (by simp;omega) hne1).trans (al2a w _ _)
        have o2:=(hk1.block (w.heap.size+1) (by simp) hne2).trans (al2b w _ _)
        have c0:=obj_cell o1 0
        have c1:=obj_cell o1 1
        simp only [List.getElem?_toArray,List.getElem?_cons_zero,List.getElem?_cons_succ] at c0 c1
        replace o1:=trivial
        have hz1:=hk1.size
        replace o2:=dhid o2)
     |(go_at_call 85;refine (HO.out _).mono ?_;rintro e w2 ⟨rfl,rfl⟩)
     | (go_at_call 77;refine (HL.out _ hr1).mono ?_;rintro e w3 ⟨rfl,hb3⟩
        have o3:=(hb3.block (w.heap.size+1) (by simp at hz1;omega)).trans o2.out
        replace o3:=dhid o3)
     |(refine wpList_store_rowD rfl _ _ _ rfl (w.heap.size+1) _ (pcA at' (len,4,0)) rfl rfl o3.out (by rw [sizeDPc];rfl) rfl (by simp [pcA,Value.oneCell']) ?_))
   refine bodyPost_ret (resDPc (p:=8) (by kernel_rfl) _ (w.heap.size+1) (pcA at' (len,4,0)) rfl (setRow_heap _ _ _ _ _ _ o3.out) _ rfl) rfl ⟨rfl,?_⟩
   exact (((hA'.out _ _).trans hk1 (fun _ _ e=>e)).trans (Kp.ofBelow (S:=fun _=>False) hb3) (fun _ _ e=>e.elim)).trans (KpSetRow (S:=fun k=>k=w.heap.size+1) w3 (w.heap.size+1) _ rfl) (fun k hk e=>by omega)
theorem brB_ta {ws:List Nat} {op:Nat} (h:brB ws op=true):opTa op≤ws.length∧ws.length-opTa op+opGi op≤64:=of_decide_eq_true h
theorem RoS.boxed {b:Nat} {w:World} {ws:List Nat} (h:RoS b w ws) (o:Obj):RoS b (w.alloc o) ws:=h.kept (Kp.alloc (S:=fun _=>False) w o) (fun e=>e)
theorem plays_any (b op arg:Nat) (w:World) (ws:List Nat) (hop:op<256) (harg:arg<4294967296) (h:RoS b w ws) (hbr:brB ws op=true) :
   Calls Tryz.prog 76 #[.pointer (some ⟨b,0,none⟩),.agg #[.int .u8 (op:Int),.int .u32 (arg:Int)],.int .i64 (opTa op:Int)] w fun e w'=>e=.returned (.bool (plV ws op arg).isSome)∧(∀ ws',plV ws op arg=some ws'→RoS b w' ws')∧Kp (fun k=>k=b) w w':=by
 have hle:=h.le
 obtain ⟨hta,hgi⟩:=brB_ta hbr
 have hA:=dhid (fun (o1:Obj)=>Kp.alloc (S:=fun k=>k=b) w o1)
 have hA0:=dhid (fun (o1:Obj)=>h.boxed o1)
 have hbl:=h.lt
 by_cases h1:op=1
 · subst h1
   rw [show plV ws 1 arg=some ws from rfl]
   go_enter Tryz.func76,Tryz.ntmps76
   go_wp2
   go_ret
   exact ⟨rfl,fun ws' e=>(by cases e;exact hA0.out _),hA.out _⟩
 by_cases h8:op=8
 · subst h8
   rw [show plV ws 8 arg=some (ws ++ [arg]) from rfl]
   rw [ta_8.1,ta_8.2] at hgi
   have HP:=dhid (fun (o:Obj)=>push_any b arg (w.alloc o) ws (hA0.out o) harg (by omega))
   go_enter Tryz.func76,Tryz.ntmps76
   go_wp2_with (go_at_call 86;refine (HP.out _).mono ?_;rintro e w1 ⟨rfl,hr1,hk1⟩)
   go_ret
   exact ⟨rfl,fun ws' e=>(by cases e;exact hr1),(hA.out _).trans hk1 (fun _ _ e=>e)⟩
 by_cases h10:op=10
 · subst h10
   rw [show plV ws 10 arg=some ws.dropLast from rfl]
   rw [ta_10] at hta
   have HP:=dhid (fun (o:Obj)=>pop_any b (ws.getLastD 0) (w.alloc o) ws.dropLast (last_cut ws (by omega)▸hA0.out o))
   go_enter Tryz.func76,Tryz.ntmps76
   go_wp2_with (go_at_call 87;refine (HP.out _).mono ?_;rintro e w1 ⟨rfl,hr1,hk1⟩)
   go_ret
   exact ⟨rfl,fun ws' e=>(by cases e;exact hr1),(hA.out _).trans hk1 (fun _ _ e=>e)⟩
 by_cases h11:op=11
 · subst h11
   rw [show plV ws 11 arg=some (ws.dropLast ++ [ws.getLastD 0] ++ [ws.getLastD 0]) from rfl]
   rw [ta_11.1] at hta
   rw [ta_11.1,ta_11.2] at hgi
   have hx:=getLastD_bd h.bd
   have hdl:=dropLast_len ws
   have HP:=dhid (fun (o:Obj)=>pop_any b (ws.getLastD 0) (w.alloc o) ws.dropLast (last_cut ws (by omega)▸hA0.out o))
   generalize ws.getLastD 0=x at *
   generalize ws.dropLast=us at *
   have HQ:=dhid (fun w' (hh:RoS b w' us)=>push_any b x w' us hh hx (by omega))
   have HR:=dhid (fun w' (hh:RoS b w' (us ++ [x]))=>push_any b x w' (us ++ [x]) hh hx (by simp;omega))
   go_enter Tryz.func76,Tryz.ntmps76
   go_wp2_with (first|(go_at_call 87;refine (HP.out _).mono ?_;rintro e w1 ⟨rfl,hr1,hk1⟩)|(go_at_call 86;first|(refine (HR.out _ hr2).mono ?_;rintro e w3 ⟨rfl,hr3,hk3⟩)|(refine (HQ.out _ hr1).mono ?_;rintro e w2 ⟨rfl,hr2,hk2⟩)))
   go_ret
   exact ⟨rfl,fun ws' e=>(by cases e;exact hr3),(((hA.out _).trans hk1 (fun _ _ e=>e)).trans hk2 (fun _ _ e=>e)).trans hk3 (fun _ _ e=>e)⟩
 · rw [show plV ws op arg=wkV ws op by simp [plV,h1,h8,h10,h11]]
   have HW:=dhid (fun (o:Obj)=>works_any b op (w.alloc o) ws hop (hA0.out o) hta)
   have d1:((op:Int) == 1)=false:=by rw [beq_eq_false_iff_ne];omega
   have d8:((op:Int) == 8)=false:=by rw [beq_eq_false_iff_ne];omega
   have d10:((op:Int) == 10)=false:=by rw [beq_eq_false_iff_ne];omega
   have d11:((op:Int) == 11)=false:=by rw [beq_eq_false_iff_ne];omega
   have d1':¬ (op:Int)=1:=by omega
   have d8':¬ (op:Int)=8:=by omega
   have d10':¬ (op:Int)=10:=by omega
   have d11':¬ (op:Int)=11:=by omega
   generalize hq:wkV ws op=q at *
   go_enter Tryz.func76,Tryz.ntmps76
   go_wp2_with (go_at_call 88;refine (HW.out _).mono ?_;rintro e w1 ⟨rfl,hr1,hk1⟩)
   go_ret
   exact ⟨rfl,hr1,(hA.out _).trans hk1 (fun _ _ e=>e)⟩
def nb:Nat→Int→List Int
 |0,_=>[]
 |w+1,x=>x % 256 :: nb w (x / 256)
def ReadsK (w:World) (k:IntKind) (ao:Option Addr) (zs:List Int) (B:Nat):Prop:=
 0<zs.length→∃ b off,ao=some ⟨b,off,none⟩∧b<B∧∀ j,j<zs.length→w.cell? ⟨b,off+j,none⟩=some (.int k (zs.getD j 0))
theorem ReadsK.below {w w':World} {k:IntKind} {ao:Option Addr} {zs:List Int} {B:Nat} (h:ReadsK w k ao zs B) (hb:Below B w w'):ReadsK w' k ao zs B:=by
 intro hl
 obtain ⟨b,off,e,hlt,hc⟩:=h hl
 exact ⟨b,off,e,hlt,fun j hj=>(hb.cell (p:=⟨b,off+j,none⟩) hlt).trans (hc j hj)⟩
theorem ReadsK.mono {w:World} {k:IntKind} {ao:Option Addr} {zs:List Int} {B C:Nat} (h:ReadsK w k ao zs B) (hb:B≤C):ReadsK w k ao zs C:=by
 intro hl
 obtain ⟨b,off,e,hlt,hc⟩:=h hl
 exact ⟨b,off,e,Nat.lt_of_lt_of_le hlt hb,hc⟩
theorem Reads.drop {w:World} {b off:Nat} {zs:List Int} {B:Nat} (h:Reads w (some ⟨b,off,none⟩) zs B) (n:Nat) (hn:n<zs.length):Reads w (some ⟨b,off+n,none⟩) (zs.drop n) B:=by
 intro _
 obtain ⟨b',off',e,hlt,hc⟩:=h (by omega)
 simp only [Option.some.injEq,Addr.mk.injEq,and_true] at e
 obtain ⟨rfl,rfl⟩:=e
 refine ⟨_,_,rfl,hlt,fun j hj=>?_⟩
 rw [List.length_drop] at hj
 have:=hc (n+j) (by omega)
 rw [Nat.add_assoc,this]
 simp [List.getD]
def mk (k i:Int):Int:=
 bits BinOp.xor IntKind.u32 (((k+2)*2654435761+i*2246822519) % 4294967296) (((k+2)*2654435761+i*2246822519) % 4294967296 / 32768)*739982445 % 4294967296 / 16777216
def marks (k:Int) (m:Nat):List Int:=(List.range m).map fun (i:Nat)=>mk k (i:Int)
theorem grown_of_below {w w':World} (h:Below w.heap.size w w'):w.grownBy w' none:=⟨h.os,h.tape,h.output,h.size,fun k hk _=>h.block k hk⟩

end Go.Proofs.YtibhlcfligfhdaaGreat
