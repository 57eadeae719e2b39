import Derived.Test.YtibhlcfligfhdaaGreatCZDc
namespace Go.Proofs.YtibhlcfligfhdaaGreat
set_option maxHeartbeats 8000000
open Go.RowKit Go.WideShapes Go.Shelf
set_option maxRecDepth 100000
theorem dlast9_any (ao:Option Addr) (cap a e n:Nat) (L:List (Nat × Nat)) (w:World) (hL:L.length≤140737488355328) (hae:a+2≤e) (he:e≤L.length) (he32:e<4294967296) (hwf:Wfc L) (hr:CRd w ao L w.heap.size) :
   Calls Tryz.prog 45 #[.slice ao L.length cap,.int .i64 (a:Int),.int .i64 (e:Int),.agg (fzA ⟨a,n,9,0,0,0⟩)] w fun x w'=>LsP a n 9 (cnO ((L.drop a).take (e-1-a))) (L.getD (e-1) (0,0)) x∧Below w.heap.size w w':=by
 have HCN:=dhid (fun W (hW:Below w.heap.size w W)=>dcon_any ao cap a (e-1) L W hL (by omega) (by omega) (by omega) hwf ((hr.below hW).mono hW.size))
 obtain ⟨b,off,rfl,hbl,hc⟩:=hr (by omega)
 have hlt:e-1<L.length:=by omega
 have X0:=dhid (fun (W:World) (hW:Below w.heap.size w W)=>(hW.cell (p:=⟨b,off+(e-1)*2,none⟩) hbl).trans (hc (e-1) hlt).1)
 have X1:=dhid (fun (W:World) (hW:Below w.heap.size w W)=>(hW.cell (p:=⟨b,off+(e-1)*2+1,none⟩) hbl).trans (hc (e-1) hlt).2)
 have hop:=(hwf.at hlt).1
 generalize L.getD (e-1) (0,0)=q at X0 X1 hop ⊢
 obtain ⟨op,arg⟩:=q
 simp only at X0 X1 hop
 have hsub:(e:Int)-1=((e-1:Nat):Int):=by omega
 have hltI:((e-1:Nat):Int)<(L.length:Int):=by omega
 have hwm:wrap64 ((e-1:Nat):Int)=((e-1:Nat):Int):=by unfold wrap64;omega
 generalize e-1=m at *
 clear hc hwf hae he he32 hL
 have HDB:Hid (∀ W:World,Calls Tryz.prog 63 #[.int .u8 (op:Int)] W fun e w'=>e=.returned (.bool (dLoa op))∧Below W.heap.size W w'):=dhid (fun W=>(dload_any op W).mono (by rintro e w' ⟨h,rfl⟩;exact ⟨h,Below.refl _ _⟩))
 go_enter Tryz.func45,Tryz.ntmps45
 go_wp2_with fail
 refine (HCN.out _ (zbel2 w _ _)).mono ?_
 rintro en w2 ⟨⟨v,okc,rfl,hO⟩,hb2⟩
 have HO1:Hid (okc=true→cnO (List.take (m-a) (List.drop a L))=some v):=dhid (fun h=>by rw [hO,if_pos h])
 have HO0:Hid (okc=false→cnO (List.take (m-a) (List.drop a L))=none):=dhid (fun h=>by rw [hO,if_neg (by rw [h];decide)])
 have HB:=dhid ((Bs.new w ⟨a,n,9,0,0,0⟩ fz0).next hb2)
 have y0:=X0.out w2 HB.out.bw
 have y1:=X1.out w2 HB.out.bw
 have hlt2:w.heap.size+1<w2.heap.size:=HB.out.lt
 have hne1:w2.heap.size≠w.heap.size:=by omega
 have hne3:w.heap.size<w2.heap.size:=by omega
 obtain ⟨z0,z1,z2,z3,z4,z5⟩:=fz_cells HB.out.c0
 obtain ⟨u0,u1,u2,u3,u4,u5⟩:=fz_frozen HB.out.c0
 simp only at z0 z1 z2 z3 z4 z5
 have HB5:Hid (Bs w (((w2.setCell ⟨w.heap.size,4,none⟩ (.int .u32 (v:Int))).setCell ⟨w.heap.size,3,none⟩ (.int .u8 (op:Int))).alloc (Obj.cells #[.int .u8 (op:Int),.int .u32 (arg:Int)] 37)) ⟨a,n,9,op,v,0⟩ fz0):=dhid (((HB.out.seta v).setop op).next (bel1 _ _))
 have HI5:Hid ((((w2.setCell ⟨w.heap.size,4,none⟩ (.int .u32 (v:Int))).setCell ⟨w.heap.size,3,none⟩ (.int .u8 (op:Int))).alloc (Obj.cells #[.int .u8 (op:Int),.int .u32 (arg:Int)] 37)).heap[w2.heap.size]?=some (Obj.cells #[.int .u8 (op:Int),.int .u32 (arg:Int)] 37)):=dhid (by have hsz:((w2.setCell ⟨w.heap.size,4,none⟩ (.int .u32 (v:Int))).setCell ⟨w.heap.size,3,none⟩ (.int .u8 (op:Int))).heap.size=w2.heap.size:=(by simp only [World.size_setCell]);rw [←hsz];exact heap_alloc_new _ _)
 clear hO hb2 HCN X0 X1 hbl hr
 cases okc with
 | true =>
   go_wp2_with fail
   generalize ((w2.setCell ⟨w.heap.size,4,none⟩ (.int .u32 (v:Int))).setCell ⟨w.heap.size,3,none⟩ (.int .u8 (op:Int))).alloc (Obj.cells #[.int .u8 (op:Int),.int .u32 (arg:Int)] 37)=W5 at HB5 HI5 ⊢
   clear z0 z1 z2 z3 z4 z5 u0 u1 u2 u3 u4 u5 y0 y1 hne1 hne3
   have hI:w2.heap.size<W5.heap.size:=(Array.getElem?_eq_some_iff.1 HI5.out).1
   have SOF:Hid (∀ (V:World) (r:Fz),Bs w V ⟨a,n,9,op,v,0⟩ r→V.heap[w2.heap.size]?=some (Obj.cells #[.int .u8 (op:Int),.int .u32 (arg:Int)] 37)→V.cell? ⟨w.heap.size,0,none⟩=some (.int .u32 (a:Int))∧V.cell? ⟨w.heap.size,1,none⟩=some (.int .u32 (n:Int))∧V.cell? ⟨w.heap.size,2,none⟩=some (.int .u8 9)∧V.cell? ⟨w.heap.size,3,none⟩=some (.int .u8 (op:Int))∧V.cell? ⟨w.heap.size,4,none⟩=some (.int .u32 (v:Int))∧V.cell? ⟨w.heap.size,5,none⟩=some (.int .u32 0)∧V.cell? ⟨w2.heap.size,0,none⟩=some (.int .u8 (op:Int))):=dhid (fun V r hB hi=>⟨(fz_cells hB.c0).1,(fz_cells hB.c0).2.1,(fz_cells hB.c0).2.2.1,(fz_cells hB.c0).2.2.2.1,(fz_cells hB.c0).2.2.2.2.1,(fz_cells hB.c0).2.2.2.2.2,obj_cell hi 0⟩)
   have HBd:=dhid (show Bs w W5.drew ⟨a,n,9,op,v,0⟩ fz0 from ⟨⟨HB5.out.bw.os,HB5.out.bw.tape,HB5.out.bw.output,HB5.out.bw.size,HB5.out.bw.block⟩,HB5.out.c0,HB5.out.c1⟩)
   have HS5:=dhid (SOF.out _ _ HBd.out HI5.out)
   have HP:Hid (Bs w ((((((W5.setCell ⟨w.heap.size+1,0,none⟩ (.int .u32 (a:Int))).setCell ⟨w.heap.size+1,1,none⟩ (.int .u32 (n:Int))).setCell ⟨w.heap.size+1,2,none⟩ (.int .u8 9)).setCell ⟨w.heap.size+1,3,none⟩ (.int .u8 (op:Int))).setCell ⟨w.heap.size+1,4,none⟩ (.int .u32 (v:Int))).setCell ⟨w.heap.size+1,5,none⟩ (.int .u32 0)).drew ⟨a,n,9,op,v,0⟩ ⟨a,n,9,op,v,0⟩):=dhid (by have h:=(HB5.out.put ⟨a,n,9,op,v,0⟩).drewZ;simp only [put6] at h;exact h)
   have HIP:=dhid (((put6_any (f:=fz0) (f':=⟨a,n,9,op,v,0⟩) HB5.out.c1).2.block _ hI (by omega)).trans HI5.out)
   have HSP:=dhid (SOF.out _ _ HP.out (by have h:=HIP.out;simp only [put6] at h;rw [heap_drewZ];exact h))
   obtain ⟨z0,z1,z2,z3,z4,z5⟩:=fz_cells HBd.out.c1
   obtain ⟨u0,u1,u2,u3,u4,u5⟩:=fz_frozen HBd.out.c1
   obtain ⟨t0,t1,t2,t3,t4,t5⟩:=fz_cells HB5.out.c1
   obtain ⟨r0,r1,r2,r3,r4,r5⟩:=fz_frozen HB5.out.c1
   generalize hdn:dLoa op=okd at HDB
   go_region_held3 (fun V=>V.cell? ⟨w.heap.size,0,none⟩=some (.int .u32 (a:Int))∧V.cell? ⟨w.heap.size,1,none⟩=some (.int .u32 (n:Int))∧V.cell? ⟨w.heap.size,2,none⟩=some (.int .u8 9)∧V.cell? ⟨w.heap.size,3,none⟩=some (.int .u8 (op:Int))∧V.cell? ⟨w.heap.size,4,none⟩=some (.int .u32 (v:Int))∧V.cell? ⟨w.heap.size,5,none⟩=some (.int .u32 0)∧V.cell? ⟨w2.heap.size,0,none⟩=some (.int .u8 (op:Int))) (first|with_reducible exact HS5.out|with_reducible exact HSP.out|with_reducible exact HS3.out|with_reducible exact HSP3.out)
     (first
       | (with_reducible refine (HDB.out W5.drew).mono ?_
          rintro en w3 ⟨rfl,hb3⟩
          have HB3:Hid (Bs w w3 ⟨a,n,9,op,v,0⟩ fz0):=dhid (HBd.out.next hb3)
          have HI3:Hid (w3.heap[w2.heap.size]?=some (Obj.cells #[.int .u8 (op:Int),.int .u32 (arg:Int)] 37)):=dhid ((hb3.block _ hI).trans HI5.out)
          have HS3:=dhid (SOF.out _ _ HB3.out HI3.out)
          have HP3:Hid (Bs w ((((((w3.setCell ⟨w.heap.size+1,0,none⟩ (.int .u32 (a:Int))).setCell ⟨w.heap.size+1,1,none⟩ (.int .u32 (n:Int))).setCell ⟨w.heap.size+1,2,none⟩ (.int .u8 9)).setCell ⟨w.heap.size+1,3,none⟩ (.int .u8 (op:Int))).setCell ⟨w.heap.size+1,4,none⟩ (.int .u32 (v:Int))).setCell ⟨w.heap.size+1,5,none⟩ (.int .u32 0)) ⟨a,n,9,op,v,0⟩ ⟨a,n,9,op,v,0⟩):=dhid (by have h:=HB3.out.put ⟨a,n,9,op,v,0⟩;simp only [put6] at h;exact h)
          have HSP3:=dhid (SOF.out _ _ HP3.out (by have h:=((put6_any (f:=fz0) (f':=⟨a,n,9,op,v,0⟩) HB3.out.c1).2.block _ (Array.getElem?_eq_some_iff.1 HI3.out).1 (by omega)).trans HI3.out;simp only [put6] at h;exact h))
          obtain ⟨x0,x1,x2,x3,x4,x5⟩:=fz_cells HB3.out.c1
          obtain ⟨s0,s1,s2,s3,s4,s5⟩:=fz_frozen HB3.out.c1
          clear hb3)
       | (with_reducible refine (HDB.out ((((((W5.setCell ⟨w.heap.size+1,0,none⟩ (.int .u32 (a:Int))).setCell ⟨w.heap.size+1,1,none⟩ (.int .u32 (n:Int))).setCell ⟨w.heap.size+1,2,none⟩ (.int .u8 9)).setCell ⟨w.heap.size+1,3,none⟩ (.int .u8 (op:Int))).setCell ⟨w.heap.size+1,4,none⟩ (.int .u32 (v:Int))).setCell ⟨w.heap.size+1,5,none⟩ (.int .u32 0)).drew).mono ?_
          rintro en w3 ⟨rfl,hb3⟩
          have HB4:Hid (Bs w w3 ⟨a,n,9,op,v,0⟩ ⟨a,n,9,op,v,0⟩):=dhid (HP.out.next hb3)
          have HI4:Hid (w3.heap[w2.heap.size]?=some (Obj.cells #[.int .u8 (op:Int),.int .u32 (arg:Int)] 37)):=dhid (by have h:=HIP.out;simp only [put6] at h;rw [←heap_drewZ] at h;exact (hb3.block _ (Array.getElem?_eq_some_iff.1 h).1).trans h)
          have HS3:=dhid (SOF.out _ _ HB4.out HI4.out)
          clear hb3))
   all_goals first
     | (have hP:=HB4.out
        clear HSP HS5 HB5 HP HI5 HIP t0 t1 t2 t3 t4 t5 r0 r1 r2 r3 r4 r5 z0 z1 z2 z3 z4 z5 u0 u1 u2 u3 u4 u5 hlt2 HB4 HI4 HS3
        go_wp2_with fail
        exact bodyPost_ret (resFzB (p:=8) (u:=9) (by kernel_rfl) _ _ (w.heap.size+1) _ rfl hP.c1 _ rfl rfl) rfl ⟨ls_yes (ok:=okd) (v:=v) (by first|exact HO1.out rfl|exact HO1.out trivial) (by rw [←hdn];unfold dsC;simp),hP.bw⟩)
     | (generalize ((((((w3.setCell ⟨w.heap.size+1,0,none⟩ (.int .u32 (a:Int))).setCell ⟨w.heap.size+1,1,none⟩ (.int .u32 (n:Int))).setCell ⟨w.heap.size+1,2,none⟩ (.int .u8 9)).setCell ⟨w.heap.size+1,3,none⟩ (.int .u8 (op:Int))).setCell ⟨w.heap.size+1,4,none⟩ (.int .u32 (v:Int))).setCell ⟨w.heap.size+1,5,none⟩ (.int .u32 0))=FW at HP3 ⊢
        have hP:=HP3.out
        clear HSP HS5 HB5 HP HI5 HIP t0 t1 t2 t3 t4 t5 r0 r1 r2 r3 r4 r5 z0 z1 z2 z3 z4 z5 u0 u1 u2 u3 u4 u5 hlt2 HB3 HI3 HS3 HSP3 HP3 x0 x1 x2 x3 x4 x5 s0 s1 s2 s3 s4 s5
        go_wp2_with fail
        exact bodyPost_ret (resFzB (p:=8) (u:=9) (by kernel_rfl) _ _ (w.heap.size+1) _ rfl hP.c1 _ rfl rfl) rfl ⟨ls_yes (ok:=okd) (v:=v) (by first|exact HO1.out rfl|exact HO1.out trivial) (by rw [←hdn];unfold dsC;simp),hP.bw⟩)
 | false=>
   go_wp2_with fail
   generalize ((w2.setCell ⟨w.heap.size,4,none⟩ (.int .u32 (v:Int))).setCell ⟨w.heap.size,3,none⟩ (.int .u8 (op:Int))).alloc (Obj.cells #[.int .u8 (op:Int),.int .u32 (arg:Int)] 37)=W5 at HB5 HI5 ⊢
   clear z0 z1 z2 z3 z4 z5 u0 u1 u2 u3 u4 u5 y0 y1 hne1 hne3
   have hI:w2.heap.size<W5.heap.size:=(Array.getElem?_eq_some_iff.1 HI5.out).1
   have SOF:Hid (∀ (V:World) (r:Fz),Bs w V ⟨a,n,9,op,v,0⟩ r→V.heap[w2.heap.size]?=some (Obj.cells #[.int .u8 (op:Int),.int .u32 (arg:Int)] 37)→V.cell? ⟨w.heap.size,0,none⟩=some (.int .u32 (a:Int))∧V.cell? ⟨w.heap.size,1,none⟩=some (.int .u32 (n:Int))∧V.cell? ⟨w.heap.size,2,none⟩=some (.int .u8 9)∧V.cell? ⟨w.heap.size,3,none⟩=some (.int .u8 (op:Int))∧V.cell? ⟨w.heap.size,4,none⟩=some (.int .u32 (v:Int))∧V.cell? ⟨w.heap.size,5,none⟩=some (.int .u32 0)∧V.cell? ⟨w2.heap.size,0,none⟩=some (.int .u8 (op:Int))):=dhid (fun V r hB hi=>⟨(fz_cells hB.c0).1,(fz_cells hB.c0).2.1,(fz_cells hB.c0).2.2.1,(fz_cells hB.c0).2.2.2.1,(fz_cells hB.c0).2.2.2.2.1,(fz_cells hB.c0).2.2.2.2.2,obj_cell hi 0⟩)
   have HBd:=dhid (show Bs w W5.drew ⟨a,n,9,op,v,0⟩ fz0 from ⟨⟨HB5.out.bw.os,HB5.out.bw.tape,HB5.out.bw.output,HB5.out.bw.size,HB5.out.bw.block⟩,HB5.out.c0,HB5.out.c1⟩)
   have HS5:=dhid (SOF.out _ _ HBd.out HI5.out)
   have HP:Hid (Bs w ((((((W5.setCell ⟨w.heap.size+1,0,none⟩ (.int .u32 (a:Int))).setCell ⟨w.heap.size+1,1,none⟩ (.int .u32 (n:Int))).setCell ⟨w.heap.size+1,2,none⟩ (.int .u8 9)).setCell ⟨w.heap.size+1,3,none⟩ (.int .u8 (op:Int))).setCell ⟨w.heap.size+1,4,none⟩ (.int .u32 (v:Int))).setCell ⟨w.heap.size+1,5,none⟩ (.int .u32 0)).drew ⟨a,n,9,op,v,0⟩ ⟨a,n,9,op,v,0⟩):=dhid (by have h:=(HB5.out.put ⟨a,n,9,op,v,0⟩).drewZ;simp only [put6] at h;exact h)
   have HIP:=dhid (((put6_any (f:=fz0) (f':=⟨a,n,9,op,v,0⟩) HB5.out.c1).2.block _ hI (by omega)).trans HI5.out)
   have HSP:=dhid (SOF.out _ _ HP.out (by have h:=HIP.out;simp only [put6] at h;rw [heap_drewZ];exact h))
   obtain ⟨z0,z1,z2,z3,z4,z5⟩:=fz_cells HBd.out.c1
   obtain ⟨u0,u1,u2,u3,u4,u5⟩:=fz_frozen HBd.out.c1
   obtain ⟨t0,t1,t2,t3,t4,t5⟩:=fz_cells HB5.out.c1
   obtain ⟨r0,r1,r2,r3,r4,r5⟩:=fz_frozen HB5.out.c1
   obtain ⟨a1,a2,a3,a4,a5,a6,a7⟩:=SOF.out _ _ HB5.out HI5.out
   clear SOF HBd HS5 HSP HIP z0 z1 z2 z3 z4 z5 u0 u1 u2 u3 u4 u5 hlt2 HB HO1
   go_region
   all_goals (generalize ((((((W5.setCell ⟨w.heap.size+1,0,none⟩ (.int .u32 (a:Int))).setCell ⟨w.heap.size+1,1,none⟩ (.int .u32 (n:Int))).setCell ⟨w.heap.size+1,2,none⟩ (.int .u8 9)).setCell ⟨w.heap.size+1,3,none⟩ (.int .u8 (op:Int))).setCell ⟨w.heap.size+1,4,none⟩ (.int .u32 (v:Int))).setCell ⟨w.heap.size+1,5,none⟩ (.int .u32 0)).drew=FW at HP ⊢)
   all_goals (have hP:=HP.out)
   all_goals (clear HP HB5 HI5 t0 t1 t2 t3 t4 t5 r0 r1 r2 r3 r4 r5 a1 a2 a3 a4 a5 a6 a7)
   all_goals go_wp2_with fail
   all_goals exact bodyPost_ret (resFzB (p:=8) (u:=9) (by kernel_rfl) _ _ (w.heap.size+1) _ rfl hP.c1 _ rfl rfl) rfl ⟨ls_no (by first|exact HO0.out rfl|exact HO0.out trivial),hP.bw⟩
theorem dlast10_any (ao:Option Addr) (cap a e n:Nat) (L:List (Nat × Nat)) (w:World) (hL:L.length≤140737488355328) (hae:a+2≤e) (he:e≤L.length) (he32:e<4294967296) (hwf:Wfc L) (hr:CRd w ao L w.heap.size) :
   Calls Tryz.prog 45 #[.slice ao L.length cap,.int .i64 (a:Int),.int .i64 (e:Int),.agg (fzA ⟨a,n,10,0,0,0⟩)] w fun x w'=>LsP a n 10 (cnO ((L.drop a).take (e-1-a))) (L.getD (e-1) (0,0)) x∧Below w.heap.size w w':=by
 have HCN:=dhid (fun W (hW:Below w.heap.size w W)=>dcon_any ao cap a (e-1) L W hL (by omega) (by omega) (by omega) hwf ((hr.below hW).mono hW.size))
 obtain ⟨b,off,rfl,hbl,hc⟩:=hr (by omega)
 have hlt:e-1<L.length:=by omega
 have X0:=dhid (fun (W:World) (hW:Below w.heap.size w W)=>(hW.cell (p:=⟨b,off+(e-1)*2,none⟩) hbl).trans (hc (e-1) hlt).1)
 have X1:=dhid (fun (W:World) (hW:Below w.heap.size w W)=>(hW.cell (p:=⟨b,off+(e-1)*2+1,none⟩) hbl).trans (hc (e-1) hlt).2)
 have hop:=(hwf.at hlt).1
 generalize L.getD (e-1) (0,0)=q at X0 X1 hop ⊢
 obtain ⟨op,arg⟩:=q
 simp only at X0 X1 hop
 have hsub:(e:Int)-1=((e-1:Nat):Int):=by omega
 have hltI:((e-1:Nat):Int)<(L.length:Int):=by omega
 have hwm:wrap64 ((e-1:Nat):Int)=((e-1:Nat):Int):=by unfold wrap64;omega
 generalize e-1=m at *
 clear hc hwf hae he he32 hL
 have HDB:Hid (∀ W:World,Calls Tryz.prog 64 #[.int .u8 (op:Int)] W fun e w'=>e=.returned (.bool (dSto op))∧Below W.heap.size W w'):=dhid (fun W=>(dstore_any op W).mono (by rintro e w' ⟨h,rfl⟩;exact ⟨h,Below.refl _ _⟩))
 go_enter Tryz.func45,Tryz.ntmps45
 go_wp2_with fail
 refine (HCN.out _ (zbel2 w _ _)).mono ?_
 rintro en w2 ⟨⟨v,okc,rfl,hO⟩,hb2⟩
 have HO1:Hid (okc=true→cnO (List.take (m-a) (List.drop a L))=some v):=dhid (fun h=>by rw [hO,if_pos h])
 have HO0:Hid (okc=false→cnO (List.take (m-a) (List.drop a L))=none):=dhid (fun h=>by rw [hO,if_neg (by rw [h];decide)])
 have HB:=dhid ((Bs.new w ⟨a,n,10,0,0,0⟩ fz0).next hb2)
 have y0:=X0.out w2 HB.out.bw
 have y1:=X1.out w2 HB.out.bw
 have hlt2:w.heap.size+1<w2.heap.size:=HB.out.lt
 have hne1:w2.heap.size≠w.heap.size:=by omega
 have hne3:w.heap.size<w2.heap.size:=by omega
 obtain ⟨z0,z1,z2,z3,z4,z5⟩:=fz_cells HB.out.c0
 obtain ⟨u0,u1,u2,u3,u4,u5⟩:=fz_frozen HB.out.c0
 simp only at z0 z1 z2 z3 z4 z5
 have HB5:Hid (Bs w (((w2.setCell ⟨w.heap.size,4,none⟩ (.int .u32 (v:Int))).setCell ⟨w.heap.size,3,none⟩ (.int .u8 (op:Int))).alloc (Obj.cells #[.int .u8 (op:Int),.int .u32 (arg:Int)] 37)) ⟨a,n,10,op,v,0⟩ fz0):=dhid (((HB.out.seta v).setop op).next (bel1 _ _))
 have HI5:Hid ((((w2.setCell ⟨w.heap.size,4,none⟩ (.int .u32 (v:Int))).setCell ⟨w.heap.size,3,none⟩ (.int .u8 (op:Int))).alloc (Obj.cells #[.int .u8 (op:Int),.int .u32 (arg:Int)] 37)).heap[w2.heap.size]?=some (Obj.cells #[.int .u8 (op:Int),.int .u32 (arg:Int)] 37)):=dhid (by have hsz:((w2.setCell ⟨w.heap.size,4,none⟩ (.int .u32 (v:Int))).setCell ⟨w.heap.size,3,none⟩ (.int .u8 (op:Int))).heap.size=w2.heap.size:=(by simp only [World.size_setCell]);rw [←hsz];exact heap_alloc_new _ _)
 clear hO hb2 HCN X0 X1 hbl hr
 cases okc with
 | true =>
   go_wp2_with fail
   generalize ((w2.setCell ⟨w.heap.size,4,none⟩ (.int .u32 (v:Int))).setCell ⟨w.heap.size,3,none⟩ (.int .u8 (op:Int))).alloc (Obj.cells #[.int .u8 (op:Int),.int .u32 (arg:Int)] 37)=W5 at HB5 HI5 ⊢
   clear z0 z1 z2 z3 z4 z5 u0 u1 u2 u3 u4 u5 y0 y1 hne1 hne3
   have hI:w2.heap.size<W5.heap.size:=(Array.getElem?_eq_some_iff.1 HI5.out).1
   have SOF:Hid (∀ (V:World) (r:Fz),Bs w V ⟨a,n,10,op,v,0⟩ r→V.heap[w2.heap.size]?=some (Obj.cells #[.int .u8 (op:Int),.int .u32 (arg:Int)] 37)→V.cell? ⟨w.heap.size,0,none⟩=some (.int .u32 (a:Int))∧V.cell? ⟨w.heap.size,1,none⟩=some (.int .u32 (n:Int))∧V.cell? ⟨w.heap.size,2,none⟩=some (.int .u8 10)∧V.cell? ⟨w.heap.size,3,none⟩=some (.int .u8 (op:Int))∧V.cell? ⟨w.heap.size,4,none⟩=some (.int .u32 (v:Int))∧V.cell? ⟨w.heap.size,5,none⟩=some (.int .u32 0)∧V.cell? ⟨w2.heap.size,0,none⟩=some (.int .u8 (op:Int))):=dhid (fun V r hB hi=>⟨(fz_cells hB.c0).1,(fz_cells hB.c0).2.1,(fz_cells hB.c0).2.2.1,(fz_cells hB.c0).2.2.2.1,(fz_cells hB.c0).2.2.2.2.1,(fz_cells hB.c0).2.2.2.2.2,obj_cell hi 0⟩)
   have HBd:=dhid (show Bs w W5.drew ⟨a,n,10,op,v,0⟩ fz0 from ⟨⟨HB5.out.bw.os,HB5.out.bw.tape,HB5.out.bw.output,HB5.out.bw.size,HB5.out.bw.block⟩,HB5.out.c0,HB5.out.c1⟩)
   have HS5:=dhid (SOF.out _ _ HBd.out HI5.out)
   have HP:Hid (Bs w ((((((W5.setCell ⟨w.heap.size+1,0,none⟩ (.int .u32 (a:Int))).setCell ⟨w.heap.size+1,1,none⟩ (.int .u32 (n:Int))).setCell ⟨w.heap.size+1,2,none⟩ (.int .u8 10)).setCell ⟨w.heap.size+1,3,none⟩ (.int .u8 (op:Int))).setCell ⟨w.heap.size+1,4,none⟩ (.int .u32 (v:Int))).setCell ⟨w.heap.size+1,5,none⟩ (.int .u32 0)).drew ⟨a,n,10,op,v,0⟩ ⟨a,n,10,op,v,0⟩):=dhid (by have h:=(HB5.out.put ⟨a,n,10,op,v,0⟩).drewZ;simp only [put6] at h;exact h)
   have HIP:=dhid (((put6_any (f:=fz0) (f':=⟨a,n,10,op,v,0⟩) HB5.out.c1).2.block _ hI (by omega)).trans HI5.out)
   have HSP:=dhid (SOF.out _ _ HP.out (by have h:=HIP.out;simp only [put6] at h;rw [heap_drewZ];exact h))
   obtain ⟨z0,z1,z2,z3,z4,z5⟩:=fz_cells HBd.out.c1
   obtain ⟨u0,u1,u2,u3,u4,u5⟩:=fz_frozen HBd.out.c1
   obtain ⟨t0,t1,t2,t3,t4,t5⟩:=fz_cells HB5.out.c1
   obtain ⟨r0,r1,r2,r3,r4,r5⟩:=fz_frozen HB5.out.c1
   generalize hdn:dSto op=okd at HDB
   go_region_held3 (fun V=>V.cell? ⟨w.heap.size,0,none⟩=some (.int .u32 (a:Int))∧V.cell? ⟨w.heap.size,1,none⟩=some (.int .u32 (n:Int))∧V.cell? ⟨w.heap.size,2,none⟩=some (.int .u8 10)∧V.cell? ⟨w.heap.size,3,none⟩=some (.int .u8 (op:Int))∧V.cell? ⟨w.heap.size,4,none⟩=some (.int .u32 (v:Int))∧V.cell? ⟨w.heap.size,5,none⟩=some (.int .u32 0)∧V.cell? ⟨w2.heap.size,0,none⟩=some (.int .u8 (op:Int))) (first|with_reducible exact HS5.out|with_reducible exact HSP.out|with_reducible exact HS3.out|with_reducible exact HSP3.out)
     (first
       | (with_reducible refine (HDB.out W5.drew).mono ?_
          rintro en w3 ⟨rfl,hb3⟩
          have HB3:Hid (Bs w w3 ⟨a,n,10,op,v,0⟩ fz0):=dhid (HBd.out.next hb3)
          have HI3:Hid (w3.heap[w2.heap.size]?=some (Obj.cells #[.int .u8 (op:Int),.int .u32 (arg:Int)] 37)):=dhid ((hb3.block _ hI).trans HI5.out)
          have HS3:=dhid (SOF.out _ _ HB3.out HI3.out)
          have HP3:Hid (Bs w ((((((w3.setCell ⟨w.heap.size+1,0,none⟩ (.int .u32 (a:Int))).setCell ⟨w.heap.size+1,1,none⟩ (.int .u32 (n:Int))).setCell ⟨w.heap.size+1,2,none⟩ (.int .u8 10)).setCell ⟨w.heap.size+1,3,none⟩ (.int .u8 (op:Int))).setCell ⟨w.heap.size+1,4,none⟩ (.int .u32 (v:Int))).setCell ⟨w.heap.size+1,5,none⟩ (.int .u32 0)) ⟨a,n,10,op,v,0⟩ ⟨a,n,10,op,v,0⟩):=dhid (by have h:=HB3.out.put ⟨a,n,10,op,v,0⟩;simp only [put6] at h;exact h)
          have HSP3:=dhid (SOF.out _ _ HP3.out (by have h:=((put6_any (f:=fz0) (f':=⟨a,n,10,op,v,0⟩) HB3.out.c1).2.block _ (Array.getElem?_eq_some_iff.1 HI3.out).1 (by omega)).trans HI3.out;simp only [put6] at h;exact h))
          obtain ⟨x0,x1,x2,x3,x4,x5⟩:=fz_cells HB3.out.c1
          obtain ⟨s0,s1,s2,s3,s4,s5⟩:=fz_frozen HB3.out.c1
          clear hb3)
       | (with_reducible refine (HDB.out ((((((W5.setCell ⟨w.heap.size+1,0,none⟩ (.int .u32 (a:Int))).setCell ⟨w.heap.size+1,1,none⟩ (.int .u32 (n:Int))).setCell ⟨w.heap.size+1,2,none⟩ (.int .u8 10)).setCell ⟨w.heap.size+1,3,none⟩ (.int .u8 (op:Int))).setCell ⟨w.heap.size+1,4,none⟩ (.int .u32 (v:Int))).setCell ⟨w.heap.size+1,5,none⟩ (.int .u32 0)).drew).mono ?_
          rintro en w3 ⟨rfl,hb3⟩
          have HB4:Hid (Bs w w3 ⟨a,n,10,op,v,0⟩ ⟨a,n,10,op,v,0⟩):=dhid (HP.out.next hb3)
          have HI4:Hid (w3.heap[w2.heap.size]?=some (Obj.cells #[.int .u8 (op:Int),.int .u32 (arg:Int)] 37)):=dhid (by have h:=HIP.out;simp only [put6] at h;rw [←heap_drewZ] at h;exact (hb3.block _ (Array.getElem?_eq_some_iff.1 h).1).trans h)
          have HS3:=dhid (SOF.out _ _ HB4.out HI4.out)
          clear hb3))
   all_goals first
     | (have hP:=HB4.out
        clear HSP HS5 HB5 HP HI5 HIP t0 t1 t2 t3 t4 t5 r0 r1 r2 r3 r4 r5 z0 z1 z2 z3 z4 z5 u0 u1 u2 u3 u4 u5 hlt2 HB4 HI4 HS3
        go_wp2_with fail
        exact bodyPost_ret (resFzB (p:=8) (u:=9) (by kernel_rfl) _ _ (w.heap.size+1) _ rfl hP.c1 _ rfl rfl) rfl ⟨ls_yes (ok:=okd) (v:=v) (by first|exact HO1.out rfl|exact HO1.out trivial) (by rw [←hdn];unfold dsC;simp),hP.bw⟩)
     | (generalize ((((((w3.setCell ⟨w.heap.size+1,0,none⟩ (.int .u32 (a:Int))).setCell ⟨w.heap.size+1,1,none⟩ (.int .u32 (n:Int))).setCell ⟨w.heap.size+1,2,none⟩ (.int .u8 10)).setCell ⟨w.heap.size+1,3,none⟩ (.int .u8 (op:Int))).setCell ⟨w.heap.size+1,4,none⟩ (.int .u32 (v:Int))).setCell ⟨w.heap.size+1,5,none⟩ (.int .u32 0))=FW at HP3 ⊢
        have hP:=HP3.out
        clear HSP HS5 HB5 HP HI5 HIP t0 t1 t2 t3 t4 t5 r0 r1 r2 r3 r4 r5 z0 z1 z2 z3 z4 z5 u0 u1 u2 u3 u4 u5 hlt2 HB3 HI3 HS3 HSP3 HP3 x0 x1 x2 x3 x4 x5 s0 s1 s2 s3 s4 s5
        go_wp2_with fail
        exact bodyPost_ret (resFzB (p:=8) (u:=9) (by kernel_rfl) _ _ (w.heap.size+1) _ rfl hP.c1 _ rfl rfl) rfl ⟨ls_yes (ok:=okd) (v:=v) (by first|exact HO1.out rfl|exact HO1.out trivial) (by rw [←hdn];unfold dsC;simp),hP.bw⟩)
 | false=>
   go_wp2_with fail
   generalize ((w2.setCell ⟨w.heap.size,4,none⟩ (.int .u32 (v:Int))).setCell ⟨w.heap.size,3,none⟩ (.int .u8 (op:Int))).alloc (Obj.cells #[.int .u8 (op:Int),.int .u32 (arg:Int)] 37)=W5 at HB5 HI5 ⊢
   clear z0 z1 z2 z3 z4 z5 u0 u1 u2 u3 u4 u5 y0 y1 hne1 hne3
   have hI:w2.heap.size<W5.heap.size:=(Array.getElem?_eq_some_iff.1 HI5.out).1
   have SOF:Hid (∀ (V:World) (r:Fz),Bs w V ⟨a,n,10,op,v,0⟩ r→V.heap[w2.heap.size]?=some (Obj.cells #[.int .u8 (op:Int),.int .u32 (arg:Int)] 37)→V.cell? ⟨w.heap.size,0,none⟩=some (.int .u32 (a:Int))∧V.cell? ⟨w.heap.size,1,none⟩=some (.int .u32 (n:Int))∧V.cell? ⟨w.heap.size,2,none⟩=some (.int .u8 10)∧V.cell? ⟨w.heap.size,3,none⟩=some (.int .u8 (op:Int))∧V.cell? ⟨w.heap.size,4,none⟩=some (.int .u32 (v:Int))∧V.cell? ⟨w.heap.size,5,none⟩=some (.int .u32 0)∧V.cell? ⟨w2.heap.size,0,none⟩=some (.int .u8 (op:Int))):=dhid (fun V r hB hi=>⟨(fz_cells hB.c0).1,(fz_cells hB.c0).2.1,(fz_cells hB.c0).2.2.1,(fz_cells hB.c0).2.2.2.1,(fz_cells hB.c0).2.2.2.2.1,(fz_cells hB.c0).2.2.2.2.2,obj_cell hi 0⟩)
   have HBd:=dhid (show Bs w W5.drew ⟨a,n,10,op,v,0⟩ fz0 from ⟨⟨HB5.out.bw.os,HB5.out.bw.tape,HB5.out.bw.output,HB5.out.bw.size,HB5.out.bw.block⟩,HB5.out.c0,HB5.out.c1⟩)
   have HS5:=dhid (SOF.out _ _ HBd.out HI5.out)
   have HP:Hid (Bs w ((((((W5.setCell ⟨w.heap.size+1,0,none⟩ (.int .u32 (a:Int))).setCell ⟨w.heap.size+1,1,none⟩ (.int .u32 (n:Int))).setCell ⟨w.heap.size+1,2,none⟩ (.int .u8 10)).setCell ⟨w.heap.size+1,3,none⟩ (.int .u8 (op:Int))).setCell ⟨w.heap.size+1,4,none⟩ (.int .u32 (v:Int))).setCell ⟨w.heap.size+1,5,none⟩ (.int .u32 0)).drew ⟨a,n,10,op,v,0⟩ ⟨a,n,10,op,v,0⟩):=dhid (by have h:=(HB5.out.put ⟨a,n,10,op,v,0⟩).drewZ;simp only [put6] at h;exact h)
   have HIP:=dhid (((put6_any (f:=fz0) (f':=⟨a,n,10,op,v,0⟩) HB5.out.c1).2.block _ hI (by omega)).trans HI5.out)
   have HSP:=dhid (SOF.out _ _ HP.out (by have h:=HIP.out;simp only [put6] at h;rw [heap_drewZ];exact h))
   obtain ⟨z0,z1,z2,z3,z4,z5⟩:=fz_cells HBd.out.c1
   obtain ⟨u0,u1,u2,u3,u4,u5⟩:=fz_frozen HBd.out.c1
   obtain ⟨t0,t1,t2,t3,t4,t5⟩:=fz_cells HB5.out.c1
   obtain ⟨r0,r1,r2,r3,r4,r5⟩:=fz_frozen HB5.out.c1
   obtain ⟨a1,a2,a3,a4,a5,a6,a7⟩:=SOF.out _ _ HB5.out HI5.out
   clear SOF HBd HS5 HSP HIP z0 z1 z2 z3 z4 z5 u0 u1 u2 u3 u4 u5 hlt2 HB HO1
   go_region
   all_goals (generalize ((((((W5.setCell ⟨w.heap.size+1,0,none⟩ (.int .u32 (a:Int))).setCell ⟨w.heap.size+1,1,none⟩ (.int .u32 (n:Int))).setCell ⟨w.heap.size+1,2,none⟩ (.int .u8 10)).setCell ⟨w.heap.size+1,3,none⟩ (.int .u8 (op:Int))).setCell ⟨w.heap.size+1,4,none⟩ (.int .u32 (v:Int))).setCell ⟨w.heap.size+1,5,none⟩ (.int .u32 0)).drew=FW at HP ⊢)
   all_goals (have hP:=HP.out)
   all_goals (clear HP HB5 HI5 t0 t1 t2 t3 t4 t5 r0 r1 r2 r3 r4 r5 a1 a2 a3 a4 a5 a6 a7)
   all_goals go_wp2_with fail
   all_goals exact bodyPost_ret (resFzB (p:=8) (u:=9) (by kernel_rfl) _ _ (w.heap.size+1) _ rfl hP.c1 _ rfl rfl) rfl ⟨ls_no (by first|exact HO0.out rfl|exact HO0.out trivial),hP.bw⟩
def bmD (a n:Nat) (q0 q1 q2 qo ql:Nat × Nat) (O:Option Nat) (f:Fz):Prop:=
 q0.1=9∧q1=q0∧q2.1=31∧ql.1=34∧dBin qo.1=true∧divB qo.1=false∧∃ v,O=some v∧f=⟨a,n,15,qo.1,q0.2,v⟩
def LcD (L:List (Nat × Nat)) (a e k:Nat) (f:Fz):Prop:=
 if k≤12 then e=a+2∧dsL k a (L.getD a (0,0)) (L.getD (a+1) (0,0)) (0,0)=some f
 else if k≤14 then e=a+3∧dsL k a (L.getD a (0,0)) (L.getD (a+1) (0,0)) (L.getD (a+2) (0,0))=some f
 else a+6≤e∧bmD a (e-a) (L.getD a (0,0)) (L.getD (a+1) (0,0)) (L.getD (a+2) (0,0)) (L.getD (e-2) (0,0)) (L.getD (e-1) (0,0)) (cnO ((L.drop (a+3)).take (e-2-(a+3)))) f
def ShC (L:List (Nat × Nat)) (a e k:Nat) (f:Fz):Prop:=
 if k=1 then e=a+1∧f=⟨a,1,1,(L.getD a (0,0)).1,(L.getD a (0,0)).2,0⟩
 else if 5≤k∧k≤10 then a+2≤e∧∃ v,cnO ((L.drop a).take (e-1-a))=some v∧dsC k a (e-a) (L.getD (e-1) (0,0)) v=some f
 else if 11≤k∧k≤15 then LcD L a e k f else False
def ShD (L:List (Nat × Nat)) (a e k:Nat) (f:Fz):Prop:=mayD L a e=true∧ShC L a e k f
theorem sub_get {L:List (Nat × Nat)} {a e i:Nat} (h:a+i<e) (he:e≤L.length):((L.drop a).take (e-a))[i]?=some (L.getD (a+i) (0,0)):=by
 rw [List.getElem?_take_of_lt (by omega),List.getElem?_drop,List.getD_eq_getElem?_getD,List.getElem?_eq_getElem (show a+i<L.length by omega)]
 rfl
theorem mayD_iff {L:List (Nat × Nat)} {a e:Nat} (he:e≤L.length):mayD L a e=true↔∀ i,a+i<e→erV (L.getD (a+i) (0,0)).1 (L.getD (a+i) (0,0)).2=0:=by
 unfold mayD
 constructor
 · intro h i hi
   exact of_decide_eq_true (List.all_eq_true.1 h _ (List.mem_of_getElem? (sub_get hi he)))
 · intro h
   refine List.all_eq_true.2 (fun p hp=>?_)
   obtain ⟨i,hi⟩:=List.mem_iff_getElem?.1 hp
   have hl:=(List.getElem?_eq_some_iff.1 hi).1
   rw [sub_len he] at hl
   rw [sub_get (by omega) he] at hi
   cases hi
   exact decide_eq_true (h i (by omega))
theorem cnO_valid {M:List (Nat × Nat)} {v:Nat} (h:cnO M=some v) {i:Nat} {q:Nat × Nat} (hi:M[i]?=some q):erV q.1 q.2=0:=
 of_decide_eq_true (List.all_eq_true.1 (plR_valid _ _ _ (plD_word _ _ _ (cnO_some.1 h).2.2)) _ (List.mem_of_getElem? hi))
theorem sub_takeE {L:List (Nat × Nat)} {a e e':Nat} (h:e'≤e):((L.drop a).take (e-a)).take (e'-a)=(L.drop a).take (e'-a):=by
 rw [List.take_take,Nat.min_eq_left (by omega)]
theorem sub_drop {L:List (Nat × Nat)} {a e e' d:Nat} (h:e'≤e):((((L.drop a).take (e-a)).drop d).take (e'-(a+d)))=(L.drop (a+d)).take (e'-(a+d)):=by
 rw [List.drop_take,List.drop_drop,List.take_take,Nat.min_eq_left (by omega)]
theorem shd_A {L:List (Nat × Nat)} (hwf:Wfc L) {a e' e k:Nat} {f:Fz} (h:ShD L a e' k f) (hae:a<e') (hee:e'≤e) (he:e≤L.length):fkV ((L.drop a).take (e-a)) a k=(f,true):=by
 obtain ⟨hm,hc⟩:=h
 have hv:=(mayD_iff (L:=L) (a:=a) (e:=e') (by omega)).1 hm
 have hg:∀ i,a+i<e→((L.drop a).take (e-a))[i]?=some (L.getD (a+i) (0,0)):=fun i hi=>sub_get hi he
 have hwM:Wfc ((L.drop a).take (e-a)):=wfc_sub hwf a (e-a)
 have hl:=sub_len (L:=L) (a:=a) he
 unfold ShC at hc
 by_cases k1:k=1
 · rw [if_pos k1] at hc
   obtain ⟨rfl,rfl⟩:=hc
   subst k1
   have h0:=hg 0 (by omega)
   have v0:=hv 0 (by omega)
   rw [Nat.add_zero] at h0 v0
   generalize (L.drop a).take (e-a)=M at h0 ⊢
   obtain _|⟨p,R⟩:=M
   · cases h0
   · cases h0
     rw [fkV_one,if_pos v0]
 · rw [if_neg k1] at hc
   by_cases k2:5≤k∧k≤10
   · rw [if_pos k2] at hc
     obtain ⟨h2,v,hcn,hds⟩:=hc
     have hq:=hg (e'-a-1) (by omega)
     rw [show a+(e'-a-1)=e'-1 by omega] at hq
     have hv1:=hv (e'-a-1) (by omega)
     rw [show a+(e'-a-1)=e'-1 by omega] at hv1
     refine con_A hwM k2.1 k2.2 (n:=e'-a) (v:=v) ?_ (by omega) hq hv1 hds
     rw [show e'-a-1=e'-1-a by omega,sub_takeE (by omega)]
     exact hcn
   · rw [if_neg k2] at hc
     by_cases k3:11≤k∧k≤15
     · rw [if_pos k3] at hc
       unfold LcD at hc
       by_cases k4:k≤12
       · rw [if_pos k4] at hc
         obtain ⟨rfl,hds⟩:=hc
         exact loc2_A (by omega) (by have:=hg 0 (by omega);rwa [Nat.add_zero] at this) (hg 1 (by omega)) (by have:=hv 0 (by omega);rwa [Nat.add_zero] at this) (hv 1 (by omega)) ((hwM _ (List.mem_of_getElem? (hg 1 (by omega)))).1) _ hds
       · rw [if_neg k4] at hc
         by_cases k5:k≤14
         · rw [if_pos k5] at hc
           obtain ⟨rfl,hds⟩:=hc
           exact loc3_A (by omega) (by have:=hg 0 (by omega);rwa [Nat.add_zero] at this) (hg 1 (by omega)) (hg 2 (by omega)) (by have:=hv 0 (by omega);rwa [Nat.add_zero] at this) (hv 1 (by omega)) (hv 2 (by omega)) ((hwM _ (List.mem_of_getElem? (hg 2 (by omega)))).1) hds
         · rw [if_neg k5] at hc
           have k6:k=15:=by omega
           subst k6
           obtain ⟨h6,c0,c1,c2,cl,co,cd,v,hcn,rfl⟩:=hc
           have g0:=hg 0 (by omega)
           have v0:=hv 0 (by omega)
           rw [Nat.add_zero] at g0 v0
           have g1:=hg 1 (by omega)
           rw [c1] at g1
           have go:=hg (3+(e'-a-5)) (by omega)
           have gl:=hg (4+(e'-a-5)) (by omega)
           have vo:=hv (3+(e'-a-5)) (by omega)
           have vl:=hv (4+(e'-a-5)) (by omega)
           rw [show a+(3+(e'-a-5))=e'-2 by omega] at go vo
           rw [show a+(4+(e'-a-5))=e'-1 by omega] at gl vl
           have hb:=bump_A (at_:=a) (c:=e'-a-5) (v:=v) hwM g0 g1 (hg 2 (by omega)) (by rw [show e'-a-5=e'-2-(a+3) by omega,sub_drop (by omega)];exact hcn) (by rw [List.length_drop,hl];omega) go gl v0 (hv 2 (by omega)) vo vl c0 c2 co cd cl
           rw [hb,show 5+(e'-a-5)=e'-a by omega]
     · rw [if_neg k3] at hc
       exact hc.elim
theorem shd_B {L:List (Nat × Nat)} (hwf:Wfc L) {a e k:Nat} {f:Fz} (hae:a<e) (he:e≤L.length) (hk:k=1∨5≤k∧k≤15) (h:fkV ((L.drop a).take (e-a)) a k=(f,true)) :
   ∃ e',a<e'∧e'≤e∧e'≤a+30∧ShD L a e' k f:=by
 have hg:∀ i,a+i<e→((L.drop a).take (e-a))[i]?=some (L.getD (a+i) (0,0)):=fun i hi=>sub_get hi he
 have hwM:Wfc ((L.drop a).take (e-a)):=wfc_sub hwf a (e-a)
 have hl:=sub_len (L:=L) (a:=a) he
 have hget:∀ {i:Nat} {q:Nat × Nat},((L.drop a).take (e-a))[i]?=some q→a+i<e∧q=L.getD (a+i) (0,0):=by
   intro i q hi
   have:=(List.getElem?_eq_some_iff.1 hi).1
   rw [hl] at this
   have hlt:a+i<e:=by omega
   rw [hg i hlt] at hi
   cases hi
   exact ⟨hlt,rfl⟩
 unfold ShD ShC
 rcases hk with rfl|⟨k5,k15⟩
 · have h0:=hg 0 (by omega)
   rw [Nat.add_zero] at h0
   refine ⟨a+1,by omega,by omega,by omega,?_⟩
   rw [if_pos rfl]
   generalize (L.drop a).take (e-a)=M at h0 h
   obtain _|⟨p,R⟩:=M
   · cases h0
   · cases h0
     rw [fkV_one] at h
     by_cases hv:erV (L.getD a (0,0)).1 (L.getD a (0,0)).2=0
     · rw [if_pos hv] at h
       cases h
       refine ⟨(mayD_iff (by omega)).2 (fun i hi=>?_),rfl,rfl⟩
       have:i=0:=by omega
       subst this
       exact hv
     · rw [if_neg hv] at h
       cases h
 · have n1 : ¬ k=1:=by omega
   by_cases k10:k≤10
   · obtain ⟨v,q,b1,b2,b3,b4,b5,b6,b7⟩:=con_B hwM k5 k10 h
     rw [hl] at b2
     obtain ⟨b8,rfl⟩:=hget b5
     refine ⟨a+f.len,by omega,by omega,by omega,?_⟩
     rw [if_neg n1,if_pos ⟨k5,k10⟩]
     refine ⟨(mayD_iff (by omega)).2 (fun i hi=>?_),by omega,v,?_,?_⟩
     · by_cases hi2:i<f.len-1
       · exact cnO_valid b4 (i:=i) (by rw [List.getElem?_take_of_lt hi2];exact hg i (by omega))
       · have:i=f.len-1:=by omega
         subst this
         exact b6
     · rw [show f.len-1=a+f.len-1-a by omega,sub_takeE (by omega)] at b4
       exact b4
     · rw [show a+f.len-1=a+(f.len-1) by omega,show a+f.len-a=f.len by omega]
       exact b7
   · by_cases k12:k≤12
     · obtain ⟨q0,q1,a0,a1,a2,a3,a4,a5⟩:=loc2_B hwM (by omega) h
       obtain ⟨c0,rfl⟩:=hget a0
       obtain ⟨c1,rfl⟩:=hget a1
       refine ⟨a+2,by omega,by omega,by omega,?_⟩
       rw [if_neg n1,if_neg (fun q=>k10 q.2),if_pos ⟨by omega,k15⟩]
       unfold LcD
       rw [if_pos k12]
       refine ⟨(mayD_iff (by omega)).2 (fun i hi=>?_),rfl,?_⟩
       · have:i=0∨i=1:=by omega
         rcases this with rfl|rfl
         · exact a2
         · exact a3
       · have:=a5 (0,0)
         rwa [Nat.add_zero] at this
     · by_cases k14:k≤14
       · obtain ⟨q0,q1,q2,a0,a1,a2,b0,b1,b2,b3,b4⟩:=loc3_B hwM (by omega) h
         obtain ⟨c0,rfl⟩:=hget a0
         obtain ⟨c1,rfl⟩:=hget a1
         obtain ⟨c2,rfl⟩:=hget a2
         refine ⟨a+3,by omega,by omega,by omega,?_⟩
         rw [if_neg n1,if_neg (fun q=>k10 q.2),if_pos ⟨by omega,k15⟩]
         unfold LcD
         rw [if_neg k12,if_pos k14]
         refine ⟨(mayD_iff (by omega)).2 (fun i hi=>?_),rfl,?_⟩
         · have:i=0∨i=1∨i=2:=by omega
           rcases this with rfl|rfl|rfl
           · exact b0
           · exact b1
           · exact b2
         · rwa [Nat.add_zero] at b4
       · have k6:k=15:=by omega
         subst k6
         obtain ⟨c,v,q0,q2,qo,ql,a0,a1,a2,l1,l16,hcn,ao,al,e0,e2,eo,el,k0,k2,ko,kd,kl,rfl⟩:=bump_B hwM h
         obtain ⟨c0,rfl⟩:=hget a0
         obtain ⟨c1,d1⟩:=hget a1
         obtain ⟨c2,rfl⟩:=hget a2
         obtain ⟨co,rfl⟩:=hget ao
         obtain ⟨cl,rfl⟩:=hget al
         rw [Nat.add_zero] at e0 k0 d1
         refine ⟨a+(5+c),by omega,by omega,by omega,?_⟩
         rw [if_neg n1,if_neg (fun q=>k10 q.2),if_pos ⟨by omega,k15⟩]
         unfold LcD
         rw [if_neg k12,if_neg k14]
         refine ⟨(mayD_iff (by omega)).2 (fun i hi=>?_),by omega,?_⟩
         · by_cases i0:i=0
           · subst i0;exact e0
           by_cases i1:i=1
           · subst i1;rw [←d1];exact e0
           by_cases i2:i=2
           · subst i2;exact e2
           by_cases io:i=3+c
           · subst io;exact eo
           by_cases il:i=4+c
           · subst il;exact el
           exact cnO_valid hcn (i:=i-3) (by rw [List.getElem?_take_of_lt (by omega),List.getElem?_drop,show 3+(i-3)=i by omega];exact hg i (by omega))
         · unfold bmD
           rw [show a+(5+c)-2=a+(3+c) by omega,show a+(5+c)-1=a+(4+c) by omega,show a+(5+c)-a=5+c by omega,←d1]
           refine ⟨k0,rfl,k2,kl,ko,kd,v,?_,rfl⟩
           rw [show c=a+(3+c)-(a+3) by omega,sub_drop (by omega)] at hcn
           exact hcn
def LcP (L:List (Nat × Nat)) (a e k:Nat) (x:Ending):Prop:=∃ (f:Fz) (ok:Bool),x=.returned (.tuple #[.agg (fzA f),.bool ok])∧if ok=true then LcD L a e k f else ∀ g,¬ LcD L a e k g
theorem lc_no {L:List (Nat × Nat)} {a e k:Nat} {f:Fz} (h:∀ g,¬ LcD L a e k g):LcP L a e k (.returned (.tuple #[.agg (fzA f),.bool false])):=⟨f,false,rfl,h⟩
theorem lc_yes {L:List (Nat × Nat)} {a e k:Nat} {f:Fz} {ok:Bool} (h:∀ g,LcD L a e k g↔ok=true∧g=f):LcP L a e k (.returned (.tuple #[.agg (fzA f),.bool ok])):=by
 refine ⟨f,ok,rfl,?_⟩
 cases ok with
 |true=>exact (h f).2 ⟨rfl,rfl⟩
 |false=>intro g hg;cases ((h g).1 hg).1
theorem lc_not9 {L:List (Nat × Nat)} {a e k:Nat} (h:¬ (L.getD a (0,0)).1=9):∀ g,¬ LcD L a e k g:=by
 intro g hg
 unfold LcD at hg
 have hn:∀ q1 q2,dsL k a (L.getD a (0,0)) q1 q2=none:=fun q1 q2=>if_pos h
 split at hg
 · rw [hn] at hg;cases hg.2
 · split at hg
   · rw [hn] at hg;cases hg.2
   · exact h hg.2.1
theorem wi64 {n l:Nat} (h:n≤l) (hl:l≤140737488355328):IntKind.i64.wrap (n:Int)=(n:Int):=by rw [IntKind.wrap_i64];omega
theorem wq64 {n l:Nat} (h:n≤l) (hl:l≤140737488355328):wrap64 (n:Int)=(n:Int):=by unfold wrap64;omega
theorem lc_facts {ao:Option Addr} {a e:Nat} {L:List (Nat × Nat)} {w:World} (hL:L.length≤140737488355328) (hae:a<e) (he:e≤L.length) (hwf:Wfc L) (hr:CRd w ao L w.heap.size):∃ b off,ao=some ⟨b,off,none⟩∧b<w.heap.size ∧
   (∀ j,j<L.length→w.cell? ⟨b,off+j*2,none⟩=some (.int .u8 ((L.getD j (0,0)).1:Nat))∧w.cell? ⟨b,off+j*2+1,none⟩=some (.int .u32 ((L.getD j (0,0)).2:Nat))) ∧
   w.cell? ⟨b,off+(e-1)*2,none⟩=some (.int .u8 ((L.getD (e-1) (0,0)).1:Nat))∧w.cell? ⟨b,off+(e-1)*2+1,none⟩=some (.int .u32 ((L.getD (e-1) (0,0)).2:Nat)) ∧
   w.cell? ⟨b,off+a*2,none⟩=some (.int .u8 ((L.getD a (0,0)).1:Nat))∧w.cell? ⟨b,off+a*2+1,none⟩=some (.int .u32 ((L.getD a (0,0)).2:Nat)) ∧
   (a:Int)<(L.length:Int)∧((e-1:Nat):Int)<(L.length:Int)∧(e:Int)-1=((e-1:Nat):Int)∧(e:Int)-(a:Int)=((e-a:Nat):Int) ∧
   Hid (wrap64 ((e-1:Nat):Int)=((e-1:Nat):Int))∧Hid (wrap64 ((e-a:Nat):Int)=((e-a:Nat):Int))∧Hid (IntKind.i64.wrap ((e-1:Nat):Int)=((e-1:Nat):Int))∧Hid (IntKind.i64.wrap ((e-a:Nat):Int)=((e-a:Nat):Int)) ∧
   b<w.heap.size+1∧b<w.heap.size+1+1∧¬ b=w.heap.size∧Hid ((L.getD (e-1) (0,0)).1<256):=by
 obtain ⟨b,off,rfl,hbl,hc⟩:=hr (by omega)
 exact ⟨b,off,rfl,hbl,hc,(hc (e-1) (by omega)).1,(hc (e-1) (by omega)).2,(hc a (by omega)).1,(hc a (by omega)).2,by omega,by omega,by omega,by omega,dhid (wq64 (Nat.le_trans (Nat.sub_le e 1) he) hL),dhid (wq64 (Nat.le_trans (Nat.sub_le e a) he) hL),dhid (wi64 (Nat.le_trans (Nat.sub_le e 1) he) hL),dhid (wi64 (Nat.le_trans (Nat.sub_le e a) he) hL),by omega,by omega,by omega,dhid (hwf.at (show e-1<L.length by omega)).1⟩
theorem lc_cells {b off a e:Nat} {L:List (Nat × Nat)} {w:World} (hL:L.length≤140737488355328) (he:e≤L.length) (hn:¬ e<a+6) (hc:∀ j,j<L.length→w.cell? ⟨b,off+j*2,none⟩=some (.int .u8 ((L.getD j (0,0)).1:Nat))∧w.cell? ⟨b,off+j*2+1,none⟩=some (.int .u32 ((L.getD j (0,0)).2:Nat))) :
   w.cell? ⟨b,off+(a+1)*2,none⟩=some (.int .u8 ((L.getD (a+1) (0,0)).1:Nat))∧w.cell? ⟨b,off+(a+1)*2+1,none⟩=some (.int .u32 ((L.getD (a+1) (0,0)).2:Nat))∧w.cell? ⟨b,off+(a+2)*2,none⟩=some (.int .u8 ((L.getD (a+2) (0,0)).1:Nat)) ∧
   ((a+1:Nat):Int)<(L.length:Int)∧((a+2:Nat):Int)<(L.length:Int)∧(a:Int)+1=((a+1:Nat):Int)∧(a:Int)+2=((a+2:Nat):Int) ∧
   Hid (wrap64 ((a+1:Nat):Int)=((a+1:Nat):Int))∧Hid (IntKind.i64.wrap ((a+1:Nat):Int)=((a+1:Nat):Int))∧Hid (wrap64 ((a+2:Nat):Int)=((a+2:Nat):Int))∧Hid (IntKind.i64.wrap ((a+2:Nat):Int)=((a+2:Nat):Int))∧¬ ((e-a:Nat):Int)<6:=
 ⟨(hc (a+1) (by omega)).1,(hc (a+1) (by omega)).2,(hc (a+2) (by omega)).1,by omega,by omega,rfl,rfl,dhid (wq64 (show a+1≤L.length by omega) hL),dhid (wi64 (show a+1≤L.length by omega) hL),dhid (wq64 (show a+2≤L.length by omega) hL),dhid (wi64 (show a+2≤L.length by omega) hL),by omega⟩
theorem ite_iff {p q:Prop} [Decidable p] {x g:Fz}:(q∧(if p then some x else none)=some g)↔(q∧p)∧g=x:=by
 by_cases h:p
 · rw [if_pos h];exact ⟨fun q=>⟨⟨q.1,h⟩,(Option.some.inj q.2).symm⟩,fun q=>⟨q.1.1,by rw [q.2]⟩⟩
 · rw [if_neg h];exact ⟨fun q=>(by have b:=q.2;cases b),fun q=>absurd q.1.2 h⟩
theorem lc_11 {L:List (Nat × Nat)} {a e:Nat} (h9:(L.getD a (0,0)).1=9) (g:Fz):LcD L a e 11 g↔(e=a+2∧(L.getD (a+1) (0,0)).1=12)∧g=⟨a,2,11,0,(L.getD a (0,0)).2,(L.getD (a+1) (0,0)).2⟩:=by
 unfold LcD dsL
 rw [if_pos (by decide),if_neg (fun q=>q h9),if_pos rfl]
 exact ite_iff
theorem lc_12 {L:List (Nat × Nat)} {a e:Nat} (h9:(L.getD a (0,0)).1=9) (g:Fz):LcD L a e 12 g↔(e=a+2∧dLoa (L.getD (a+1) (0,0)).1=true)∧g=⟨a,2,12,(L.getD (a+1) (0,0)).1,(L.getD a (0,0)).2,0⟩:=by
 unfold LcD dsL
 rw [if_pos (by decide),if_neg (fun q=>q h9),if_neg (by decide),if_pos rfl]
 exact ite_iff
theorem lc_13 {L:List (Nat × Nat)} {a e:Nat} (h9:(L.getD a (0,0)).1=9) (g:Fz):LcD L a e 13 g↔(e=a+3∧(L.getD (a+1) (0,0)).1=31∧dBin (L.getD (a+2) (0,0)).1=true)∧g=⟨a,3,13,(L.getD (a+2) (0,0)).1,(L.getD a (0,0)).2,0⟩:=by
 unfold LcD dsL
 rw [if_neg (by decide),if_pos (by decide),if_neg (fun q=>q h9),if_neg (by decide),if_neg (by decide),if_pos rfl]
 exact ite_iff
theorem lc_14 {L:List (Nat × Nat)} {a e:Nat} (h9:(L.getD a (0,0)).1=9) (g:Fz):LcD L a e 14 g↔(e=a+3∧(L.getD (a+1) (0,0)).1=31∧dBra (L.getD (a+2) (0,0)).1=true)∧g=⟨a,3,14,(L.getD (a+2) (0,0)).1,(L.getD a (0,0)).2,(L.getD (a+2) (0,0)).2⟩:=by
 unfold LcD dsL
 rw [if_neg (by decide),if_pos (by decide),if_neg (fun q=>q h9),if_neg (by decide),if_neg (by decide),if_neg (by decide)]
 exact ite_iff
theorem lc_15 {L:List (Nat × Nat)} {a e:Nat} (g:Fz):LcD L a e 15 g↔a+6≤e∧bmD a (e-a) (L.getD a (0,0)) (L.getD (a+1) (0,0)) (L.getD (a+2) (0,0)) (L.getD (e-2) (0,0)) (L.getD (e-1) (0,0)) (cnO ((L.drop (a+3)).take (e-2-(a+3)))) g:=by
 unfold LcD
 rw [if_neg (by decide),if_neg (by decide)]
theorem lc15_no {L:List (Nat × Nat)} {a e:Nat} {f:Fz} (h:cnO ((L.drop (a+3)).take (e-2-(a+3)))=none∨dBin (L.getD (e-2) (0,0)).1=false∨divB (L.getD (e-2) (0,0)).1=true):LcP L a e 15 (.returned (.tuple #[.agg (fzA f),.bool false])):=lc_no (fun g hg=>by
 obtain ⟨-,-,-,-,-,h1,h2,v,h3,-⟩:=(lc_15 g).1 hg
 rcases h with h|h|h
 · rw [h] at h3;cases h3
 · rw [h] at h1;cases h1
 · rw [h] at h2;cases h2)
theorem lc15_yes {L:List (Nat × Nat)} {a e v:Nat} (h6:a+6≤e) (h9:(L.getD a (0,0)).1=9) (hx:L.getD (a+1) (0,0)=L.getD a (0,0)) (h2:(L.getD (a+2) (0,0)).1=31) (h3:(L.getD (e-1) (0,0)).1=34) (hc:cnO ((L.drop (a+3)).take (e-2-(a+3)))=some v) (hb:dBin (L.getD (e-2) (0,0)).1=true) (hd:divB (L.getD (e-2) (0,0)).1=false) :
   LcP L a e 15 (.returned (.tuple #[.agg (fzA ⟨a,e-a,15,(L.getD (e-2) (0,0)).1,(L.getD a (0,0)).2,v⟩),.bool true])):=
 ⟨_,true,rfl,(lc_15 _).2 ⟨h6,h9,hx,h2,h3,hb,hd,v,hc,rfl⟩⟩
theorem dlocN_any (ao:Option Addr) (cap a e k:Nat) (L:List (Nat × Nat)) (w:World) (hL:L.length≤140737488355328) (hae:a<e) (he:e≤L.length) (_he32:e<4294967296) (hwf:Wfc L) (hr:CRd w ao L w.heap.size) (h9:¬ (L.getD a (0,0)).1=9) :
   Calls Tryz.prog 46 #[.slice ao L.length cap,.int .i64 (a:Int),.int .i64 (e:Int),.agg (fzA ⟨a,e-a,k,0,0,0⟩)] w fun x w'=>LcP L a e k x∧Below w.heap.size w w':=by
 obtain ⟨b,off,rfl,hbl,hc,x0,x1,y0,y1,haL,hmL,hsub,hsubn,hwm,hwn,hwm2,hwn2,hb1,hb2,hbn,hop⟩:=lc_facts hL hae he hwf hr
 have HY:=dhid (fun f=>lc_no (f:=f) (lc_not9 (e:=e) (k:=k) h9))
 generalize LcP L a e k=PP at HY ⊢
 generalize L.getD (e-1) (0,0)=q at x0 x1 hop
 obtain ⟨op,arg⟩:=q
 generalize L.getD a (0,0)=q at y0 y1 h9
 obtain ⟨op0,arg0⟩:=q
 simp only at x0 x1 y0 y1 h9
 have g9:((op0:Int) != 9)=true:=by simp;omega
 have g9':¬ (op0:Int)=9:=by omega
 clear hc hwf hL he _he32 hae hr h9
 replace hop:=hop.out
 replace hwm:=hwm.out
 replace hwn:=hwn.out
 replace hwm2:=hwm2.out
 replace hwn2:=hwn2.out
 generalize e-1=m at *
 generalize e-a=n at *
 simp only [fzA]
 have HB5:Hid (Bs w (((w.alloc (.cells #[.int .u32 (a:Int),.int .u32 (n:Int),.int .u8 (k:Int),.int .u8 (op:Int),.int .u32 (arg0:Int),.int .u32 0] 28)).alloc (.cells #[.int .u32 0,.int .u32 0,.int .u8 0,.int .u8 0,.int .u32 0,.int .u32 0] 28)).alloc (Obj.cells #[.int .u8 (op:Int),.int .u32 (arg:Int)] 37)) ⟨a,n,k,op,arg0,0⟩ fz0):=dhid ((Bs.new w ⟨a,n,k,op,arg0,0⟩ fz0).next (bel1 _ _))
 have HI5:Hid ((((w.alloc (.cells #[.int .u32 (a:Int),.int .u32 (n:Int),.int .u8 (k:Int),.int .u8 (op:Int),.int .u32 (arg0:Int),.int .u32 0] 28)).alloc (.cells #[.int .u32 0,.int .u32 0,.int .u8 0,.int .u8 0,.int .u32 0,.int .u32 0] 28)).alloc (Obj.cells #[.int .u8 (op:Int),.int .u32 (arg:Int)] 37)).heap[w.heap.size+1+1]?=some (Obj.cells #[.int .u8 (op:Int),.int .u32 (arg:Int)] 37)):=dhid (by have:=heap_alloc_last ((w.alloc (.cells #[.int .u32 (a:Int),.int .u32 (n:Int),.int .u8 (k:Int),.int .u8 (op:Int),.int .u32 (arg0:Int),.int .u32 0] 28)).alloc (.cells #[.int .u32 0,.int .u32 0,.int .u8 0,.int .u8 0,.int .u32 0,.int .u32 0] 28)) (Obj.cells #[.int .u8 (op:Int),.int .u32 (arg:Int)] 37);simpa using this)
 go_enter Tryz.func46,Tryz.ntmps46
 go_wp2_with (refine wpList_storeF rfl _ _ rfl (w.heap.size+1) fz0 ⟨a,n,k,op,arg0,0⟩ rfl rfl HB5.out.c1 ?_)
 exact bodyPost_ret (resFzB (p:=8) (u:=9) (by kernel_rfl) _ _ (w.heap.size+1) _ rfl (setRow_heap _ _ _ _ _ _ HB5.out.c1) _ rfl rfl) rfl ⟨HY.out _,(HB5.out.row ⟨a,n,k,op,arg0,0⟩).bw⟩
theorem dloc11b_any (ao:Option Addr) (cap a e:Nat) (L:List (Nat × Nat)) (w:World) (hL:L.length≤140737488355328) (hae:a<e) (he:e≤L.length) (_he32:e<4294967296) (hwf:Wfc L) (hr:CRd w ao L w.heap.size) (h9:(L.getD a (0,0)).1=9) :
   Calls Tryz.prog 46 #[.slice ao L.length cap,.int .i64 (a:Int),.int .i64 (e:Int),.agg (fzA ⟨a,e-a,11,0,0,0⟩)] w fun x w'=>LcP L a e 11 x∧Below w.heap.size w w':=by
 obtain ⟨b,off,rfl,hbl,hc,x0,x1,y0,y1,haL,hmL,hsub,hsubn,hwm,hwn,hwm2,hwn2,hb1,hb2,hbn,hop⟩:=lc_facts hL hae he hwf hr
 by_cases hn:¬ e=a+2
 · have HY:Hid (∀ f,LcP L a e 11 (.returned (.tuple #[.agg (fzA f),.bool false]))):=dhid (fun f=>lc_no (L:=L) (a:=a) (e:=e) (k:=11) (f:=f) (fun g hg=>hn ((lc_11 (e:=e) h9 g).1 hg).1.1))
   rw [h9] at y0
   have gn:¬ ((e-a:Nat):Int)=2:=by omega
   have gn2:(((e-a:Nat):Int) == 2)=false:=by rw [beq_eq_false_iff_ne];omega
   generalize LcP L a e 11=PP at HY ⊢
   clear h9 hn
   generalize L.getD (e-1) (0,0)=q at x0 x1 hop
   obtain ⟨op,arg⟩:=q
   generalize L.getD a (0,0)=q at y1
   obtain ⟨op0,arg0⟩:=q
   simp only at x0 x1 y1
   clear hc hwf hL he _he32 hae hr
   replace hop:=hop.out
   replace hwm:=hwm.out
   replace hwn:=hwn.out
   replace hwm2:=hwm2.out
   replace hwn2:=hwn2.out
   generalize e-1=m at *
   generalize e-a=n at *
   simp only [fzA]
   have HB5:Hid (Bs w (((w.alloc (.cells #[.int .u32 (a:Int),.int .u32 (n:Int),.int .u8 11,.int .u8 0,.int .u32 (arg0:Int),.int .u32 (arg:Int)] 28)).alloc (.cells #[.int .u32 0,.int .u32 0,.int .u8 0,.int .u8 0,.int .u32 0,.int .u32 0] 28)).alloc (Obj.cells #[.int .u8 (op:Int),.int .u32 (arg:Int)] 37)) ⟨a,n,11,0,arg0,arg⟩ fz0):=dhid ((Bs.new w ⟨a,n,11,0,arg0,arg⟩ fz0).next (bel1 _ _))
   have HI5:Hid ((((w.alloc (.cells #[.int .u32 (a:Int),.int .u32 (n:Int),.int .u8 11,.int .u8 0,.int .u32 (arg0:Int),.int .u32 (arg:Int)] 28)).alloc (.cells #[.int .u32 0,.int .u32 0,.int .u8 0,.int .u8 0,.int .u32 0,.int .u32 0] 28)).alloc (Obj.cells #[.int .u8 (op:Int),.int .u32 (arg:Int)] 37)).heap[w.heap.size+1+1]?=some (Obj.cells #[.int .u8 (op:Int),.int .u32 (arg:Int)] 37)):=dhid (by have:=heap_alloc_last ((w.alloc (.cells #[.int .u32 (a:Int),.int .u32 (n:Int),.int .u8 11,.int .u8 0,.int .u32 (arg0:Int),.int .u32 (arg:Int)] 28)).alloc (.cells #[.int .u32 0,.int .u32 0,.int .u8 0,.int .u8 0,.int .u32 0,.int .u32 0] 28)) (Obj.cells #[.int .u8 (op:Int),.int .u32 (arg:Int)] 37);simpa using this)
   go_enter Tryz.func46,Tryz.ntmps46
   go_wp2_with fail
   generalize (((w.alloc (.cells #[.int .u32 (a:Int),.int .u32 (n:Int),.int .u8 11,.int .u8 0,.int .u32 (arg0:Int),.int .u32 (arg:Int)] 28)).alloc (.cells #[.int .u32 0,.int .u32 0,.int .u8 0,.int .u8 0,.int .u32 0,.int .u32 0] 28)).alloc (Obj.cells #[.int .u8 (op:Int),.int .u32 (arg:Int)] 37))=W5 at HB5 HI5 ⊢
   have hI:w.heap.size+1+1<W5.heap.size:=(Array.getElem?_eq_some_iff.1 HI5.out).1
   have SOF:Hid (∀ (V:World) (r:Fz),Bs w V ⟨a,n,11,0,arg0,arg⟩ r→V.heap[w.heap.size+1+1]?=some (Obj.cells #[.int .u8 (op:Int),.int .u32 (arg:Int)] 37)→V.cell? ⟨w.heap.size,0,none⟩=some (.int .u32 (a:Int))∧V.cell? ⟨w.heap.size,1,none⟩=some (.int .u32 (n:Int))∧V.cell? ⟨w.heap.size,2,none⟩=some (.int .u8 11)∧V.cell? ⟨w.heap.size,3,none⟩=some (.int .u8 0)∧V.cell? ⟨w.heap.size,4,none⟩=some (.int .u32 (arg0:Int))∧V.cell? ⟨w.heap.size,5,none⟩=some (.int .u32 (arg:Int))∧V.cell? ⟨w.heap.size+1+1,0,none⟩=some (.int .u8 (op:Int))):=dhid (fun V r hB hi=>⟨(fz_cells hB.c0).1,(fz_cells hB.c0).2.1,(fz_cells hB.c0).2.2.1,(fz_cells hB.c0).2.2.2.1,(fz_cells hB.c0).2.2.2.2.1,(fz_cells hB.c0).2.2.2.2.2,obj_cell hi 0⟩)
   have HBd:=dhid (show Bs w W5.drew ⟨a,n,11,0,arg0,arg⟩ fz0 from ⟨⟨HB5.out.bw.os,HB5.out.bw.tape,HB5.out.bw.output,HB5.out.bw.size,HB5.out.bw.block⟩,HB5.out.c0,HB5.out.c1⟩)
   have HS5:=dhid (SOF.out _ _ HBd.out HI5.out)
   have HP:Hid (Bs w ((((((W5.setCell ⟨w.heap.size+1,0,none⟩ (.int .u32 (a:Int))).setCell ⟨w.heap.size+1,1,none⟩ (.int .u32 (n:Int))).setCell ⟨w.heap.size+1,2,none⟩ (.int .u8 11)).setCell ⟨w.heap.size+1,3,none⟩ (.int .u8 0)).setCell ⟨w.heap.size+1,4,none⟩ (.int .u32 (arg0:Int))).setCell ⟨w.heap.size+1,5,none⟩ (.int .u32 (arg:Int))).drew ⟨a,n,11,0,arg0,arg⟩ ⟨a,n,11,0,arg0,arg⟩):=dhid (by have h:=(HB5.out.put ⟨a,n,11,0,arg0,arg⟩).drewZ;simp only [put6] at h;exact h)
   have HIP:=dhid (((put6_any (f:=fz0) (f':=⟨a,n,11,0,arg0,arg⟩) HB5.out.c1).2.block _ hI (by omega)).trans HI5.out)
   have HSP:=dhid (SOF.out _ _ HP.out (by have h:=HIP.out;simp only [put6] at h;rw [heap_drewZ];exact h))
   obtain ⟨z0,z1,z2,z3,z4,z5⟩:=fz_cells HBd.out.c1
   obtain ⟨u0,u1,u2,u3,u4,u5⟩:=fz_frozen HBd.out.c1
   obtain ⟨t0,t1,t2,t3,t4,t5⟩:=fz_cells HB5.out.c1
   obtain ⟨r0,r1,r2,r3,r4,r5⟩:=fz_frozen HB5.out.c1
   obtain ⟨a0,a1,a2,a3,a4,a5,a6⟩:=SOF.out _ _ HB5.out HI5.out
   clear SOF HBd HS5 HSP HIP z0 z1 z2 z3 z4 z5 u0 u1 u2 u3 u4 u5
   go_region
   all_goals (generalize ((((((W5.setCell ⟨w.heap.size+1,0,none⟩ (.int .u32 (a:Int))).setCell ⟨w.heap.size+1,1,none⟩ (.int .u32 (n:Int))).setCell ⟨w.heap.size+1,2,none⟩ (.int .u8 11)).setCell ⟨w.heap.size+1,3,none⟩ (.int .u8 0)).setCell ⟨w.heap.size+1,4,none⟩ (.int .u32 (arg0:Int))).setCell ⟨w.heap.size+1,5,none⟩ (.int .u32 (arg:Int))).drew=FW at HP ⊢)
   all_goals (have hP:=HP.out)
   all_goals (clear HP HB5 t0 t1 t2 t3 t4 t5 r0 r1 r2 r3 r4 r5 a0 a1 a2 a3 a4 a5 a6)
   all_goals go_wp2_with fail
   all_goals exact bodyPost_ret (resFzB (p:=8) (u:=9) (by kernel_rfl) _ _ (w.heap.size+1) _ rfl hP.c1 _ rfl rfl) rfl ⟨HY.out _,hP.bw⟩
 replace hn:=Decidable.not_not.1 hn
 have HY:Hid (LcP L a e 11 (.returned (.tuple #[.agg (fzA ⟨a,2,11,0,(L.getD a (0,0)).2,(L.getD (e-1) (0,0)).2⟩),.bool (((L.getD (e-1) (0,0)).1:Int) == 12)]))):=dhid (lc_yes (fun g=>by rw [lc_11 h9 g,show e-1=a+1 by omega,show (((L.getD (a+1) (0,0)).1:Int) == 12)=decide ((L.getD (a+1) (0,0)).1=12) from beqN _ 12];simp [hn]))
 rw [h9] at y0
 have gn:((e-a:Nat):Int)=2:=by omega
 generalize LcP L a e 11=PP at HY ⊢
 clear h9 hn
 generalize L.getD (e-1) (0,0)=q at x0 x1 hop HY
 obtain ⟨op,arg⟩:=q
 generalize L.getD a (0,0)=q at y1 HY
 obtain ⟨op0,arg0⟩:=q
 simp only at x0 x1 y1 HY
 clear hc hwf hL he _he32 hae hr
 replace hop:=hop.out
 replace hwm:=hwm.out
 replace hwn:=hwn.out
 replace hwm2:=hwm2.out
 replace hwn2:=hwn2.out
 generalize e-1=m at *
 generalize e-a=n at *
 simp only [fzA]
 have HB5:Hid (Bs w (((w.alloc (.cells #[.int .u32 (a:Int),.int .u32 2,.int .u8 11,.int .u8 0,.int .u32 (arg0:Int),.int .u32 (arg:Int)] 28)).alloc (.cells #[.int .u32 0,.int .u32 0,.int .u8 0,.int .u8 0,.int .u32 0,.int .u32 0] 28)).alloc (Obj.cells #[.int .u8 (op:Int),.int .u32 (arg:Int)] 37)) ⟨a,2,11,0,arg0,arg⟩ fz0):=dhid ((Bs.new w ⟨a,2,11,0,arg0,arg⟩ fz0).next (bel1 _ _))
 have HI5:Hid ((((w.alloc (.cells #[.int .u32 (a:Int),.int .u32 2,.int .u8 11,.int .u8 0,.int .u32 (arg0:Int),.int .u32 (arg:Int)] 28)).alloc (.cells #[.int .u32 0,.int .u32 0,.int .u8 0,.int .u8 0,.int .u32 0,.int .u32 0] 28)).alloc (Obj.cells #[.int .u8 (op:Int),.int .u32 (arg:Int)] 37)).heap[w.heap.size+1+1]?=some (Obj.cells #[.int .u8 (op:Int),.int .u32 (arg:Int)] 37)):=dhid (by have:=heap_alloc_last ((w.alloc (.cells #[.int .u32 (a:Int),.int .u32 2,.int .u8 11,.int .u8 0,.int .u32 (arg0:Int),.int .u32 (arg:Int)] 28)).alloc (.cells #[.int .u32 0,.int .u32 0,.int .u8 0,.int .u8 0,.int .u32 0,.int .u32 0] 28)) (Obj.cells #[.int .u8 (op:Int),.int .u32 (arg:Int)] 37);simpa using this)
 go_enter Tryz.func46,Tryz.ntmps46
 go_wp2_with fail
 generalize (((w.alloc (.cells #[.int .u32 (a:Int),.int .u32 2,.int .u8 11,.int .u8 0,.int .u32 (arg0:Int),.int .u32 (arg:Int)] 28)).alloc (.cells #[.int .u32 0,.int .u32 0,.int .u8 0,.int .u8 0,.int .u32 0,.int .u32 0] 28)).alloc (Obj.cells #[.int .u8 (op:Int),.int .u32 (arg:Int)] 37))=W5 at HB5 HI5 ⊢
 have hI:w.heap.size+1+1<W5.heap.size:=(Array.getElem?_eq_some_iff.1 HI5.out).1
 have SOF:Hid (∀ (V:World) (r:Fz),Bs w V ⟨a,2,11,0,arg0,arg⟩ r→V.heap[w.heap.size+1+1]?=some (Obj.cells #[.int .u8 (op:Int),.int .u32 (arg:Int)] 37)→V.cell? ⟨w.heap.size,0,none⟩=some (.int .u32 (a:Int))∧V.cell? ⟨w.heap.size,1,none⟩=some (.int .u32 2)∧V.cell? ⟨w.heap.size,2,none⟩=some (.int .u8 11)∧V.cell? ⟨w.heap.size,3,none⟩=some (.int .u8 0)∧V.cell? ⟨w.heap.size,4,none⟩=some (.int .u32 (arg0:Int))∧V.cell? ⟨w.heap.size,5,none⟩=some (.int .u32 (arg:Int))∧V.cell? ⟨w.heap.size+1+1,0,none⟩=some (.int .u8 (op:Int))):=dhid (fun V r hB hi=>⟨(fz_cells hB.c0).1,(fz_cells hB.c0).2.1,(fz_cells hB.c0).2.2.1,(fz_cells hB.c0).2.2.2.1,(fz_cells hB.c0).2.2.2.2.1,(fz_cells hB.c0).2.2.2.2.2,obj_cell hi 0⟩)
 have HBd:=dhid (show Bs w W5.drew ⟨a,2,11,0,arg0,arg⟩ fz0 from ⟨⟨HB5.out.bw.os,HB5.out.bw.tape,HB5.out.bw.output,HB5.out.bw.size,HB5.out.bw.block⟩,HB5.out.c0,HB5.out.c1⟩)
 have HS5:=dhid (SOF.out _ _ HBd.out HI5.out)
 have HP:Hid (Bs w ((((((W5.setCell ⟨w.heap.size+1,0,none⟩ (.int .u32 (a:Int))).setCell ⟨w.heap.size+1,1,none⟩ (.int .u32 2)).setCell ⟨w.heap.size+1,2,none⟩ (.int .u8 11)).setCell ⟨w.heap.size+1,3,none⟩ (.int .u8 0)).setCell ⟨w.heap.size+1,4,none⟩ (.int .u32 (arg0:Int))).setCell ⟨w.heap.size+1,5,none⟩ (.int .u32 (arg:Int))).drew ⟨a,2,11,0,arg0,arg⟩ ⟨a,2,11,0,arg0,arg⟩):=dhid (by have h:=(HB5.out.put ⟨a,2,11,0,arg0,arg⟩).drewZ;simp only [put6] at h;exact h)
 have HIP:=dhid (((put6_any (f:=fz0) (f':=⟨a,2,11,0,arg0,arg⟩) HB5.out.c1).2.block _ hI (by omega)).trans HI5.out)
 have HSP:=dhid (SOF.out _ _ HP.out (by have h:=HIP.out;simp only [put6] at h;rw [heap_drewZ];exact h))
 obtain ⟨z0,z1,z2,z3,z4,z5⟩:=fz_cells HBd.out.c1
 obtain ⟨u0,u1,u2,u3,u4,u5⟩:=fz_frozen HBd.out.c1
 obtain ⟨t0,t1,t2,t3,t4,t5⟩:=fz_cells HB5.out.c1
 obtain ⟨r0,r1,r2,r3,r4,r5⟩:=fz_frozen HB5.out.c1
 clear SOF HBd
 go_region_held3 (fun V=>V.cell? ⟨w.heap.size,0,none⟩=some (.int .u32 (a:Int))∧V.cell? ⟨w.heap.size,1,none⟩=some (.int .u32 2)∧V.cell? ⟨w.heap.size,2,none⟩=some (.int .u8 11)∧V.cell? ⟨w.heap.size,3,none⟩=some (.int .u8 0)∧V.cell? ⟨w.heap.size,4,none⟩=some (.int .u32 (arg0:Int))∧V.cell? ⟨w.heap.size,5,none⟩=some (.int .u32 (arg:Int))∧V.cell? ⟨w.heap.size+1+1,0,none⟩=some (.int .u8 (op:Int))) (first|with_reducible exact HS5.out|with_reducible exact HSP.out) (first|fail)
 generalize ((((((W5.setCell ⟨w.heap.size+1,0,none⟩ (.int .u32 (a:Int))).setCell ⟨w.heap.size+1,1,none⟩ (.int .u32 2)).setCell ⟨w.heap.size+1,2,none⟩ (.int .u8 11)).setCell ⟨w.heap.size+1,3,none⟩ (.int .u8 0)).setCell ⟨w.heap.size+1,4,none⟩ (.int .u32 (arg0:Int))).setCell ⟨w.heap.size+1,5,none⟩ (.int .u32 (arg:Int))).drew=FW at HP ⊢
 have hP:=HP.out
 clear HSP HS5 HB5 HP HI5 HIP t0 t1 t2 t3 t4 t5 r0 r1 r2 r3 r4 r5 z0 z1 z2 z3 z4 z5 u0 u1 u2 u3 u4 u5
 go_wp2_with fail
 exact bodyPost_ret (resFzB (p:=8) (u:=9) (by kernel_rfl) _ _ (w.heap.size+1) _ rfl hP.c1 _ rfl rfl) rfl ⟨HY.out,hP.bw⟩
theorem dloc11_any (ao:Option Addr) (cap a e:Nat) (L:List (Nat × Nat)) (w:World) (hL:L.length≤140737488355328) (hae:a<e) (he:e≤L.length) (he32:e<4294967296) (hwf:Wfc L) (hr:CRd w ao L w.heap.size) :
   Calls Tryz.prog 46 #[.slice ao L.length cap,.int .i64 (a:Int),.int .i64 (e:Int),.agg (fzA ⟨a,e-a,11,0,0,0⟩)] w fun x w'=>LcP L a e 11 x∧Below w.heap.size w w':=by
 by_cases h9:(L.getD a (0,0)).1=9
 · exact dloc11b_any ao cap a e L w hL hae he he32 hwf hr h9
 · exact dlocN_any ao cap a e 11 L w hL hae he he32 hwf hr h9
end Go.Proofs.YtibhlcfligfhdaaGreat
