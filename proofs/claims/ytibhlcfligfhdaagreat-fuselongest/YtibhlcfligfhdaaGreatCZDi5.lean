import Derived.Test.YtibhlcfligfhdaaGreatCZDc
namespace Go.Proofs.YtibhlcfligfhdaaGreat
set_option maxHeartbeats 8000000
open Go.RowKit Go.WideShapes Go.Shelf
set_option maxRecDepth 100000
theorem dlast5_any (ao:Option Addr) (cap a e n:Nat) (L:List (Nat × Nat)) (w:World) (hL:L.length≤140737488355328) (hae:a+2≤e) (he:e≤L.length) (he32:e<4294967296) (hwf:Wfc L) (hr:CRd w ao L w.heap.size) :
   Calls Tryz.prog 45 #[.slice ao L.length cap,.int .i64 (a:Int),.int .i64 (e:Int),.agg (fzA ⟨a,n,5,0,0,0⟩)] w fun x w'=>LsP a n 5 (cnO ((L.drop a).take (e-1-a))) (L.getD (e-1) (0,0)) x∧Below w.heap.size w w':=by
 have HCN:=dhid (fun W (hW:Below w.heap.size w W)=>dcon_any ao cap a (e-1) L W hL (by omega) (by omega) (by omega) hwf ((hr.below hW).mono hW.size))
 obtain ⟨b,off,rfl,hbl,hc⟩:=hr (by omega)
 have hlt:e-1<L.length:=by omega
 have X0:=dhid (fun (W:World) (hW:Below w.heap.size w W)=>(hW.cell (p:=⟨b,off+(e-1)*2,none⟩) hbl).trans (hc (e-1) hlt).1)
 have X1:=dhid (fun (W:World) (hW:Below w.heap.size w W)=>(hW.cell (p:=⟨b,off+(e-1)*2+1,none⟩) hbl).trans (hc (e-1) hlt).2)
 have hop:=(hwf.at hlt).1
 generalize L.getD (e-1) (0,0)=q at X0 X1 hop ⊢
 obtain ⟨op,arg⟩:=q
 simp only at X0 X1 hop
 have hsub:(e:Int)-1=((e-1:Nat):Int):=by omega
 have hltI:((e-1:Nat):Int)<(L.length:Int):=by omega
 have hwm:wrap64 ((e-1:Nat):Int)=((e-1:Nat):Int):=by unfold wrap64;omega
 generalize e-1=m at *
 clear hc hwf hae he he32 hL
 have HDB:Hid (∀ W:World,Calls Tryz.prog 61 #[.int .u8 (op:Int)] W fun e w'=>e=.returned (.bool (dBin op))∧Below W.heap.size W w'):=dhid (fun W=>dbin_any op W hop)
 go_enter Tryz.func45,Tryz.ntmps45
 go_wp2_with fail
 refine (HCN.out _ (zbel2 w _ _)).mono ?_
 rintro en w2 ⟨⟨v,okc,rfl,hO⟩,hb2⟩
 have HO1:Hid (okc=true→cnO (List.take (m-a) (List.drop a L))=some v):=dhid (fun h=>by rw [hO,if_pos h])
 have HO0:Hid (okc=false→cnO (List.take (m-a) (List.drop a L))=none):=dhid (fun h=>by rw [hO,if_neg (by rw [h];decide)])
 have HB:=dhid ((Bs.new w ⟨a,n,5,0,0,0⟩ fz0).next hb2)
 have y0:=X0.out w2 HB.out.bw
 have y1:=X1.out w2 HB.out.bw
 have hlt2:w.heap.size+1<w2.heap.size:=HB.out.lt
 have hne1:w2.heap.size≠w.heap.size:=by omega
 have hne3:w.heap.size<w2.heap.size:=by omega
 obtain ⟨z0,z1,z2,z3,z4,z5⟩:=fz_cells HB.out.c0
 obtain ⟨u0,u1,u2,u3,u4,u5⟩:=fz_frozen HB.out.c0
 simp only at z0 z1 z2 z3 z4 z5
 have HB5:Hid (Bs w (((w2.setCell ⟨w.heap.size,4,none⟩ (.int .u32 (v:Int))).setCell ⟨w.heap.size,3,none⟩ (.int .u8 (op:Int))).alloc (Obj.cells #[.int .u8 (op:Int),.int .u32 (arg:Int)] 37)) ⟨a,n,5,op,v,0⟩ fz0):=dhid (((HB.out.seta v).setop op).next (bel1 _ _))
 have HI5:Hid ((((w2.setCell ⟨w.heap.size,4,none⟩ (.int .u32 (v:Int))).setCell ⟨w.heap.size,3,none⟩ (.int .u8 (op:Int))).alloc (Obj.cells #[.int .u8 (op:Int),.int .u32 (arg:Int)] 37)).heap[w2.heap.size]?=some (Obj.cells #[.int .u8 (op:Int),.int .u32 (arg:Int)] 37)):=dhid (by have hsz:((w2.setCell ⟨w.heap.size,4,none⟩ (.int .u32 (v:Int))).setCell ⟨w.heap.size,3,none⟩ (.int .u8 (op:Int))).heap.size=w2.heap.size:=(by simp only [World.size_setCell]);rw [←hsz];exact heap_alloc_new _ _)
 clear hO hb2 HCN X0 X1 hbl hr
 cases okc with
 | true =>
   go_wp2_with fail
   generalize ((w2.setCell ⟨w.heap.size,4,none⟩ (.int .u32 (v:Int))).setCell ⟨w.heap.size,3,none⟩ (.int .u8 (op:Int))).alloc (Obj.cells #[.int .u8 (op:Int),.int .u32 (arg:Int)] 37)=W5 at HB5 HI5 ⊢
   clear z0 z1 z2 z3 z4 z5 u0 u1 u2 u3 u4 u5 y0 y1 hne1 hne3
   have hI:w2.heap.size<W5.heap.size:=(Array.getElem?_eq_some_iff.1 HI5.out).1
   have SOF:Hid (∀ (V:World) (r:Fz),Bs w V ⟨a,n,5,op,v,0⟩ r→V.heap[w2.heap.size]?=some (Obj.cells #[.int .u8 (op:Int),.int .u32 (arg:Int)] 37)→V.cell? ⟨w.heap.size,0,none⟩=some (.int .u32 (a:Int))∧V.cell? ⟨w.heap.size,1,none⟩=some (.int .u32 (n:Int))∧V.cell? ⟨w.heap.size,2,none⟩=some (.int .u8 5)∧V.cell? ⟨w.heap.size,3,none⟩=some (.int .u8 (op:Int))∧V.cell? ⟨w.heap.size,4,none⟩=some (.int .u32 (v:Int))∧V.cell? ⟨w.heap.size,5,none⟩=some (.int .u32 0)∧V.cell? ⟨w2.heap.size,0,none⟩=some (.int .u8 (op:Int))):=dhid (fun V r hB hi=>⟨(fz_cells hB.c0).1,(fz_cells hB.c0).2.1,(fz_cells hB.c0).2.2.1,(fz_cells hB.c0).2.2.2.1,(fz_cells hB.c0).2.2.2.2.1,(fz_cells hB.c0).2.2.2.2.2,obj_cell hi 0⟩)
   have HBd:=dhid (show Bs w W5.drew ⟨a,n,5,op,v,0⟩ fz0 from ⟨⟨HB5.out.bw.os,HB5.out.bw.tape,HB5.out.bw.output,HB5.out.bw.size,HB5.out.bw.block⟩,HB5.out.c0,HB5.out.c1⟩)
   have HS5:=dhid (SOF.out _ _ HBd.out HI5.out)
   have HP:Hid (Bs w ((((((W5.setCell ⟨w.heap.size+1,0,none⟩ (.int .u32 (a:Int))).setCell ⟨w.heap.size+1,1,none⟩ (.int .u32 (n:Int))).setCell ⟨w.heap.size+1,2,none⟩ (.int .u8 5)).setCell ⟨w.heap.size+1,3,none⟩ (.int .u8 (op:Int))).setCell ⟨w.heap.size+1,4,none⟩ (.int .u32 (v:Int))).setCell ⟨w.heap.size+1,5,none⟩ (.int .u32 0)).drew ⟨a,n,5,op,v,0⟩ ⟨a,n,5,op,v,0⟩):=dhid (by have h:=(HB5.out.put ⟨a,n,5,op,v,0⟩).drewZ;simp only [put6] at h;exact h)
   have HIP:=dhid (((put6_any (f:=fz0) (f':=⟨a,n,5,op,v,0⟩) HB5.out.c1).2.block _ hI (by omega)).trans HI5.out)
   have HSP:=dhid (SOF.out _ _ HP.out (by have h:=HIP.out;simp only [put6] at h;rw [heap_drewZ];exact h))
   obtain ⟨z0,z1,z2,z3,z4,z5⟩:=fz_cells HBd.out.c1
   obtain ⟨u0,u1,u2,u3,u4,u5⟩:=fz_frozen HBd.out.c1
   obtain ⟨t0,t1,t2,t3,t4,t5⟩:=fz_cells HB5.out.c1
   obtain ⟨r0,r1,r2,r3,r4,r5⟩:=fz_frozen HB5.out.c1
   generalize hdn:dBin op=okd at HDB
   go_region_held3 (fun V=>V.cell? ⟨w.heap.size,0,none⟩=some (.int .u32 (a:Int))∧V.cell? ⟨w.heap.size,1,none⟩=some (.int .u32 (n:Int))∧V.cell? ⟨w.heap.size,2,none⟩=some (.int .u8 5)∧V.cell? ⟨w.heap.size,3,none⟩=some (.int .u8 (op:Int))∧V.cell? ⟨w.heap.size,4,none⟩=some (.int .u32 (v:Int))∧V.cell? ⟨w.heap.size,5,none⟩=some (.int .u32 0)∧V.cell? ⟨w2.heap.size,0,none⟩=some (.int .u8 (op:Int))) (first|with_reducible exact HS5.out|with_reducible exact HSP.out|with_reducible exact HS3.out|with_reducible exact HSP3.out)
     (first
       | (with_reducible refine (HDB.out W5.drew).mono ?_
          rintro en w3 ⟨rfl,hb3⟩
          have HB3:Hid (Bs w w3 ⟨a,n,5,op,v,0⟩ fz0):=dhid (HBd.out.next hb3)
          have HI3:Hid (w3.heap[w2.heap.size]?=some (Obj.cells #[.int .u8 (op:Int),.int .u32 (arg:Int)] 37)):=dhid ((hb3.block _ hI).trans HI5.out)
          have HS3:=dhid (SOF.out _ _ HB3.out HI3.out)
          have HP3:Hid (Bs w ((((((w3.setCell ⟨w.heap.size+1,0,none⟩ (.int .u32 (a:Int))).setCell ⟨w.heap.size+1,1,none⟩ (.int .u32 (n:Int))).setCell ⟨w.heap.size+1,2,none⟩ (.int .u8 5)).setCell ⟨w.heap.size+1,3,none⟩ (.int .u8 (op:Int))).setCell ⟨w.heap.size+1,4,none⟩ (.int .u32 (v:Int))).setCell ⟨w.heap.size+1,5,none⟩ (.int .u32 0)) ⟨a,n,5,op,v,0⟩ ⟨a,n,5,op,v,0⟩):=dhid (by have h:=HB3.out.put ⟨a,n,5,op,v,0⟩;simp only [put6] at h;exact h)
          have HSP3:=dhid (SOF.out _ _ HP3.out (by have h:=((put6_any (f:=fz0) (f':=⟨a,n,5,op,v,0⟩) HB3.out.c1).2.block _ (Array.getElem?_eq_some_iff.1 HI3.out).1 (by omega)).trans HI3.out;simp only [put6] at h;exact h))
          obtain ⟨x0,x1,x2,x3,x4,x5⟩:=fz_cells HB3.out.c1
          obtain ⟨s0,s1,s2,s3,s4,s5⟩:=fz_frozen HB3.out.c1
          clear hb3)
       | (with_reducible refine (HDB.out ((((((W5.setCell ⟨w.heap.size+1,0,none⟩ (.int .u32 (a:Int))).setCell ⟨w.heap.size+1,1,none⟩ (.int .u32 (n:Int))).setCell ⟨w.heap.size+1,2,none⟩ (.int .u8 5)).setCell ⟨w.heap.size+1,3,none⟩ (.int .u8 (op:Int))).setCell ⟨w.heap.size+1,4,none⟩ (.int .u32 (v:Int))).setCell ⟨w.heap.size+1,5,none⟩ (.int .u32 0)).drew).mono ?_
          rintro en w3 ⟨rfl,hb3⟩
          have HB4:Hid (Bs w w3 ⟨a,n,5,op,v,0⟩ ⟨a,n,5,op,v,0⟩):=dhid (HP.out.next hb3)
          have HI4:Hid (w3.heap[w2.heap.size]?=some (Obj.cells #[.int .u8 (op:Int),.int .u32 (arg:Int)] 37)):=dhid (by have h:=HIP.out;simp only [put6] at h;rw [←heap_drewZ] at h;exact (hb3.block _ (Array.getElem?_eq_some_iff.1 h).1).trans h)
          have HS3:=dhid (SOF.out _ _ HB4.out HI4.out)
          clear hb3))
   all_goals first
     | (have hP:=HB4.out
        clear HSP HS5 HB5 HP HI5 HIP t0 t1 t2 t3 t4 t5 r0 r1 r2 r3 r4 r5 z0 z1 z2 z3 z4 z5 u0 u1 u2 u3 u4 u5 hlt2 HB4 HI4 HS3
        go_wp2_with fail
        exact bodyPost_ret (resFzB (p:=8) (u:=9) (by kernel_rfl) _ _ (w.heap.size+1) _ rfl hP.c1 _ rfl rfl) rfl ⟨ls_yes (ok:=okd) (v:=v) (by first|exact HO1.out rfl|exact HO1.out trivial) (by rw [←hdn];unfold dsC;simp),hP.bw⟩)
     | (generalize ((((((w3.setCell ⟨w.heap.size+1,0,none⟩ (.int .u32 (a:Int))).setCell ⟨w.heap.size+1,1,none⟩ (.int .u32 (n:Int))).setCell ⟨w.heap.size+1,2,none⟩ (.int .u8 5)).setCell ⟨w.heap.size+1,3,none⟩ (.int .u8 (op:Int))).setCell ⟨w.heap.size+1,4,none⟩ (.int .u32 (v:Int))).setCell ⟨w.heap.size+1,5,none⟩ (.int .u32 0))=FW at HP3 ⊢
        have hP:=HP3.out
        clear HSP HS5 HB5 HP HI5 HIP t0 t1 t2 t3 t4 t5 r0 r1 r2 r3 r4 r5 z0 z1 z2 z3 z4 z5 u0 u1 u2 u3 u4 u5 hlt2 HB3 HI3 HS3 HSP3 HP3 x0 x1 x2 x3 x4 x5 s0 s1 s2 s3 s4 s5
        go_wp2_with fail
        exact bodyPost_ret (resFzB (p:=8) (u:=9) (by kernel_rfl) _ _ (w.heap.size+1) _ rfl hP.c1 _ rfl rfl) rfl ⟨ls_yes (ok:=okd) (v:=v) (by first|exact HO1.out rfl|exact HO1.out trivial) (by rw [←hdn];unfold dsC;simp),hP.bw⟩)
 | false=>
   go_wp2_with fail
   generalize ((w2.setCell ⟨w.heap.size,4,none⟩ (.int .u32 (v:Int))).setCell ⟨w.heap.size,3,none⟩ (.int .u8 (op:Int))).alloc (Obj.cells #[.int .u8 (op:Int),.int .u32 (arg:Int)] 37)=W5 at HB5 HI5 ⊢
   clear z0 z1 z2 z3 z4 z5 u0 u1 u2 u3 u4 u5 y0 y1 hne1 hne3
   have hI:w2.heap.size<W5.heap.size:=(Array.getElem?_eq_some_iff.1 HI5.out).1
   have SOF:Hid (∀ (V:World) (r:Fz),Bs w V ⟨a,n,5,op,v,0⟩ r→V.heap[w2.heap.size]?=some (Obj.cells #[.int .u8 (op:Int),.int .u32 (arg:Int)] 37)→V.cell? ⟨w.heap.size,0,none⟩=some (.int .u32 (a:Int))∧V.cell? ⟨w.heap.size,1,none⟩=some (.int .u32 (n:Int))∧V.cell? ⟨w.heap.size,2,none⟩=some (.int .u8 5)∧V.cell? ⟨w.heap.size,3,none⟩=some (.int .u8 (op:Int))∧V.cell? ⟨w.heap.size,4,none⟩=some (.int .u32 (v:Int))∧V.cell? ⟨w.heap.size,5,none⟩=some (.int .u32 0)∧V.cell? ⟨w2.heap.size,0,none⟩=some (.int .u8 (op:Int))):=dhid (fun V r hB hi=>⟨(fz_cells hB.c0).1,(fz_cells hB.c0).2.1,(fz_cells hB.c0).2.2.1,(fz_cells hB.c0).2.2.2.1,(fz_cells hB.c0).2.2.2.2.1,(fz_cells hB.c0).2.2.2.2.2,obj_cell hi 0⟩)
   have HBd:=dhid (show Bs w W5.drew ⟨a,n,5,op,v,0⟩ fz0 from ⟨⟨HB5.out.bw.os,HB5.out.bw.tape,HB5.out.bw.output,HB5.out.bw.size,HB5.out.bw.block⟩,HB5.out.c0,HB5.out.c1⟩)
   have HS5:=dhid (SOF.out _ _ HBd.out HI5.out)
   have HP:Hid (Bs w ((((((W5.setCell ⟨w.heap.size+1,0,none⟩ (.int .u32 (a:Int))).setCell ⟨w.heap.size+1,1,none⟩ (.int .u32 (n:Int))).setCell ⟨w.heap.size+1,2,none⟩ (.int .u8 5)).setCell ⟨w.heap.size+1,3,none⟩ (.int .u8 (op:Int))).setCell ⟨w.heap.size+1,4,none⟩ (.int .u32 (v:Int))).setCell ⟨w.heap.size+1,5,none⟩ (.int .u32 0)).drew ⟨a,n,5,op,v,0⟩ ⟨a,n,5,op,v,0⟩):=dhid (by have h:=(HB5.out.put ⟨a,n,5,op,v,0⟩).drewZ;simp only [put6] at h;exact h)
   have HIP:=dhid (((put6_any (f:=fz0) (f':=⟨a,n,5,op,v,0⟩) HB5.out.c1).2.block _ hI (by omega)).trans HI5.out)
   have HSP:=dhid (SOF.out _ _ HP.out (by have h:=HIP.out;simp only [put6] at h;rw [heap_drewZ];exact h))
   obtain ⟨z0,z1,z2,z3,z4,z5⟩:=fz_cells HBd.out.c1
   obtain ⟨u0,u1,u2,u3,u4,u5⟩:=fz_frozen HBd.out.c1
   obtain ⟨t0,t1,t2,t3,t4,t5⟩:=fz_cells HB5.out.c1
   obtain ⟨r0,r1,r2,r3,r4,r5⟩:=fz_frozen HB5.out.c1
   obtain ⟨a1,a2,a3,a4,a5,a6,a7⟩:=SOF.out _ _ HB5.out HI5.out
   clear SOF HBd HS5 HSP HIP z0 z1 z2 z3 z4 z5 u0 u1 u2 u3 u4 u5 hlt2 HB HO1
   go_region
   all_goals (generalize ((((((W5.setCell ⟨w.heap.size+1,0,none⟩ (.int .u32 (a:Int))).setCell ⟨w.heap.size+1,1,none⟩ (.int .u32 (n:Int))).setCell ⟨w.heap.size+1,2,none⟩ (.int .u8 5)).setCell ⟨w.heap.size+1,3,none⟩ (.int .u8 (op:Int))).setCell ⟨w.heap.size+1,4,none⟩ (.int .u32 (v:Int))).setCell ⟨w.heap.size+1,5,none⟩ (.int .u32 0)).drew=FW at HP ⊢)
   all_goals (have hP:=HP.out)
   all_goals (clear HP HB5 HI5 t0 t1 t2 t3 t4 t5 r0 r1 r2 r3 r4 r5 a1 a2 a3 a4 a5 a6 a7)
   all_goals go_wp2_with fail
   all_goals exact bodyPost_ret (resFzB (p:=8) (u:=9) (by kernel_rfl) _ _ (w.heap.size+1) _ rfl hP.c1 _ rfl rfl) rfl ⟨ls_no (by first|exact HO0.out rfl|exact HO0.out trivial),hP.bw⟩
theorem dlast6_any (ao:Option Addr) (cap a e n:Nat) (L:List (Nat × Nat)) (w:World) (hL:L.length≤140737488355328) (hae:a+2≤e) (he:e≤L.length) (he32:e<4294967296) (hwf:Wfc L) (hr:CRd w ao L w.heap.size) :
   Calls Tryz.prog 45 #[.slice ao L.length cap,.int .i64 (a:Int),.int .i64 (e:Int),.agg (fzA ⟨a,n,6,0,0,0⟩)] w fun x w'=>LsP a n 6 (cnO ((L.drop a).take (e-1-a))) (L.getD (e-1) (0,0)) x∧Below w.heap.size w w':=by
 have HCN:=dhid (fun W (hW:Below w.heap.size w W)=>dcon_any ao cap a (e-1) L W hL (by omega) (by omega) (by omega) hwf ((hr.below hW).mono hW.size))
 obtain ⟨b,off,rfl,hbl,hc⟩:=hr (by omega)
 have hlt:e-1<L.length:=by omega
 have X0:=dhid (fun (W:World) (hW:Below w.heap.size w W)=>(hW.cell (p:=⟨b,off+(e-1)*2,none⟩) hbl).trans (hc (e-1) hlt).1)
 have X1:=dhid (fun (W:World) (hW:Below w.heap.size w W)=>(hW.cell (p:=⟨b,off+(e-1)*2+1,none⟩) hbl).trans (hc (e-1) hlt).2)
 have hop:=(hwf.at hlt).1
 generalize L.getD (e-1) (0,0)=q at X0 X1 hop ⊢
 obtain ⟨op,arg⟩:=q
 simp only at X0 X1 hop
 have hsub:(e:Int)-1=((e-1:Nat):Int):=by omega
 have hltI:((e-1:Nat):Int)<(L.length:Int):=by omega
 have hwm:wrap64 ((e-1:Nat):Int)=((e-1:Nat):Int):=by unfold wrap64;omega
 generalize e-1=m at *
 clear hc hwf hae he he32 hL
 have HDB:Hid (∀ W:World,Calls Tryz.prog 62 #[.int .u8 (op:Int)] W fun e w'=>e=.returned (.bool (dBra op))∧Below W.heap.size W w'):=dhid (fun W=>dbra_any op W hop)
 go_enter Tryz.func45,Tryz.ntmps45
 go_wp2_with fail
 refine (HCN.out _ (zbel2 w _ _)).mono ?_
 rintro en w2 ⟨⟨v,okc,rfl,hO⟩,hb2⟩
 have HO1:Hid (okc=true→cnO (List.take (m-a) (List.drop a L))=some v):=dhid (fun h=>by rw [hO,if_pos h])
 have HO0:Hid (okc=false→cnO (List.take (m-a) (List.drop a L))=none):=dhid (fun h=>by rw [hO,if_neg (by rw [h];decide)])
 have HB:=dhid ((Bs.new w ⟨a,n,6,0,0,0⟩ fz0).next hb2)
 have y0:=X0.out w2 HB.out.bw
 have y1:=X1.out w2 HB.out.bw
 have hlt2:w.heap.size+1<w2.heap.size:=HB.out.lt
 have hne1:w2.heap.size≠w.heap.size:=by omega
 have hne3:w.heap.size<w2.heap.size:=by omega
 obtain ⟨z0,z1,z2,z3,z4,z5⟩:=fz_cells HB.out.c0
 obtain ⟨u0,u1,u2,u3,u4,u5⟩:=fz_frozen HB.out.c0
 simp only at z0 z1 z2 z3 z4 z5
 have HB5:Hid (Bs w ((((w2.setCell ⟨w.heap.size,4,none⟩ (.int .u32 (v:Int))).setCell ⟨w.heap.size,3,none⟩ (.int .u8 (op:Int))).setCell ⟨w.heap.size,5,none⟩ (.int .u32 (arg:Int))).alloc (Obj.cells #[.int .u8 (op:Int),.int .u32 (arg:Int)] 37)) ⟨a,n,6,op,v,arg⟩ fz0):=dhid ((((HB.out.seta v).setop op).setb arg).next (bel1 _ _))
 have HI5:Hid (((((w2.setCell ⟨w.heap.size,4,none⟩ (.int .u32 (v:Int))).setCell ⟨w.heap.size,3,none⟩ (.int .u8 (op:Int))).setCell ⟨w.heap.size,5,none⟩ (.int .u32 (arg:Int))).alloc (Obj.cells #[.int .u8 (op:Int),.int .u32 (arg:Int)] 37)).heap[w2.heap.size]?=some (Obj.cells #[.int .u8 (op:Int),.int .u32 (arg:Int)] 37)):=dhid (by have hsz:(((w2.setCell ⟨w.heap.size,4,none⟩ (.int .u32 (v:Int))).setCell ⟨w.heap.size,3,none⟩ (.int .u8 (op:Int))).setCell ⟨w.heap.size,5,none⟩ (.int .u32 (arg:Int))).heap.size=w2.heap.size:=(by simp only [World.size_setCell]);rw [←hsz];exact heap_alloc_new _ _)
 clear hO hb2 HCN X0 X1 hbl hr
 cases okc with
 | true =>
   go_wp2_with fail
   generalize (((w2.setCell ⟨w.heap.size,4,none⟩ (.int .u32 (v:Int))).setCell ⟨w.heap.size,3,none⟩ (.int .u8 (op:Int))).setCell ⟨w.heap.size,5,none⟩ (.int .u32 (arg:Int))).alloc (Obj.cells #[.int .u8 (op:Int),.int .u32 (arg:Int)] 37)=W5 at HB5 HI5 ⊢
   clear z0 z1 z2 z3 z4 z5 u0 u1 u2 u3 u4 u5 y0 y1 hne1 hne3
   have hI:w2.heap.size<W5.heap.size:=(Array.getElem?_eq_some_iff.1 HI5.out).1
   have SOF:Hid (∀ (V:World) (r:Fz),Bs w V ⟨a,n,6,op,v,arg⟩ r→V.heap[w2.heap.size]?=some (Obj.cells #[.int .u8 (op:Int),.int .u32 (arg:Int)] 37)→V.cell? ⟨w.heap.size,0,none⟩=some (.int .u32 (a:Int))∧V.cell? ⟨w.heap.size,1,none⟩=some (.int .u32 (n:Int))∧V.cell? ⟨w.heap.size,2,none⟩=some (.int .u8 6)∧V.cell? ⟨w.heap.size,3,none⟩=some (.int .u8 (op:Int))∧V.cell? ⟨w.heap.size,4,none⟩=some (.int .u32 (v:Int))∧V.cell? ⟨w.heap.size,5,none⟩=some (.int .u32 (arg:Int))∧V.cell? ⟨w2.heap.size,0,none⟩=some (.int .u8 (op:Int))):=dhid (fun V r hB hi=>⟨(fz_cells hB.c0).1,(fz_cells hB.c0).2.1,(fz_cells hB.c0).2.2.1,(fz_cells hB.c0).2.2.2.1,(fz_cells hB.c0).2.2.2.2.1,(fz_cells hB.c0).2.2.2.2.2,obj_cell hi 0⟩)
   have HBd:=dhid (show Bs w W5.drew ⟨a,n,6,op,v,arg⟩ fz0 from ⟨⟨HB5.out.bw.os,HB5.out.bw.tape,HB5.out.bw.output,HB5.out.bw.size,HB5.out.bw.block⟩,HB5.out.c0,HB5.out.c1⟩)
   have HS5:=dhid (SOF.out _ _ HBd.out HI5.out)
   have HP:Hid (Bs w ((((((W5.setCell ⟨w.heap.size+1,0,none⟩ (.int .u32 (a:Int))).setCell ⟨w.heap.size+1,1,none⟩ (.int .u32 (n:Int))).setCell ⟨w.heap.size+1,2,none⟩ (.int .u8 6)).setCell ⟨w.heap.size+1,3,none⟩ (.int .u8 (op:Int))).setCell ⟨w.heap.size+1,4,none⟩ (.int .u32 (v:Int))).setCell ⟨w.heap.size+1,5,none⟩ (.int .u32 (arg:Int))).drew ⟨a,n,6,op,v,arg⟩ ⟨a,n,6,op,v,arg⟩):=dhid (by have h:=(HB5.out.put ⟨a,n,6,op,v,arg⟩).drewZ;simp only [put6] at h;exact h)
   have HIP:=dhid (((put6_any (f:=fz0) (f':=⟨a,n,6,op,v,arg⟩) HB5.out.c1).2.block _ hI (by omega)).trans HI5.out)
   have HSP:=dhid (SOF.out _ _ HP.out (by have h:=HIP.out;simp only [put6] at h;rw [heap_drewZ];exact h))
   obtain ⟨z0,z1,z2,z3,z4,z5⟩:=fz_cells HBd.out.c1
   obtain ⟨u0,u1,u2,u3,u4,u5⟩:=fz_frozen HBd.out.c1
   obtain ⟨t0,t1,t2,t3,t4,t5⟩:=fz_cells HB5.out.c1
   obtain ⟨r0,r1,r2,r3,r4,r5⟩:=fz_frozen HB5.out.c1
   generalize hdn:dBra op=okd at HDB
   go_region_held3 (fun V=>V.cell? ⟨w.heap.size,0,none⟩=some (.int .u32 (a:Int))∧V.cell? ⟨w.heap.size,1,none⟩=some (.int .u32 (n:Int))∧V.cell? ⟨w.heap.size,2,none⟩=some (.int .u8 6)∧V.cell? ⟨w.heap.size,3,none⟩=some (.int .u8 (op:Int))∧V.cell? ⟨w.heap.size,4,none⟩=some (.int .u32 (v:Int))∧V.cell? ⟨w.heap.size,5,none⟩=some (.int .u32 (arg:Int))∧V.cell? ⟨w2.heap.size,0,none⟩=some (.int .u8 (op:Int))) (first|with_reducible exact HS5.out|with_reducible exact HSP.out|with_reducible exact HS3.out|with_reducible exact HSP3.out)
     (first
       | (with_reducible refine (HDB.out W5.drew).mono ?_
          rintro en w3 ⟨rfl,hb3⟩
          have HB3:Hid (Bs w w3 ⟨a,n,6,op,v,arg⟩ fz0):=dhid (HBd.out.next hb3)
          have HI3:Hid (w3.heap[w2.heap.size]?=some (Obj.cells #[.int .u8 (op:Int),.int .u32 (arg:Int)] 37)):=dhid ((hb3.block _ hI).trans HI5.out)
          have HS3:=dhid (SOF.out _ _ HB3.out HI3.out)
          have HP3:Hid (Bs w ((((((w3.setCell ⟨w.heap.size+1,0,none⟩ (.int .u32 (a:Int))).setCell ⟨w.heap.size+1,1,none⟩ (.int .u32 (n:Int))).setCell ⟨w.heap.size+1,2,none⟩ (.int .u8 6)).setCell ⟨w.heap.size+1,3,none⟩ (.int .u8 (op:Int))).setCell ⟨w.heap.size+1,4,none⟩ (.int .u32 (v:Int))).setCell ⟨w.heap.size+1,5,none⟩ (.int .u32 (arg:Int))) ⟨a,n,6,op,v,arg⟩ ⟨a,n,6,op,v,arg⟩):=dhid (by have h:=HB3.out.put ⟨a,n,6,op,v,arg⟩;simp only [put6] at h;exact h)
          have HSP3:=dhid (SOF.out _ _ HP3.out (by have h:=((put6_any (f:=fz0) (f':=⟨a,n,6,op,v,arg⟩) HB3.out.c1).2.block _ (Array.getElem?_eq_some_iff.1 HI3.out).1 (by omega)).trans HI3.out;simp only [put6] at h;exact h))
          obtain ⟨x0,x1,x2,x3,x4,x5⟩:=fz_cells HB3.out.c1
          obtain ⟨s0,s1,s2,s3,s4,s5⟩:=fz_frozen HB3.out.c1
          clear hb3)
       | (with_reducible refine (HDB.out ((((((W5.setCell ⟨w.heap.size+1,0,none⟩ (.int .u32 (a:Int))).setCell ⟨w.heap.size+1,1,none⟩ (.int .u32 (n:Int))).setCell ⟨w.heap.size+1,2,none⟩ (.int .u8 6)).setCell ⟨w.heap.size+1,3,none⟩ (.int .u8 (op:Int))).setCell ⟨w.heap.size+1,4,none⟩ (.int .u32 (v:Int))).setCell ⟨w.heap.size+1,5,none⟩ (.int .u32 (arg:Int))).drew).mono ?_
          rintro en w3 ⟨rfl,hb3⟩
          have HB4:Hid (Bs w w3 ⟨a,n,6,op,v,arg⟩ ⟨a,n,6,op,v,arg⟩):=dhid (HP.out.next hb3)
          have HI4:Hid (w3.heap[w2.heap.size]?=some (Obj.cells #[.int .u8 (op:Int),.int .u32 (arg:Int)] 37)):=dhid (by have h:=HIP.out;simp only [put6] at h;rw [←heap_drewZ] at h;exact (hb3.block _ (Array.getElem?_eq_some_iff.1 h).1).trans h)
          have HS3:=dhid (SOF.out _ _ HB4.out HI4.out)
          clear hb3))
   all_goals first
     | (have hP:=HB4.out
        clear HSP HS5 HB5 HP HI5 HIP t0 t1 t2 t3 t4 t5 r0 r1 r2 r3 r4 r5 z0 z1 z2 z3 z4 z5 u0 u1 u2 u3 u4 u5 hlt2 HB4 HI4 HS3
        go_wp2_with fail
        exact bodyPost_ret (resFzB (p:=8) (u:=9) (by kernel_rfl) _ _ (w.heap.size+1) _ rfl hP.c1 _ rfl rfl) rfl ⟨ls_yes (ok:=okd) (v:=v) (by first|exact HO1.out rfl|exact HO1.out trivial) (by rw [←hdn];unfold dsC;simp),hP.bw⟩)
     | (generalize ((((((w3.setCell ⟨w.heap.size+1,0,none⟩ (.int .u32 (a:Int))).setCell ⟨w.heap.size+1,1,none⟩ (.int .u32 (n:Int))).setCell ⟨w.heap.size+1,2,none⟩ (.int .u8 6)).setCell ⟨w.heap.size+1,3,none⟩ (.int .u8 (op:Int))).setCell ⟨w.heap.size+1,4,none⟩ (.int .u32 (v:Int))).setCell ⟨w.heap.size+1,5,none⟩ (.int .u32 (arg:Int)))=FW at HP3 ⊢
        have hP:=HP3.out
        clear HSP HS5 HB5 HP HI5 HIP t0 t1 t2 t3 t4 t5 r0 r1 r2 r3 r4 r5 z0 z1 z2 z3 z4 z5 u0 u1 u2 u3 u4 u5 hlt2 HB3 HI3 HS3 HSP3 HP3 x0 x1 x2 x3 x4 x5 s0 s1 s2 s3 s4 s5
        go_wp2_with fail
        exact bodyPost_ret (resFzB (p:=8) (u:=9) (by kernel_rfl) _ _ (w.heap.size+1) _ rfl hP.c1 _ rfl rfl) rfl ⟨ls_yes (ok:=okd) (v:=v) (by first|exact HO1.out rfl|exact HO1.out trivial) (by rw [←hdn];unfold dsC;simp),hP.bw⟩)
 | false=>
   go_wp2_with fail
   generalize (((w2.setCell ⟨w.heap.size,4,none⟩ (.int .u32 (v:Int))).setCell ⟨w.heap.size,3,none⟩ (.int .u8 (op:Int))).setCell ⟨w.heap.size,5,none⟩ (.int .u32 (arg:Int))).alloc (Obj.cells #[.int .u8 (op:Int),.int .u32 (arg:Int)] 37)=W5 at HB5 HI5 ⊢
   clear z0 z1 z2 z3 z4 z5 u0 u1 u2 u3 u4 u5 y0 y1 hne1 hne3
   have hI:w2.heap.size<W5.heap.size:=(Array.getElem?_eq_some_iff.1 HI5.out).1
   have SOF:Hid (∀ (V:World) (r:Fz),Bs w V ⟨a,n,6,op,v,arg⟩ r→V.heap[w2.heap.size]?=some (Obj.cells #[.int .u8 (op:Int),.int .u32 (arg:Int)] 37)→V.cell? ⟨w.heap.size,0,none⟩=some (.int .u32 (a:Int))∧V.cell? ⟨w.heap.size,1,none⟩=some (.int .u32 (n:Int))∧V.cell? ⟨w.heap.size,2,none⟩=some (.int .u8 6)∧V.cell? ⟨w.heap.size,3,none⟩=some (.int .u8 (op:Int))∧V.cell? ⟨w.heap.size,4,none⟩=some (.int .u32 (v:Int))∧V.cell? ⟨w.heap.size,5,none⟩=some (.int .u32 (arg:Int))∧V.cell? ⟨w2.heap.size,0,none⟩=some (.int .u8 (op:Int))):=dhid (fun V r hB hi=>⟨(fz_cells hB.c0).1,(fz_cells hB.c0).2.1,(fz_cells hB.c0).2.2.1,(fz_cells hB.c0).2.2.2.1,(fz_cells hB.c0).2.2.2.2.1,(fz_cells hB.c0).2.2.2.2.2,obj_cell hi 0⟩)
   have HBd:=dhid (show Bs w W5.drew ⟨a,n,6,op,v,arg⟩ fz0 from ⟨⟨HB5.out.bw.os,HB5.out.bw.tape,HB5.out.bw.output,HB5.out.bw.size,HB5.out.bw.block⟩,HB5.out.c0,HB5.out.c1⟩)
   have HS5:=dhid (SOF.out _ _ HBd.out HI5.out)
   have HP:Hid (Bs w ((((((W5.setCell ⟨w.heap.size+1,0,none⟩ (.int .u32 (a:Int))).setCell ⟨w.heap.size+1,1,none⟩ (.int .u32 (n:Int))).setCell ⟨w.heap.size+1,2,none⟩ (.int .u8 6)).setCell ⟨w.heap.size+1,3,none⟩ (.int .u8 (op:Int))).setCell ⟨w.heap.size+1,4,none⟩ (.int .u32 (v:Int))).setCell ⟨w.heap.size+1,5,none⟩ (.int .u32 (arg:Int))).drew ⟨a,n,6,op,v,arg⟩ ⟨a,n,6,op,v,arg⟩):=dhid (by have h:=(HB5.out.put ⟨a,n,6,op,v,arg⟩).drewZ;simp only [put6] at h;exact h)
   have HIP:=dhid (((put6_any (f:=fz0) (f':=⟨a,n,6,op,v,arg⟩) HB5.out.c1).2.block _ hI (by omega)).trans HI5.out)
   have HSP:=dhid (SOF.out _ _ HP.out (by have h:=HIP.out;simp only [put6] at h;rw [heap_drewZ];exact h))
   obtain ⟨z0,z1,z2,z3,z4,z5⟩:=fz_cells HBd.out.c1
   obtain ⟨u0,u1,u2,u3,u4,u5⟩:=fz_frozen HBd.out.c1
   obtain ⟨t0,t1,t2,t3,t4,t5⟩:=fz_cells HB5.out.c1
   obtain ⟨r0,r1,r2,r3,r4,r5⟩:=fz_frozen HB5.out.c1
   obtain ⟨a1,a2,a3,a4,a5,a6,a7⟩:=SOF.out _ _ HB5.out HI5.out
   clear SOF HBd HS5 HSP HIP z0 z1 z2 z3 z4 z5 u0 u1 u2 u3 u4 u5 hlt2 HB HO1
   go_region
   all_goals (generalize ((((((W5.setCell ⟨w.heap.size+1,0,none⟩ (.int .u32 (a:Int))).setCell ⟨w.heap.size+1,1,none⟩ (.int .u32 (n:Int))).setCell ⟨w.heap.size+1,2,none⟩ (.int .u8 6)).setCell ⟨w.heap.size+1,3,none⟩ (.int .u8 (op:Int))).setCell ⟨w.heap.size+1,4,none⟩ (.int .u32 (v:Int))).setCell ⟨w.heap.size+1,5,none⟩ (.int .u32 (arg:Int))).drew=FW at HP ⊢)
   all_goals (have hP:=HP.out)
   all_goals (clear HP HB5 HI5 t0 t1 t2 t3 t4 t5 r0 r1 r2 r3 r4 r5 a1 a2 a3 a4 a5 a6 a7)
   all_goals go_wp2_with fail
   all_goals exact bodyPost_ret (resFzB (p:=8) (u:=9) (by kernel_rfl) _ _ (w.heap.size+1) _ rfl hP.c1 _ rfl rfl) rfl ⟨ls_no (by first|exact HO0.out rfl|exact HO0.out trivial),hP.bw⟩
theorem dlast7_any (ao:Option Addr) (cap a e n:Nat) (L:List (Nat × Nat)) (w:World) (hL:L.length≤140737488355328) (hae:a+2≤e) (he:e≤L.length) (he32:e<4294967296) (hwf:Wfc L) (hr:CRd w ao L w.heap.size) :
   Calls Tryz.prog 45 #[.slice ao L.length cap,.int .i64 (a:Int),.int .i64 (e:Int),.agg (fzA ⟨a,n,7,0,0,0⟩)] w fun x w'=>LsP a n 7 (cnO ((L.drop a).take (e-1-a))) (L.getD (e-1) (0,0)) x∧Below w.heap.size w w':=by
 have HCN:=dhid (fun W (hW:Below w.heap.size w W)=>dcon_any ao cap a (e-1) L W hL (by omega) (by omega) (by omega) hwf ((hr.below hW).mono hW.size))
 obtain ⟨b,off,rfl,hbl,hc⟩:=hr (by omega)
 have hlt:e-1<L.length:=by omega
 have X0:=dhid (fun (W:World) (hW:Below w.heap.size w W)=>(hW.cell (p:=⟨b,off+(e-1)*2,none⟩) hbl).trans (hc (e-1) hlt).1)
 have X1:=dhid (fun (W:World) (hW:Below w.heap.size w W)=>(hW.cell (p:=⟨b,off+(e-1)*2+1,none⟩) hbl).trans (hc (e-1) hlt).2)
 have hop:=(hwf.at hlt).1
 generalize L.getD (e-1) (0,0)=q at X0 X1 hop ⊢
 obtain ⟨op,arg⟩:=q
 simp only at X0 X1 hop
 have hsub:(e:Int)-1=((e-1:Nat):Int):=by omega
 have hltI:((e-1:Nat):Int)<(L.length:Int):=by omega
 have hwm:wrap64 ((e-1:Nat):Int)=((e-1:Nat):Int):=by unfold wrap64;omega
 generalize e-1=m at *
 clear hc hwf hae he he32 hL
 go_enter Tryz.func45,Tryz.ntmps45
 go_wp2_with fail
 refine (HCN.out _ (zbel2 w _ _)).mono ?_
 rintro en w2 ⟨⟨v,okc,rfl,hO⟩,hb2⟩
 have HO1:Hid (okc=true→cnO (List.take (m-a) (List.drop a L))=some v):=dhid (fun h=>by rw [hO,if_pos h])
 have HO0:Hid (okc=false→cnO (List.take (m-a) (List.drop a L))=none):=dhid (fun h=>by rw [hO,if_neg (by rw [h];decide)])
 have HB:=dhid ((Bs.new w ⟨a,n,7,0,0,0⟩ fz0).next hb2)
 have y0:=X0.out w2 HB.out.bw
 have y1:=X1.out w2 HB.out.bw
 have hlt2:w.heap.size+1<w2.heap.size:=HB.out.lt
 have hne1:w2.heap.size≠w.heap.size:=by omega
 have hne3:w.heap.size<w2.heap.size:=by omega
 obtain ⟨z0,z1,z2,z3,z4,z5⟩:=fz_cells HB.out.c0
 obtain ⟨u0,u1,u2,u3,u4,u5⟩:=fz_frozen HB.out.c0
 simp only at z0 z1 z2 z3 z4 z5
 have HB5:Hid (Bs w (((((w2.setCell ⟨w.heap.size,4,none⟩ (.int .u32 (v:Int))).setCell ⟨w.heap.size,3,none⟩ (.int .u8 (op:Int))).setCell ⟨w.heap.size,5,none⟩ (.int .u32 (arg:Int))).setCell ⟨w.heap.size,3,none⟩ (.int .u8 0)).alloc (Obj.cells #[.int .u8 (op:Int),.int .u32 (arg:Int)] 37)) ⟨a,n,7,0,v,arg⟩ fz0):=dhid (((((HB.out.seta v).setop op).setb arg).setop 0).next (bel1 _ _))
 have HI5:Hid ((((((w2.setCell ⟨w.heap.size,4,none⟩ (.int .u32 (v:Int))).setCell ⟨w.heap.size,3,none⟩ (.int .u8 (op:Int))).setCell ⟨w.heap.size,5,none⟩ (.int .u32 (arg:Int))).setCell ⟨w.heap.size,3,none⟩ (.int .u8 0)).alloc (Obj.cells #[.int .u8 (op:Int),.int .u32 (arg:Int)] 37)).heap[w2.heap.size]?=some (Obj.cells #[.int .u8 (op:Int),.int .u32 (arg:Int)] 37)):=dhid (by have hsz:((((w2.setCell ⟨w.heap.size,4,none⟩ (.int .u32 (v:Int))).setCell ⟨w.heap.size,3,none⟩ (.int .u8 (op:Int))).setCell ⟨w.heap.size,5,none⟩ (.int .u32 (arg:Int))).setCell ⟨w.heap.size,3,none⟩ (.int .u8 0)).heap.size=w2.heap.size:=(by simp only [World.size_setCell]);rw [←hsz];exact heap_alloc_new _ _)
 clear hO hb2 HCN X0 X1 hbl hr
 cases okc with
 | true=>
   go_wp2_with fail
   generalize ((((w2.setCell ⟨w.heap.size,4,none⟩ (.int .u32 (v:Int))).setCell ⟨w.heap.size,3,none⟩ (.int .u8 (op:Int))).setCell ⟨w.heap.size,5,none⟩ (.int .u32 (arg:Int))).setCell ⟨w.heap.size,3,none⟩ (.int .u8 0)).alloc (Obj.cells #[.int .u8 (op:Int),.int .u32 (arg:Int)] 37)=W5 at HB5 HI5 ⊢
   clear z0 z1 z2 z3 z4 z5 u0 u1 u2 u3 u4 u5 y0 y1 hne1 hne3
   have hI:w2.heap.size<W5.heap.size:=(Array.getElem?_eq_some_iff.1 HI5.out).1
   have SOF:Hid (∀ (V:World) (r:Fz),Bs w V ⟨a,n,7,0,v,arg⟩ r→V.heap[w2.heap.size]?=some (Obj.cells #[.int .u8 (op:Int),.int .u32 (arg:Int)] 37)→V.cell? ⟨w.heap.size,0,none⟩=some (.int .u32 (a:Int))∧V.cell? ⟨w.heap.size,1,none⟩=some (.int .u32 (n:Int))∧V.cell? ⟨w.heap.size,2,none⟩=some (.int .u8 7)∧V.cell? ⟨w.heap.size,3,none⟩=some (.int .u8 0)∧V.cell? ⟨w.heap.size,4,none⟩=some (.int .u32 (v:Int))∧V.cell? ⟨w.heap.size,5,none⟩=some (.int .u32 (arg:Int))∧V.cell? ⟨w2.heap.size,0,none⟩=some (.int .u8 (op:Int))):=dhid (fun V r hB hi=>⟨(fz_cells hB.c0).1,(fz_cells hB.c0).2.1,(fz_cells hB.c0).2.2.1,(fz_cells hB.c0).2.2.2.1,(fz_cells hB.c0).2.2.2.2.1,(fz_cells hB.c0).2.2.2.2.2,obj_cell hi 0⟩)
   have HBd:=dhid (show Bs w W5.drew ⟨a,n,7,0,v,arg⟩ fz0 from ⟨⟨HB5.out.bw.os,HB5.out.bw.tape,HB5.out.bw.output,HB5.out.bw.size,HB5.out.bw.block⟩,HB5.out.c0,HB5.out.c1⟩)
   have HS5:=dhid (SOF.out _ _ HBd.out HI5.out)
   have HP:Hid (Bs w ((((((W5.setCell ⟨w.heap.size+1,0,none⟩ (.int .u32 (a:Int))).setCell ⟨w.heap.size+1,1,none⟩ (.int .u32 (n:Int))).setCell ⟨w.heap.size+1,2,none⟩ (.int .u8 7)).setCell ⟨w.heap.size+1,3,none⟩ (.int .u8 0)).setCell ⟨w.heap.size+1,4,none⟩ (.int .u32 (v:Int))).setCell ⟨w.heap.size+1,5,none⟩ (.int .u32 (arg:Int))).drew ⟨a,n,7,0,v,arg⟩ ⟨a,n,7,0,v,arg⟩):=dhid (by have h:=(HB5.out.put ⟨a,n,7,0,v,arg⟩).drewZ;simp only [put6] at h;exact h)
   have HIP:=dhid (((put6_any (f:=fz0) (f':=⟨a,n,7,0,v,arg⟩) HB5.out.c1).2.block _ hI (by omega)).trans HI5.out)
   have HSP:=dhid (SOF.out _ _ HP.out (by have h:=HIP.out;simp only [put6] at h;rw [heap_drewZ];exact h))
   obtain ⟨z0,z1,z2,z3,z4,z5⟩:=fz_cells HBd.out.c1
   obtain ⟨u0,u1,u2,u3,u4,u5⟩:=fz_frozen HBd.out.c1
   obtain ⟨t0,t1,t2,t3,t4,t5⟩:=fz_cells HB5.out.c1
   obtain ⟨r0,r1,r2,r3,r4,r5⟩:=fz_frozen HB5.out.c1
   clear SOF HBd
   first
     |go_region_held3 (fun V=>V.cell? ⟨w.heap.size,0,none⟩=some (.int .u32 (a:Int))∧V.cell? ⟨w.heap.size,1,none⟩=some (.int .u32 (n:Int))∧V.cell? ⟨w.heap.size,2,none⟩=some (.int .u8 7)∧V.cell? ⟨w.heap.size,3,none⟩=some (.int .u8 0)∧V.cell? ⟨w.heap.size,4,none⟩=some (.int .u32 (v:Int))∧V.cell? ⟨w.heap.size,5,none⟩=some (.int .u32 (arg:Int))∧V.cell? ⟨w2.heap.size,0,none⟩=some (.int .u8 (op:Int))) (first|with_reducible exact HS5.out|with_reducible exact HSP.out) (first|fail)
     |fail
   generalize ((((((W5.setCell ⟨w.heap.size+1,0,none⟩ (.int .u32 (a:Int))).setCell ⟨w.heap.size+1,1,none⟩ (.int .u32 (n:Int))).setCell ⟨w.heap.size+1,2,none⟩ (.int .u8 7)).setCell ⟨w.heap.size+1,3,none⟩ (.int .u8 0)).setCell ⟨w.heap.size+1,4,none⟩ (.int .u32 (v:Int))).setCell ⟨w.heap.size+1,5,none⟩ (.int .u32 (arg:Int))).drew=FW at HP ⊢
   have hP:=HP.out
   clear HSP HS5 HB5 HP HI5 HIP t0 t1 t2 t3 t4 t5 r0 r1 r2 r3 r4 r5 z0 z1 z2 z3 z4 z5 u0 u1 u2 u3 u4 u5 hlt2
   go_wp2_with fail
   exact bodyPost_ret (resFzB (p:=8) (u:=9) (by kernel_rfl) _ _ (w.heap.size+1) _ rfl hP.c1 _ rfl rfl) rfl ⟨ls_yes (ok:=((op:Int) == 12)) (v:=v) (by first|exact HO1.out rfl|exact HO1.out trivial) (by rw [show ((op:Int) == 12)=decide (op=12) from beqN op 12];unfold dsC;by_cases h:op=12 <;> simp [h]),hP.bw⟩
 | false=>
   go_wp2_with fail
   generalize ((((w2.setCell ⟨w.heap.size,4,none⟩ (.int .u32 (v:Int))).setCell ⟨w.heap.size,3,none⟩ (.int .u8 (op:Int))).setCell ⟨w.heap.size,5,none⟩ (.int .u32 (arg:Int))).setCell ⟨w.heap.size,3,none⟩ (.int .u8 0)).alloc (Obj.cells #[.int .u8 (op:Int),.int .u32 (arg:Int)] 37)=W5 at HB5 HI5 ⊢
   clear z0 z1 z2 z3 z4 z5 u0 u1 u2 u3 u4 u5 y0 y1 hne1 hne3
   have hI:w2.heap.size<W5.heap.size:=(Array.getElem?_eq_some_iff.1 HI5.out).1
   have SOF:Hid (∀ (V:World) (r:Fz),Bs w V ⟨a,n,7,0,v,arg⟩ r→V.heap[w2.heap.size]?=some (Obj.cells #[.int .u8 (op:Int),.int .u32 (arg:Int)] 37)→V.cell? ⟨w.heap.size,0,none⟩=some (.int .u32 (a:Int))∧V.cell? ⟨w.heap.size,1,none⟩=some (.int .u32 (n:Int))∧V.cell? ⟨w.heap.size,2,none⟩=some (.int .u8 7)∧V.cell? ⟨w.heap.size,3,none⟩=some (.int .u8 0)∧V.cell? ⟨w.heap.size,4,none⟩=some (.int .u32 (v:Int))∧V.cell? ⟨w.heap.size,5,none⟩=some (.int .u32 (arg:Int))∧V.cell? ⟨w2.heap.size,0,none⟩=some (.int .u8 (op:Int))):=dhid (fun V r hB hi=>⟨(fz_cells hB.c0).1,(fz_cells hB.c0).2.1,(fz_cells hB.c0).2.2.1,(fz_cells hB.c0).2.2.2.1,(fz_cells hB.c0).2.2.2.2.1,(fz_cells hB.c0).2.2.2.2.2,obj_cell hi 0⟩)
   have HBd:=dhid (show Bs w W5.drew ⟨a,n,7,0,v,arg⟩ fz0 from ⟨⟨HB5.out.bw.os,HB5.out.bw.tape,HB5.out.bw.output,HB5.out.bw.size,HB5.out.bw.block⟩,HB5.out.c0,HB5.out.c1⟩)
   have HS5:=dhid (SOF.out _ _ HBd.out HI5.out)
   have HP:Hid (Bs w ((((((W5.setCell ⟨w.heap.size+1,0,none⟩ (.int .u32 (a:Int))).setCell ⟨w.heap.size+1,1,none⟩ (.int .u32 (n:Int))).setCell ⟨w.heap.size+1,2,none⟩ (.int .u8 7)).setCell ⟨w.heap.size+1,3,none⟩ (.int .u8 0)).setCell ⟨w.heap.size+1,4,none⟩ (.int .u32 (v:Int))).setCell ⟨w.heap.size+1,5,none⟩ (.int .u32 (arg:Int))).drew ⟨a,n,7,0,v,arg⟩ ⟨a,n,7,0,v,arg⟩):=dhid (by have h:=(HB5.out.put ⟨a,n,7,0,v,arg⟩).drewZ;simp only [put6] at h;exact h)
   have HIP:=dhid (((put6_any (f:=fz0) (f':=⟨a,n,7,0,v,arg⟩) HB5.out.c1).2.block _ hI (by omega)).trans HI5.out)
   have HSP:=dhid (SOF.out _ _ HP.out (by have h:=HIP.out;simp only [put6] at h;rw [heap_drewZ];exact h))
   obtain ⟨z0,z1,z2,z3,z4,z5⟩:=fz_cells HBd.out.c1
   obtain ⟨u0,u1,u2,u3,u4,u5⟩:=fz_frozen HBd.out.c1
   obtain ⟨t0,t1,t2,t3,t4,t5⟩:=fz_cells HB5.out.c1
   obtain ⟨r0,r1,r2,r3,r4,r5⟩:=fz_frozen HB5.out.c1
   obtain ⟨a1,a2,a3,a4,a5,a6,a7⟩:=SOF.out _ _ HB5.out HI5.out
   clear SOF HBd HS5 HSP HIP z0 z1 z2 z3 z4 z5 u0 u1 u2 u3 u4 u5 hlt2 HB HO1
   go_region
   all_goals (generalize ((((((W5.setCell ⟨w.heap.size+1,0,none⟩ (.int .u32 (a:Int))).setCell ⟨w.heap.size+1,1,none⟩ (.int .u32 (n:Int))).setCell ⟨w.heap.size+1,2,none⟩ (.int .u8 7)).setCell ⟨w.heap.size+1,3,none⟩ (.int .u8 0)).setCell ⟨w.heap.size+1,4,none⟩ (.int .u32 (v:Int))).setCell ⟨w.heap.size+1,5,none⟩ (.int .u32 (arg:Int))).drew=FW at HP ⊢)
   all_goals (have hP:=HP.out)
   all_goals (clear HP HB5 HI5 t0 t1 t2 t3 t4 t5 r0 r1 r2 r3 r4 r5 a1 a2 a3 a4 a5 a6 a7)
   all_goals go_wp2_with fail
   all_goals exact bodyPost_ret (resFzB (p:=8) (u:=9) (by kernel_rfl) _ _ (w.heap.size+1) _ rfl hP.c1 _ rfl rfl) rfl ⟨ls_no (by first|exact HO0.out rfl|exact HO0.out trivial),hP.bw⟩
theorem dlast8_any (ao:Option Addr) (cap a e n:Nat) (L:List (Nat × Nat)) (w:World) (hL:L.length≤140737488355328) (hae:a+2≤e) (he:e≤L.length) (he32:e<4294967296) (hwf:Wfc L) (hr:CRd w ao L w.heap.size) :
   Calls Tryz.prog 45 #[.slice ao L.length cap,.int .i64 (a:Int),.int .i64 (e:Int),.agg (fzA ⟨a,n,8,0,0,0⟩)] w fun x w'=>LsP a n 8 (cnO ((L.drop a).take (e-1-a))) (L.getD (e-1) (0,0)) x∧Below w.heap.size w w':=by
 have HCN:=dhid (fun W (hW:Below w.heap.size w W)=>dcon_any ao cap a (e-1) L W hL (by omega) (by omega) (by omega) hwf ((hr.below hW).mono hW.size))
 obtain ⟨b,off,rfl,hbl,hc⟩:=hr (by omega)
 have hlt:e-1<L.length:=by omega
 have X0:=dhid (fun (W:World) (hW:Below w.heap.size w W)=>(hW.cell (p:=⟨b,off+(e-1)*2,none⟩) hbl).trans (hc (e-1) hlt).1)
 have X1:=dhid (fun (W:World) (hW:Below w.heap.size w W)=>(hW.cell (p:=⟨b,off+(e-1)*2+1,none⟩) hbl).trans (hc (e-1) hlt).2)
 have hop:=(hwf.at hlt).1
 generalize L.getD (e-1) (0,0)=q at X0 X1 hop ⊢
 obtain ⟨op,arg⟩:=q
 simp only at X0 X1 hop
 have hsub:(e:Int)-1=((e-1:Nat):Int):=by omega
 have hltI:((e-1:Nat):Int)<(L.length:Int):=by omega
 have hwm:wrap64 ((e-1:Nat):Int)=((e-1:Nat):Int):=by unfold wrap64;omega
 generalize e-1=m at *
 clear hc hwf hae he he32 hL
 go_enter Tryz.func45,Tryz.ntmps45
 go_wp2_with fail
 refine (HCN.out _ (zbel2 w _ _)).mono ?_
 rintro en w2 ⟨⟨v,okc,rfl,hO⟩,hb2⟩
 have HO1:Hid (okc=true→cnO (List.take (m-a) (List.drop a L))=some v):=dhid (fun h=>by rw [hO,if_pos h])
 have HO0:Hid (okc=false→cnO (List.take (m-a) (List.drop a L))=none):=dhid (fun h=>by rw [hO,if_neg (by rw [h];decide)])
 have HB:=dhid ((Bs.new w ⟨a,n,8,0,0,0⟩ fz0).next hb2)
 have y0:=X0.out w2 HB.out.bw
 have y1:=X1.out w2 HB.out.bw
 have hlt2:w.heap.size+1<w2.heap.size:=HB.out.lt
 have hne1:w2.heap.size≠w.heap.size:=by omega
 have hne3:w.heap.size<w2.heap.size:=by omega
 obtain ⟨z0,z1,z2,z3,z4,z5⟩:=fz_cells HB.out.c0
 obtain ⟨u0,u1,u2,u3,u4,u5⟩:=fz_frozen HB.out.c0
 simp only at z0 z1 z2 z3 z4 z5
 have HB5:Hid (Bs w ((((w2.setCell ⟨w.heap.size,4,none⟩ (.int .u32 (v:Int))).setCell ⟨w.heap.size,3,none⟩ (.int .u8 (op:Int))).setCell ⟨w.heap.size,3,none⟩ (.int .u8 0)).alloc (Obj.cells #[.int .u8 (op:Int),.int .u32 (arg:Int)] 37)) ⟨a,n,8,0,v,0⟩ fz0):=dhid ((((HB.out.seta v).setop op).setop 0).next (bel1 _ _))
 have HI5:Hid (((((w2.setCell ⟨w.heap.size,4,none⟩ (.int .u32 (v:Int))).setCell ⟨w.heap.size,3,none⟩ (.int .u8 (op:Int))).setCell ⟨w.heap.size,3,none⟩ (.int .u8 0)).alloc (Obj.cells #[.int .u8 (op:Int),.int .u32 (arg:Int)] 37)).heap[w2.heap.size]?=some (Obj.cells #[.int .u8 (op:Int),.int .u32 (arg:Int)] 37)):=dhid (by have hsz:(((w2.setCell ⟨w.heap.size,4,none⟩ (.int .u32 (v:Int))).setCell ⟨w.heap.size,3,none⟩ (.int .u8 (op:Int))).setCell ⟨w.heap.size,3,none⟩ (.int .u8 0)).heap.size=w2.heap.size:=(by simp only [World.size_setCell]);rw [←hsz];exact heap_alloc_new _ _)
 clear hO hb2 HCN X0 X1 hbl hr
 cases okc with
 | true=>
   go_wp2_with fail
   generalize (((w2.setCell ⟨w.heap.size,4,none⟩ (.int .u32 (v:Int))).setCell ⟨w.heap.size,3,none⟩ (.int .u8 (op:Int))).setCell ⟨w.heap.size,3,none⟩ (.int .u8 0)).alloc (Obj.cells #[.int .u8 (op:Int),.int .u32 (arg:Int)] 37)=W5 at HB5 HI5 ⊢
   clear z0 z1 z2 z3 z4 z5 u0 u1 u2 u3 u4 u5 y0 y1 hne1 hne3
   have hI:w2.heap.size<W5.heap.size:=(Array.getElem?_eq_some_iff.1 HI5.out).1
   have SOF:Hid (∀ (V:World) (r:Fz),Bs w V ⟨a,n,8,0,v,0⟩ r→V.heap[w2.heap.size]?=some (Obj.cells #[.int .u8 (op:Int),.int .u32 (arg:Int)] 37)→V.cell? ⟨w.heap.size,0,none⟩=some (.int .u32 (a:Int))∧V.cell? ⟨w.heap.size,1,none⟩=some (.int .u32 (n:Int))∧V.cell? ⟨w.heap.size,2,none⟩=some (.int .u8 8)∧V.cell? ⟨w.heap.size,3,none⟩=some (.int .u8 0)∧V.cell? ⟨w.heap.size,4,none⟩=some (.int .u32 (v:Int))∧V.cell? ⟨w.heap.size,5,none⟩=some (.int .u32 0)∧V.cell? ⟨w2.heap.size,0,none⟩=some (.int .u8 (op:Int))):=dhid (fun V r hB hi=>⟨(fz_cells hB.c0).1,(fz_cells hB.c0).2.1,(fz_cells hB.c0).2.2.1,(fz_cells hB.c0).2.2.2.1,(fz_cells hB.c0).2.2.2.2.1,(fz_cells hB.c0).2.2.2.2.2,obj_cell hi 0⟩)
   have HBd:=dhid (show Bs w W5.drew ⟨a,n,8,0,v,0⟩ fz0 from ⟨⟨HB5.out.bw.os,HB5.out.bw.tape,HB5.out.bw.output,HB5.out.bw.size,HB5.out.bw.block⟩,HB5.out.c0,HB5.out.c1⟩)
   have HS5:=dhid (SOF.out _ _ HBd.out HI5.out)
   have HP:Hid (Bs w ((((((W5.setCell ⟨w.heap.size+1,0,none⟩ (.int .u32 (a:Int))).setCell ⟨w.heap.size+1,1,none⟩ (.int .u32 (n:Int))).setCell ⟨w.heap.size+1,2,none⟩ (.int .u8 8)).setCell ⟨w.heap.size+1,3,none⟩ (.int .u8 0)).setCell ⟨w.heap.size+1,4,none⟩ (.int .u32 (v:Int))).setCell ⟨w.heap.size+1,5,none⟩ (.int .u32 0)).drew ⟨a,n,8,0,v,0⟩ ⟨a,n,8,0,v,0⟩):=dhid (by have h:=(HB5.out.put ⟨a,n,8,0,v,0⟩).drewZ;simp only [put6] at h;exact h)
   have HIP:=dhid (((put6_any (f:=fz0) (f':=⟨a,n,8,0,v,0⟩) HB5.out.c1).2.block _ hI (by omega)).trans HI5.out)
   have HSP:=dhid (SOF.out _ _ HP.out (by have h:=HIP.out;simp only [put6] at h;rw [heap_drewZ];exact h))
   obtain ⟨z0,z1,z2,z3,z4,z5⟩:=fz_cells HBd.out.c1
   obtain ⟨u0,u1,u2,u3,u4,u5⟩:=fz_frozen HBd.out.c1
   obtain ⟨t0,t1,t2,t3,t4,t5⟩:=fz_cells HB5.out.c1
   obtain ⟨r0,r1,r2,r3,r4,r5⟩:=fz_frozen HB5.out.c1
   clear SOF HBd
   first
     |go_region_held3 (fun V=>V.cell? ⟨w.heap.size,0,none⟩=some (.int .u32 (a:Int))∧V.cell? ⟨w.heap.size,1,none⟩=some (.int .u32 (n:Int))∧V.cell? ⟨w.heap.size,2,none⟩=some (.int .u8 8)∧V.cell? ⟨w.heap.size,3,none⟩=some (.int .u8 0)∧V.cell? ⟨w.heap.size,4,none⟩=some (.int .u32 (v:Int))∧V.cell? ⟨w.heap.size,5,none⟩=some (.int .u32 0)∧V.cell? ⟨w2.heap.size,0,none⟩=some (.int .u8 (op:Int))) (first|with_reducible exact HS5.out|with_reducible exact HSP.out) (first|fail)
     |fail
   generalize ((((((W5.setCell ⟨w.heap.size+1,0,none⟩ (.int .u32 (a:Int))).setCell ⟨w.heap.size+1,1,none⟩ (.int .u32 (n:Int))).setCell ⟨w.heap.size+1,2,none⟩ (.int .u8 8)).setCell ⟨w.heap.size+1,3,none⟩ (.int .u8 0)).setCell ⟨w.heap.size+1,4,none⟩ (.int .u32 (v:Int))).setCell ⟨w.heap.size+1,5,none⟩ (.int .u32 0)).drew=FW at HP ⊢
   have hP:=HP.out
   clear HSP HS5 HB5 HP HI5 HIP t0 t1 t2 t3 t4 t5 r0 r1 r2 r3 r4 r5 z0 z1 z2 z3 z4 z5 u0 u1 u2 u3 u4 u5 hlt2
   go_wp2_with fail
   exact bodyPost_ret (resFzB (p:=8) (u:=9) (by kernel_rfl) _ _ (w.heap.size+1) _ rfl hP.c1 _ rfl rfl) rfl ⟨ls_yes (ok:=((op:Int) == 5)) (v:=v) (by first|exact HO1.out rfl|exact HO1.out trivial) (by rw [show ((op:Int) == 5)=decide (op=5) from beqN op 5];unfold dsC;by_cases h:op=5 <;> simp [h]),hP.bw⟩
 | false=>
   go_wp2_with fail
   generalize (((w2.setCell ⟨w.heap.size,4,none⟩ (.int .u32 (v:Int))).setCell ⟨w.heap.size,3,none⟩ (.int .u8 (op:Int))).setCell ⟨w.heap.size,3,none⟩ (.int .u8 0)).alloc (Obj.cells #[.int .u8 (op:Int),.int .u32 (arg:Int)] 37)=W5 at HB5 HI5 ⊢
   clear z0 z1 z2 z3 z4 z5 u0 u1 u2 u3 u4 u5 y0 y1 hne1 hne3
   have hI:w2.heap.size<W5.heap.size:=(Array.getElem?_eq_some_iff.1 HI5.out).1
   have SOF:Hid (∀ (V:World) (r:Fz),Bs w V ⟨a,n,8,0,v,0⟩ r→V.heap[w2.heap.size]?=some (Obj.cells #[.int .u8 (op:Int),.int .u32 (arg:Int)] 37)→V.cell? ⟨w.heap.size,0,none⟩=some (.int .u32 (a:Int))∧V.cell? ⟨w.heap.size,1,none⟩=some (.int .u32 (n:Int))∧V.cell? ⟨w.heap.size,2,none⟩=some (.int .u8 8)∧V.cell? ⟨w.heap.size,3,none⟩=some (.int .u8 0)∧V.cell? ⟨w.heap.size,4,none⟩=some (.int .u32 (v:Int))∧V.cell? ⟨w.heap.size,5,none⟩=some (.int .u32 0)∧V.cell? ⟨w2.heap.size,0,none⟩=some (.int .u8 (op:Int))):=dhid (fun V r hB hi=>⟨(fz_cells hB.c0).1,(fz_cells hB.c0).2.1,(fz_cells hB.c0).2.2.1,(fz_cells hB.c0).2.2.2.1,(fz_cells hB.c0).2.2.2.2.1,(fz_cells hB.c0).2.2.2.2.2,obj_cell hi 0⟩)
   have HBd:=dhid (show Bs w W5.drew ⟨a,n,8,0,v,0⟩ fz0 from ⟨⟨HB5.out.bw.os,HB5.out.bw.tape,HB5.out.bw.output,HB5.out.bw.size,HB5.out.bw.block⟩,HB5.out.c0,HB5.out.c1⟩)
   have HS5:=dhid (SOF.out _ _ HBd.out HI5.out)
   have HP:Hid (Bs w ((((((W5.setCell ⟨w.heap.size+1,0,none⟩ (.int .u32 (a:Int))).setCell ⟨w.heap.size+1,1,none⟩ (.int .u32 (n:Int))).setCell ⟨w.heap.size+1,2,none⟩ (.int .u8 8)).setCell ⟨w.heap.size+1,3,none⟩ (.int .u8 0)).setCell ⟨w.heap.size+1,4,none⟩ (.int .u32 (v:Int))).setCell ⟨w.heap.size+1,5,none⟩ (.int .u32 0)).drew ⟨a,n,8,0,v,0⟩ ⟨a,n,8,0,v,0⟩):=dhid (by have h:=(HB5.out.put ⟨a,n,8,0,v,0⟩).drewZ;simp only [put6] at h;exact h)
   have HIP:=dhid (((put6_any (f:=fz0) (f':=⟨a,n,8,0,v,0⟩) HB5.out.c1).2.block _ hI (by omega)).trans HI5.out)
   have HSP:=dhid (SOF.out _ _ HP.out (by have h:=HIP.out;simp only [put6] at h;rw [heap_drewZ];exact h))
   obtain ⟨z0,z1,z2,z3,z4,z5⟩:=fz_cells HBd.out.c1
   obtain ⟨u0,u1,u2,u3,u4,u5⟩:=fz_frozen HBd.out.c1
   obtain ⟨t0,t1,t2,t3,t4,t5⟩:=fz_cells HB5.out.c1
   obtain ⟨r0,r1,r2,r3,r4,r5⟩:=fz_frozen HB5.out.c1
   obtain ⟨a1,a2,a3,a4,a5,a6,a7⟩:=SOF.out _ _ HB5.out HI5.out
   clear SOF HBd HS5 HSP HIP z0 z1 z2 z3 z4 z5 u0 u1 u2 u3 u4 u5 hlt2 HB HO1
   go_region
   all_goals (generalize ((((((W5.setCell ⟨w.heap.size+1,0,none⟩ (.int .u32 (a:Int))).setCell ⟨w.heap.size+1,1,none⟩ (.int .u32 (n:Int))).setCell ⟨w.heap.size+1,2,none⟩ (.int .u8 8)).setCell ⟨w.heap.size+1,3,none⟩ (.int .u8 0)).setCell ⟨w.heap.size+1,4,none⟩ (.int .u32 (v:Int))).setCell ⟨w.heap.size+1,5,none⟩ (.int .u32 0)).drew=FW at HP ⊢)
   all_goals (have hP:=HP.out)
   all_goals (clear HP HB5 HI5 t0 t1 t2 t3 t4 t5 r0 r1 r2 r3 r4 r5 a1 a2 a3 a4 a5 a6 a7)
   all_goals go_wp2_with fail
   all_goals exact bodyPost_ret (resFzB (p:=8) (u:=9) (by kernel_rfl) _ _ (w.heap.size+1) _ rfl hP.c1 _ rfl rfl) rfl ⟨ls_no (by first|exact HO0.out rfl|exact HO0.out trivial),hP.bw⟩
end Go.Proofs.YtibhlcfligfhdaaGreat
