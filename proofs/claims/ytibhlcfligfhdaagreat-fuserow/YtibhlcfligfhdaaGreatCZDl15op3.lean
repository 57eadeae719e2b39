import Derived.Test.YtibhlcfligfhdaaGreatCZDi9
namespace Go.Proofs.YtibhlcfligfhdaaGreat
open Go.RowKit Go.WideShapes Go.Shelf
set_option maxRecDepth 100000
set_option maxHeartbeats 8000000 in
theorem dloc15op3_any (ao:Option Addr) (cap a e:Nat) (L:List (Nat × Nat)) (w:World) (hL:L.length≤140737488355328) (hae:a<e) (he:e≤L.length) (_he32:e<4294967296) (hwf:Wfc L) (hr:CRd w ao L w.heap.size) (h9:(L.getD a (0,0)).1=9) (hn:¬ e<a+6) (hx:L.getD (a+1) (0,0)=L.getD a (0,0)) (h2:(L.getD (a+2) (0,0)).1=31) (h3:(L.getD (e-1) (0,0)).1=34) (hd:divB (L.getD (e-2) (0,0)).1=false) :
   Calls Tryz.prog 46 #[.slice ao L.length cap,.int .i64 (a:Int),.int .i64 (e:Int),.agg (fzA ⟨a,e-a,15,0,0,0⟩)] w fun x w'=>LcP L a e 15 x∧Below w.heap.size w w':=by
 obtain ⟨b,off,rfl,hbl,hc,x0,x1,y0,y1,haL,hmL,hsub,hsubn,hwm,hwn,hwm2,hwn2,hb1,hb2,hbn,hop⟩:=lc_facts hL hae he hwf hr
 have HC:=dhid (fun W (hW:Below w.heap.size w W)=>dcon_any (some ⟨b,off,none⟩) cap (a+3) (e-2) L W hL (by omega) (by omega) (by omega) hwf ((hr.below hW).mono hW.size))
 have HYN:Hid (∀ f,(cnO ((L.drop (a+3)).take (e-2-(a+3)))=none∨dBin (L.getD (e-2) (0,0)).1=false∨divB (L.getD (e-2) (0,0)).1=true)→LcP L a e 15 (.returned (.tuple #[.agg (fzA f),.bool false]))):=dhid (fun f h=>lc15_no h)
 have HYY:Hid (∀ v,cnO ((L.drop (a+3)).take (e-2-(a+3)))=some v→dBin (L.getD (e-2) (0,0)).1=true→divB (L.getD (e-2) (0,0)).1=false→LcP L a e 15 (.returned (.tuple #[.agg (fzA ⟨a,e-a,15,(L.getD (e-2) (0,0)).1,(L.getD a (0,0)).2,v⟩),.bool true]))):=dhid (fun v h4 h5 h6=>lc15_yes (by omega) h9 hx h2 h3 h4 h5 h6)
 generalize LcP L a e 15=PP at HYN HYY ⊢
 generalize (L.drop (a+3)).take (e-2-(a+3))=M at HC HYN HYY
 obtain ⟨n0,n1,m0,hpL,hqL,hap,haq,hwp,hwp2,hwq,hwq2,gn⟩:=lc_cells hL he hn hc
 rw [h9] at y0
 have s0:=(hc (e-2) (by omega)).1
 have hsL:((e-2:Nat):Int)<(L.length:Int):=by omega
 have hsub2:(e:Int)-2=((e-2:Nat):Int):=by omega
 have hws:Hid (wrap64 ((e-2:Nat):Int)=((e-2:Nat):Int)):=dhid (wq64 (Nat.le_trans (Nat.sub_le e 2) he) hL)
 have hws2:Hid (IntKind.i64.wrap ((e-2:Nat):Int)=((e-2:Nat):Int)):=dhid (wi64 (Nat.le_trans (Nat.sub_le e 2) he) hL)
 have har:(a:Int)+3=((a+3:Nat):Int):=rfl
 have hwr:Hid (wrap64 ((a+3:Nat):Int)=((a+3:Nat):Int)):=dhid (wq64 (show a+3≤L.length by omega) hL)
 have hwr2:Hid (IntKind.i64.wrap ((a+3:Nat):Int)=((a+3:Nat):Int)):=dhid (wi64 (show a+3≤L.length by omega) hL)
 have hop3:Hid ((L.getD (e-2) (0,0)).1<256):=dhid (hwf.at (show e-2<L.length by omega)).1
 generalize L.getD (e-2) (0,0)=q at s0 hop3 hd HYN HYY
 obtain ⟨op3,arg3⟩:=q
 generalize L.getD (e-1) (0,0)=q at x0 x1 hop h3
 obtain ⟨op,arg⟩:=q
 generalize L.getD a (0,0)=q at y1 h9 hx HYY
 obtain ⟨op0,arg0⟩:=q
 generalize L.getD (a+1) (0,0)=q at n0 n1 hx
 subst hx
 generalize L.getD (a+2) (0,0)=q at m0 h2
 obtain ⟨op2,arg2⟩:=q
 simp only at x0 x1 y1 n0 n1 m0 h9 h2 h3 s0 hd HYN HYY
 subst h9
 subst h2
 subst h3
 have hd2:op3≠42∧op3≠43∧op3≠44∧op3≠45:=by unfold divB at hd;have:=of_decide_eq_false hd;omega
 have g42:((op3:Int) == 42)=false:=by rw [beq_eq_false_iff_ne];omega
 have g43:((op3:Int) == 43)=false:=by rw [beq_eq_false_iff_ne];omega
 have g44:((op3:Int) == 44)=false:=by rw [beq_eq_false_iff_ne];omega
 have g45:((op3:Int) == 45)=false:=by rw [beq_eq_false_iff_ne];omega
 clear hc hwf hL he _he32 hae hr hn hd2
 replace hop:=hop3.out
 replace hws:=hws.out
 replace hws2:=hws2.out
 replace hwr:=hwr.out
 replace hwr2:=hwr2.out
 replace hwm:=hwm.out
 replace hwn:=hwn.out
 replace hwm2:=hwm2.out
 replace hwn2:=hwn2.out
 replace hwp:=hwp.out
 replace hwp2:=hwp2.out
 replace hwq:=hwq.out
 replace hwq2:=hwq2.out
 have gn3:decide (((e-a:Nat):Int)<6)=false:=decide_eq_false gn
 clear gn
 generalize e-1=m at *
 generalize e-a=n at *
 generalize e-2=m2 at *
 generalize a+3=p3 at *
 generalize a+1=p at *
 generalize a+2=p2 at *
 simp only [fzA]
 have HB5:Hid (Bs w (((w.alloc (.cells #[.int .u32 (a:Int),.int .u32 (n:Int),.int .u8 15,.int .u8 34,.int .u32 (arg0:Int),.int .u32 0] 28)).alloc (.cells #[.int .u32 0,.int .u32 0,.int .u8 0,.int .u8 0,.int .u32 0,.int .u32 0] 28)).alloc (Obj.cells #[.int .u8 34,.int .u32 (arg:Int)] 37)) ⟨a,n,15,34,arg0,0⟩ fz0):=dhid ((Bs.new w ⟨a,n,15,34,arg0,0⟩ fz0).next (bel1 _ _))
 have HI5:Hid ((((w.alloc (.cells #[.int .u32 (a:Int),.int .u32 (n:Int),.int .u8 15,.int .u8 34,.int .u32 (arg0:Int),.int .u32 0] 28)).alloc (.cells #[.int .u32 0,.int .u32 0,.int .u8 0,.int .u8 0,.int .u32 0,.int .u32 0] 28)).alloc (Obj.cells #[.int .u8 34,.int .u32 (arg:Int)] 37)).heap[w.heap.size+1+1]?=some (Obj.cells #[.int .u8 34,.int .u32 (arg:Int)] 37)):=dhid (by have:=heap_alloc_last ((w.alloc (.cells #[.int .u32 (a:Int),.int .u32 (n:Int),.int .u8 15,.int .u8 34,.int .u32 (arg0:Int),.int .u32 0] 28)).alloc (.cells #[.int .u32 0,.int .u32 0,.int .u8 0,.int .u8 0,.int .u32 0,.int .u32 0] 28)) (Obj.cells #[.int .u8 34,.int .u32 (arg:Int)] 37);simpa using this)
 go_enter Tryz.func46,Tryz.ntmps46
 go_wp2_with fail
 generalize (((w.alloc (.cells #[.int .u32 (a:Int),.int .u32 (n:Int),.int .u8 15,.int .u8 34,.int .u32 (arg0:Int),.int .u32 0] 28)).alloc (.cells #[.int .u32 0,.int .u32 0,.int .u8 0,.int .u8 0,.int .u32 0,.int .u32 0] 28)).alloc (Obj.cells #[.int .u8 34,.int .u32 (arg:Int)] 37))=W5 at HB5 HI5 ⊢
 have HBd:=dhid (fun q=>(show Bs w (W5.drewN q) ⟨a,n,15,34,arg0,0⟩ fz0 from ⟨⟨HB5.out.bw.os,HB5.out.bw.tape,HB5.out.bw.output,HB5.out.bw.size,HB5.out.bw.block⟩,HB5.out.c0,HB5.out.c1⟩))
 obtain ⟨a0,a1,a2,a3,a4,a5⟩:=fz_cells HB5.out.c0
 have i0:W5.cell? ⟨w.heap.size+1+1,0,none⟩=some (.int .u8 34):=obj_cell HI5.out 0
 simp only at a0 a1 a2 a3 a4 a5
 have k0:=(HB5.out.bw.cell (p:=⟨b,off+a*2,none⟩) hbl).trans y0
 have k1:=(HB5.out.bw.cell (p:=⟨b,off+a*2+1,none⟩) hbl).trans y1
 have k2:=(HB5.out.bw.cell (p:=⟨b,off+p*2,none⟩) hbl).trans n0
 have k3:=(HB5.out.bw.cell (p:=⟨b,off+p*2+1,none⟩) hbl).trans n1
 have k4:=(HB5.out.bw.cell (p:=⟨b,off+p2*2,none⟩) hbl).trans m0
 go_big_quiet (fail)
 go_wp2_with fail
 refine (HC.out _ (HBd.out _).bw).mono ?_
 rintro en w2 ⟨⟨v,okc,rfl,hO⟩,hb2⟩
 have HO1:Hid (okc=true→cnO M=some v):=dhid (fun h=>by rw [hO,if_pos h])
 have HO0:Hid (okc=false→cnO M=none):=dhid (fun h=>by rw [hO,if_neg (by rw [h];decide)])
 have HB:=dhid ((HBd.out _).next hb2)
 clear HB5 HI5 HBd a0 a1 a2 a3 a4 a5 i0 k0 k1 k2 k3 k4 hb2 hO HC
 have y9:=(HB.out.bw.cell (p:=⟨b,off+m2*2,none⟩) hbl).trans s0
 obtain ⟨z0,z1,z2,z3,z4,z5⟩:=fz_cells HB.out.c0
 obtain ⟨u0,u1,u2,u3,u4,u5⟩:=fz_frozen HB.out.c0
 simp only at z0 z1 z2 z3 z4 z5
 have HB5:=dhid ((HB.out.setop op3).setb v)
 have hneb:¬ b=w.heap.size:=by omega
 cases okc with
 | false=>
   go_wp2_with fail
   replace HB5:Hid (Bs w ((w2.setCell ⟨w.heap.size,3,none⟩ (.int .u8 (op3:Int))).setCell ⟨w.heap.size,5,none⟩ (.int .u32 (v:Int))) ⟨a,n,15,op3,arg0,v⟩ fz0):=HB5
   generalize ((w2.setCell ⟨w.heap.size,3,none⟩ (.int .u8 (op3:Int))).setCell ⟨w.heap.size,5,none⟩ (.int .u32 (v:Int)))=W6 at HB5 ⊢
   clear z0 z1 z2 z3 z4 z5 u0 u1 u2 u3 u4 u5 y9 HB
   have SOF:Hid (∀ (V:World) (r:Fz),Bs w V ⟨a,n,15,op3,arg0,v⟩ r→V.cell? ⟨w.heap.size,0,none⟩=some (.int .u32 (a:Int))∧V.cell? ⟨w.heap.size,1,none⟩=some (.int .u32 (n:Int))∧V.cell? ⟨w.heap.size,2,none⟩=some (.int .u8 15)∧V.cell? ⟨w.heap.size,3,none⟩=some (.int .u8 (op3:Int))∧V.cell? ⟨w.heap.size,4,none⟩=some (.int .u32 (arg0:Int))∧V.cell? ⟨w.heap.size,5,none⟩=some (.int .u32 (v:Int))):=dhid (fun V r hB=>⟨(fz_cells hB.c0).1,(fz_cells hB.c0).2.1,(fz_cells hB.c0).2.2.1,(fz_cells hB.c0).2.2.2.1,(fz_cells hB.c0).2.2.2.2.1,(fz_cells hB.c0).2.2.2.2.2⟩)
   have HBd:=dhid (show Bs w W6.drew ⟨a,n,15,op3,arg0,v⟩ fz0 from ⟨⟨HB5.out.bw.os,HB5.out.bw.tape,HB5.out.bw.output,HB5.out.bw.size,HB5.out.bw.block⟩,HB5.out.c0,HB5.out.c1⟩)
   have HS5:=dhid (SOF.out _ _ HBd.out)
   have HP:Hid (Bs w ((((((W6.setCell ⟨w.heap.size+1,0,none⟩ (.int .u32 (a:Int))).setCell ⟨w.heap.size+1,1,none⟩ (.int .u32 (n:Int))).setCell ⟨w.heap.size+1,2,none⟩ (.int .u8 15)).setCell ⟨w.heap.size+1,3,none⟩ (.int .u8 (op3:Int))).setCell ⟨w.heap.size+1,4,none⟩ (.int .u32 (arg0:Int))).setCell ⟨w.heap.size+1,5,none⟩ (.int .u32 (v:Int))).drew ⟨a,n,15,op3,arg0,v⟩ ⟨a,n,15,op3,arg0,v⟩):=dhid (by have h:=(HB5.out.put ⟨a,n,15,op3,arg0,v⟩).drewZ;simp only [put6] at h;exact h)
   have HSP:=dhid (SOF.out _ _ HP.out)
   obtain ⟨z0,z1,z2,z3,z4,z5⟩:=fz_cells HBd.out.c1
   obtain ⟨u0,u1,u2,u3,u4,u5⟩:=fz_frozen HBd.out.c1
   obtain ⟨t0,t1,t2,t3,t4,t5⟩:=fz_cells HB5.out.c1
   obtain ⟨r0,r1,r2,r3,r4,r5⟩:=fz_frozen HB5.out.c1
   obtain ⟨a0,a1,a2,a3,a4,a5⟩:=SOF.out _ _ HB5.out
   clear SOF HBd HS5 HSP z0 z1 z2 z3 z4 z5 u0 u1 u2 u3 u4 u5
   go_region
   all_goals (generalize ((((((W6.setCell ⟨w.heap.size+1,0,none⟩ (.int .u32 (a:Int))).setCell ⟨w.heap.size+1,1,none⟩ (.int .u32 (n:Int))).setCell ⟨w.heap.size+1,2,none⟩ (.int .u8 15)).setCell ⟨w.heap.size+1,3,none⟩ (.int .u8 (op3:Int))).setCell ⟨w.heap.size+1,4,none⟩ (.int .u32 (arg0:Int))).setCell ⟨w.heap.size+1,5,none⟩ (.int .u32 (v:Int))).drew=FW at HP ⊢)
   all_goals (have hP:=HP.out)
   all_goals (clear HP HB5 t0 t1 t2 t3 t4 t5 r0 r1 r2 r3 r4 r5 a0 a1 a2 a3 a4 a5)
   all_goals go_wp2_with fail
   all_goals exact bodyPost_ret (resFzB (p:=8) (u:=9) (by kernel_rfl) _ _ (w.heap.size+1) _ rfl hP.c1 _ rfl rfl) rfl ⟨HYN.out _ (.inl (by first|exact HO0.out rfl|exact HO0.out trivial)),hP.bw⟩
 | true=>
   have HDB:=dhid (fun W=>dbin_any op3 W hop)
   cases hdn:dBin op3 with
   | true =>
     rw [hdn] at HDB HYY
     go_wp2_with fail
     replace HB5:Hid (Bs w ((w2.setCell ⟨w.heap.size,3,none⟩ (.int .u8 (op3:Int))).setCell ⟨w.heap.size,5,none⟩ (.int .u32 (v:Int))) ⟨a,n,15,op3,arg0,v⟩ fz0):=HB5
     generalize ((w2.setCell ⟨w.heap.size,3,none⟩ (.int .u8 (op3:Int))).setCell ⟨w.heap.size,5,none⟩ (.int .u32 (v:Int)))=W6 at HB5 ⊢
     clear z0 z1 z2 z3 z4 z5 u0 u1 u2 u3 u4 u5 y9 HB
     have SOF:Hid (∀ (V:World) (r:Fz),Bs w V ⟨a,n,15,op3,arg0,v⟩ r→V.cell? ⟨w.heap.size,0,none⟩=some (.int .u32 (a:Int))∧V.cell? ⟨w.heap.size,1,none⟩=some (.int .u32 (n:Int))∧V.cell? ⟨w.heap.size,2,none⟩=some (.int .u8 15)∧V.cell? ⟨w.heap.size,3,none⟩=some (.int .u8 (op3:Int))∧V.cell? ⟨w.heap.size,4,none⟩=some (.int .u32 (arg0:Int))∧V.cell? ⟨w.heap.size,5,none⟩=some (.int .u32 (v:Int))):=dhid (fun V r hB=>⟨(fz_cells hB.c0).1,(fz_cells hB.c0).2.1,(fz_cells hB.c0).2.2.1,(fz_cells hB.c0).2.2.2.1,(fz_cells hB.c0).2.2.2.2.1,(fz_cells hB.c0).2.2.2.2.2⟩)
     have HBd:=dhid (show Bs w W6.drew ⟨a,n,15,op3,arg0,v⟩ fz0 from ⟨⟨HB5.out.bw.os,HB5.out.bw.tape,HB5.out.bw.output,HB5.out.bw.size,HB5.out.bw.block⟩,HB5.out.c0,HB5.out.c1⟩)
     have HS5:=dhid (SOF.out _ _ HBd.out)
     have HP:Hid (Bs w ((((((W6.setCell ⟨w.heap.size+1,0,none⟩ (.int .u32 (a:Int))).setCell ⟨w.heap.size+1,1,none⟩ (.int .u32 (n:Int))).setCell ⟨w.heap.size+1,2,none⟩ (.int .u8 15)).setCell ⟨w.heap.size+1,3,none⟩ (.int .u8 (op3:Int))).setCell ⟨w.heap.size+1,4,none⟩ (.int .u32 (arg0:Int))).setCell ⟨w.heap.size+1,5,none⟩ (.int .u32 (v:Int))).drew ⟨a,n,15,op3,arg0,v⟩ ⟨a,n,15,op3,arg0,v⟩):=dhid (by have h:=(HB5.out.put ⟨a,n,15,op3,arg0,v⟩).drewZ;simp only [put6] at h;exact h)
     have HSP:=dhid (SOF.out _ _ HP.out)
     obtain ⟨z0,z1,z2,z3,z4,z5⟩:=fz_cells HBd.out.c1
     obtain ⟨u0,u1,u2,u3,u4,u5⟩:=fz_frozen HBd.out.c1
     obtain ⟨t0,t1,t2,t3,t4,t5⟩:=fz_cells HB5.out.c1
     obtain ⟨r0,r1,r2,r3,r4,r5⟩:=fz_frozen HB5.out.c1
     go_region_held3 (fun V=>V.cell? ⟨w.heap.size,0,none⟩=some (.int .u32 (a:Int))∧V.cell? ⟨w.heap.size,1,none⟩=some (.int .u32 (n:Int))∧V.cell? ⟨w.heap.size,2,none⟩=some (.int .u8 15)∧V.cell? ⟨w.heap.size,3,none⟩=some (.int .u8 (op3:Int))∧V.cell? ⟨w.heap.size,4,none⟩=some (.int .u32 (arg0:Int))∧V.cell? ⟨w.heap.size,5,none⟩=some (.int .u32 (v:Int))) (first|with_reducible exact HS5.out|with_reducible exact HSP.out|with_reducible exact HS3.out|with_reducible exact HSP3.out)
       (first
         | (with_reducible refine (HDB.out W6.drew).mono ?_
            rintro en w3 ⟨rfl,hb3⟩
            have HB3:Hid (Bs w w3 ⟨a,n,15,op3,arg0,v⟩ fz0):=dhid (HBd.out.next hb3)
            have HS3:=dhid (SOF.out _ _ HB3.out)
            have HP3:Hid (Bs w ((((((w3.setCell ⟨w.heap.size+1,0,none⟩ (.int .u32 (a:Int))).setCell ⟨w.heap.size+1,1,none⟩ (.int .u32 (n:Int))).setCell ⟨w.heap.size+1,2,none⟩ (.int .u8 15)).setCell ⟨w.heap.size+1,3,none⟩ (.int .u8 (op3:Int))).setCell ⟨w.heap.size+1,4,none⟩ (.int .u32 (arg0:Int))).setCell ⟨w.heap.size+1,5,none⟩ (.int .u32 (v:Int))) ⟨a,n,15,op3,arg0,v⟩ ⟨a,n,15,op3,arg0,v⟩):=dhid (by have h:=HB3.out.put ⟨a,n,15,op3,arg0,v⟩;simp only [put6] at h;exact h)
            have HSP3:=dhid (SOF.out _ _ HP3.out)
            obtain ⟨x0,x1,x2,x3,x4,x5⟩:=fz_cells HB3.out.c1
            obtain ⟨s0,s1,s2,s3,s4,s5⟩:=fz_frozen HB3.out.c1
            clear hb3)
         | (with_reducible refine (HDB.out ((((((W6.setCell ⟨w.heap.size+1,0,none⟩ (.int .u32 (a:Int))).setCell ⟨w.heap.size+1,1,none⟩ (.int .u32 (n:Int))).setCell ⟨w.heap.size+1,2,none⟩ (.int .u8 15)).setCell ⟨w.heap.size+1,3,none⟩ (.int .u8 (op3:Int))).setCell ⟨w.heap.size+1,4,none⟩ (.int .u32 (arg0:Int))).setCell ⟨w.heap.size+1,5,none⟩ (.int .u32 (v:Int))).drew).mono ?_
            rintro en w3 ⟨rfl,hb3⟩
            have HB4:Hid (Bs w w3 ⟨a,n,15,op3,arg0,v⟩ ⟨a,n,15,op3,arg0,v⟩):=dhid (HP.out.next hb3)
            have HS3:=dhid (SOF.out _ _ HB4.out)
            clear hb3))
     all_goals first
       | (have hP:=HB4.out
          clear HSP HS5 HB5 HP t0 t1 t2 t3 t4 t5 r0 r1 r2 r3 r4 r5 z0 z1 z2 z3 z4 z5 u0 u1 u2 u3 u4 u5 HB4 HS3
          go_wp2_with fail
          exact bodyPost_ret (resFzB (p:=8) (u:=9) (by kernel_rfl) _ _ (w.heap.size+1) _ rfl hP.c1 _ rfl rfl) rfl ⟨HYY.out v (by first|exact HO1.out rfl|exact HO1.out trivial) (by first|rfl|trivial) hd,hP.bw⟩
     )
       | (generalize ((((((w3.setCell ⟨w.heap.size+1,0,none⟩ (.int .u32 (a:Int))).setCell ⟨w.heap.size+1,1,none⟩ (.int .u32 (n:Int))).setCell ⟨w.heap.size+1,2,none⟩ (.int .u8 15)).setCell ⟨w.heap.size+1,3,none⟩ (.int .u8 (op3:Int))).setCell ⟨w.heap.size+1,4,none⟩ (.int .u32 (arg0:Int))).setCell ⟨w.heap.size+1,5,none⟩ (.int .u32 (v:Int)))=FW at HP3 ⊢
          have hP:=HP3.out
          clear HSP HS5 HB5 HP t0 t1 t2 t3 t4 t5 r0 r1 r2 r3 r4 r5 z0 z1 z2 z3 z4 z5 u0 u1 u2 u3 u4 u5 HB3 HS3 HSP3 HP3 x0 x1 x2 x3 x4 x5 s0 s1 s2 s3 s4 s5
          go_wp2_with fail
          exact bodyPost_ret (resFzB (p:=8) (u:=9) (by kernel_rfl) _ _ (w.heap.size+1) _ rfl hP.c1 _ rfl rfl) rfl ⟨HYY.out v (by first|exact HO1.out rfl|exact HO1.out trivial) (by first|rfl|trivial) hd,hP.bw⟩
     )
   | false=>
     rw [hdn] at HDB HYN
     go_wp2_with fail
     replace HB5:Hid (Bs w ((w2.setCell ⟨w.heap.size,3,none⟩ (.int .u8 (op3:Int))).setCell ⟨w.heap.size,5,none⟩ (.int .u32 (v:Int))) ⟨a,n,15,op3,arg0,v⟩ fz0):=HB5
     generalize ((w2.setCell ⟨w.heap.size,3,none⟩ (.int .u8 (op3:Int))).setCell ⟨w.heap.size,5,none⟩ (.int .u32 (v:Int)))=W6 at HB5 ⊢
     clear z0 z1 z2 z3 z4 z5 u0 u1 u2 u3 u4 u5 y9 HB
     have SOF:Hid (∀ (V:World) (r:Fz),Bs w V ⟨a,n,15,op3,arg0,v⟩ r→V.cell? ⟨w.heap.size,0,none⟩=some (.int .u32 (a:Int))∧V.cell? ⟨w.heap.size,1,none⟩=some (.int .u32 (n:Int))∧V.cell? ⟨w.heap.size,2,none⟩=some (.int .u8 15)∧V.cell? ⟨w.heap.size,3,none⟩=some (.int .u8 (op3:Int))∧V.cell? ⟨w.heap.size,4,none⟩=some (.int .u32 (arg0:Int))∧V.cell? ⟨w.heap.size,5,none⟩=some (.int .u32 (v:Int))):=dhid (fun V r hB=>⟨(fz_cells hB.c0).1,(fz_cells hB.c0).2.1,(fz_cells hB.c0).2.2.1,(fz_cells hB.c0).2.2.2.1,(fz_cells hB.c0).2.2.2.2.1,(fz_cells hB.c0).2.2.2.2.2⟩)
     have HBd:=dhid (show Bs w W6.drew ⟨a,n,15,op3,arg0,v⟩ fz0 from ⟨⟨HB5.out.bw.os,HB5.out.bw.tape,HB5.out.bw.output,HB5.out.bw.size,HB5.out.bw.block⟩,HB5.out.c0,HB5.out.c1⟩)
     have HS5:=dhid (SOF.out _ _ HBd.out)
     have HP:Hid (Bs w ((((((W6.setCell ⟨w.heap.size+1,0,none⟩ (.int .u32 (a:Int))).setCell ⟨w.heap.size+1,1,none⟩ (.int .u32 (n:Int))).setCell ⟨w.heap.size+1,2,none⟩ (.int .u8 15)).setCell ⟨w.heap.size+1,3,none⟩ (.int .u8 (op3:Int))).setCell ⟨w.heap.size+1,4,none⟩ (.int .u32 (arg0:Int))).setCell ⟨w.heap.size+1,5,none⟩ (.int .u32 (v:Int))).drew ⟨a,n,15,op3,arg0,v⟩ ⟨a,n,15,op3,arg0,v⟩):=dhid (by have h:=(HB5.out.put ⟨a,n,15,op3,arg0,v⟩).drewZ;simp only [put6] at h;exact h)
     have HSP:=dhid (SOF.out _ _ HP.out)
     obtain ⟨z0,z1,z2,z3,z4,z5⟩:=fz_cells HBd.out.c1
     obtain ⟨u0,u1,u2,u3,u4,u5⟩:=fz_frozen HBd.out.c1
     obtain ⟨t0,t1,t2,t3,t4,t5⟩:=fz_cells HB5.out.c1
     obtain ⟨r0,r1,r2,r3,r4,r5⟩:=fz_frozen HB5.out.c1
     obtain ⟨a0,a1,a2,a3,a4,a5⟩:=SOF.out _ _ HB5.out
     clear SOF HS5 HSP z0 z1 z2 z3 z4 z5 u0 u1 u2 u3 u4 u5
     first
       | go_region_with (go_at_call 61
                         with_reducible refine (HDB.out _).mono ?_
                         rintro en w3 ⟨rfl,hb3⟩
                         first
                           | (have HB3:Hid (Bs w w3 ⟨a,n,15,op3,arg0,v⟩ fz0):=dhid (HBd.out.next hb3)
                              have HP3:Hid (Bs w ((((((w3.setCell ⟨w.heap.size+1,0,none⟩ (.int .u32 (a:Int))).setCell ⟨w.heap.size+1,1,none⟩ (.int .u32 (n:Int))).setCell ⟨w.heap.size+1,2,none⟩ (.int .u8 15)).setCell ⟨w.heap.size+1,3,none⟩ (.int .u8 (op3:Int))).setCell ⟨w.heap.size+1,4,none⟩ (.int .u32 (arg0:Int))).setCell ⟨w.heap.size+1,5,none⟩ (.int .u32 (v:Int))) ⟨a,n,15,op3,arg0,v⟩ ⟨a,n,15,op3,arg0,v⟩):=dhid (by have h:=HB3.out.put ⟨a,n,15,op3,arg0,v⟩;simp only [put6] at h;exact h)
                              obtain ⟨j0,j1,j2,j3,j4,j5⟩:=fz_cells HB3.out.c0
                              obtain ⟨x0,x1,x2,x3,x4,x5⟩:=fz_cells HB3.out.c1
                              obtain ⟨s0,s1,s2,s3,s4,s5⟩:=fz_frozen HB3.out.c1)
                           |(have HB4:Hid (Bs w w3 ⟨a,n,15,op3,arg0,v⟩ ⟨a,n,15,op3,arg0,v⟩):=dhid (HP.out.next hb3)))
       |fail
     all_goals first
       | (have hP:=HB4.out
          clear HB5 HP HB4 HBd a0 a1 a2 a3 a4 a5 t0 t1 t2 t3 t4 t5 r0 r1 r2 r3 r4 r5
          go_wp2_with fail
          exact bodyPost_ret (resFzB (p:=8) (u:=9) (by kernel_rfl) _ _ (w.heap.size+1) _ rfl hP.c1 _ rfl rfl) rfl ⟨HYN.out _ (.inr (.inl (by first|rfl|trivial))),hP.bw⟩
     )
       | (generalize ((((((w3.setCell ⟨w.heap.size+1,0,none⟩ (.int .u32 (a:Int))).setCell ⟨w.heap.size+1,1,none⟩ (.int .u32 (n:Int))).setCell ⟨w.heap.size+1,2,none⟩ (.int .u8 15)).setCell ⟨w.heap.size+1,3,none⟩ (.int .u8 (op3:Int))).setCell ⟨w.heap.size+1,4,none⟩ (.int .u32 (arg0:Int))).setCell ⟨w.heap.size+1,5,none⟩ (.int .u32 (v:Int)))=FW at HP3 ⊢
          have hP:=HP3.out
          clear HB5 HP HB3 HP3 HBd x0 x1 x2 x3 x4 x5 s0 s1 s2 s3 s4 s5 j0 j1 j2 j3 j4 j5 a0 a1 a2 a3 a4 a5 t0 t1 t2 t3 t4 t5 r0 r1 r2 r3 r4 r5
          go_wp2_with fail
          exact bodyPost_ret (resFzB (p:=8) (u:=9) (by kernel_rfl) _ _ (w.heap.size+1) _ rfl hP.c1 _ rfl rfl) rfl ⟨HYN.out _ (.inr (.inl (by first|rfl|trivial))),hP.bw⟩
     )
end Go.Proofs.YtibhlcfligfhdaaGreat
