import Derived.Test.YtibhlcfligfhdaaGreatCZDi9
namespace Go.Proofs.YtibhlcfligfhdaaGreat
open Go.RowKit Go.WideShapes Go.Shelf
set_option maxRecDepth 100000
set_option maxHeartbeats 40000000 in
theorem dl15a :
   (∀ (ao:Option Addr) (cap a e:Nat) (L:List (Nat × Nat)) (w:World),(L.length≤140737488355328)→(a<e)→(e≤L.length)→(e<4294967296)→(Wfc L)→(CRd w ao L w.heap.size)→((L.getD a (0,0)).1=9)→(¬ e<a+6)→(L.getD (a+1) (0,0)=L.getD a (0,0))→((L.getD (a+2) (0,0)).1=31)→((L.getD (e-1) (0,0)).1=34)→((L.getD (e-2) (0,0)).1=42)→Calls Tryz.prog 46 #[.slice ao L.length cap,.int .i64 (a:Int),.int .i64 (e:Int),.agg (fzA ⟨a,e-a,15,0,0,0⟩)] w fun x w'=>LcP L a e 15 x∧Below w.heap.size w w') ∧
   (∀ (ao:Option Addr) (cap a e:Nat) (L:List (Nat × Nat)) (w:World),(L.length≤140737488355328)→(a<e)→(e≤L.length)→(e<4294967296)→(Wfc L)→(CRd w ao L w.heap.size)→((L.getD a (0,0)).1=9)→(¬ e<a+6)→(L.getD (a+1) (0,0)=L.getD a (0,0))→((L.getD (a+2) (0,0)).1=31)→((L.getD (e-1) (0,0)).1=34)→((L.getD (e-2) (0,0)).1=43)→Calls Tryz.prog 46 #[.slice ao L.length cap,.int .i64 (a:Int),.int .i64 (e:Int),.agg (fzA ⟨a,e-a,15,0,0,0⟩)] w fun x w'=>LcP L a e 15 x∧Below w.heap.size w w') ∧
   (∀ (ao:Option Addr) (cap a e:Nat) (L:List (Nat × Nat)) (w:World),(L.length≤140737488355328)→(a<e)→(e≤L.length)→(e<4294967296)→(Wfc L)→(CRd w ao L w.heap.size)→((L.getD a (0,0)).1=9)→(¬ e<a+6)→(L.getD (a+1) (0,0)=L.getD a (0,0))→((L.getD (a+2) (0,0)).1=31)→((L.getD (e-1) (0,0)).1=34)→((L.getD (e-2) (0,0)).1=44)→Calls Tryz.prog 46 #[.slice ao L.length cap,.int .i64 (a:Int),.int .i64 (e:Int),.agg (fzA ⟨a,e-a,15,0,0,0⟩)] w fun x w'=>LcP L a e 15 x∧Below w.heap.size w w') ∧
   (∀ (ao:Option Addr) (cap a e:Nat) (L:List (Nat × Nat)) (w:World),(L.length≤140737488355328)→(a<e)→(e≤L.length)→(e<4294967296)→(Wfc L)→(CRd w ao L w.heap.size)→((L.getD a (0,0)).1=9)→(¬ e<a+6)→(L.getD (a+1) (0,0)=L.getD a (0,0))→((L.getD (a+2) (0,0)).1=31)→((L.getD (e-1) (0,0)).1=34)→((L.getD (e-2) (0,0)).1=45)→Calls Tryz.prog 46 #[.slice ao L.length cap,.int .i64 (a:Int),.int .i64 (e:Int),.agg (fzA ⟨a,e-a,15,0,0,0⟩)] w fun x w'=>LcP L a e 15 x∧Below w.heap.size w w'):=by
 refine ⟨?_,?_,?_,?_⟩
 all_goals intro ao cap a e L w hL hae he _he32 hwf hr h9 hn hx h2 h3 hd
 all_goals (obtain ⟨b,off,rfl,hbl,hc,x0,x1,y0,y1,haL,hmL,hsub,hsubn,hwm,hwn,hwm2,hwn2,hb1,hb2,hbn,hop⟩:=lc_facts hL hae he hwf hr)
 all_goals (have HC:=dhid (fun W (hW:Below w.heap.size w W)=>dcon_any (some ⟨b,off,none⟩) cap (a+3) (e-2) L W hL (by omega) (by omega) (by omega) hwf ((hr.below hW).mono hW.size)))
 all_goals (have HYN:Hid (∀ f,(cnO ((L.drop (a+3)).take (e-2-(a+3)))=none∨dBin (L.getD (e-2) (0,0)).1=false∨divB (L.getD (e-2) (0,0)).1=true)→LcP L a e 15 (.returned (.tuple #[.agg (fzA f),.bool false]))):=dhid (fun f h=>lc15_no h))
 all_goals (have HYY:Hid (∀ v,cnO ((L.drop (a+3)).take (e-2-(a+3)))=some v→dBin (L.getD (e-2) (0,0)).1=true→divB (L.getD (e-2) (0,0)).1=false→LcP L a e 15 (.returned (.tuple #[.agg (fzA ⟨a,e-a,15,(L.getD (e-2) (0,0)).1,(L.getD a (0,0)).2,v⟩),.bool true]))):=dhid (fun v h4 h5 h6=>lc15_yes (by omega) h9 hx h2 h3 h4 h5 h6))
 all_goals (generalize LcP L a e 15=PP at HYN HYY ⊢)
 all_goals (generalize (L.drop (a+3)).take (e-2-(a+3))=M at HC HYN HYY)
 all_goals (obtain ⟨n0,n1,m0,hpL,hqL,hap,haq,hwp,hwp2,hwq,hwq2,gn⟩:=lc_cells hL he hn hc)
 all_goals (rw [h9] at y0)
 all_goals (have s0:=(hc (e-2) (by omega)).1)
 all_goals (have hsL:((e-2:Nat):Int)<(L.length:Int):=by omega)
 all_goals (have hsub2:(e:Int)-2=((e-2:Nat):Int):=by omega)
 all_goals (have hws:Hid (wrap64 ((e-2:Nat):Int)=((e-2:Nat):Int)):=dhid (wq64 (Nat.le_trans (Nat.sub_le e 2) he) hL))
 all_goals (have hws2:Hid (IntKind.i64.wrap ((e-2:Nat):Int)=((e-2:Nat):Int)):=dhid (wi64 (Nat.le_trans (Nat.sub_le e 2) he) hL))
 all_goals (have har:(a:Int)+3=((a+3:Nat):Int):=rfl)
 all_goals (have hwr:Hid (wrap64 ((a+3:Nat):Int)=((a+3:Nat):Int)):=dhid (wq64 (show a+3≤L.length by omega) hL))
 all_goals (have hwr2:Hid (IntKind.i64.wrap ((a+3:Nat):Int)=((a+3:Nat):Int)):=dhid (wi64 (show a+3≤L.length by omega) hL))
 all_goals (have hop3:Hid ((L.getD (e-2) (0,0)).1<256):=dhid (hwf.at (show e-2<L.length by omega)).1)
 all_goals (generalize L.getD (e-2) (0,0)=q at s0 hop3 hd HYN HYY)
 all_goals (obtain ⟨op3,arg3⟩:=q)
 all_goals (generalize L.getD (e-1) (0,0)=q at x0 x1 hop h3)
 all_goals (obtain ⟨op,arg⟩:=q)
 all_goals (generalize L.getD a (0,0)=q at y1 h9 hx HYY)
 all_goals (obtain ⟨op0,arg0⟩:=q)
 all_goals (generalize L.getD (a+1) (0,0)=q at n0 n1 hx)
 all_goals (subst hx)
 all_goals (generalize L.getD (a+2) (0,0)=q at m0 h2)
 all_goals (obtain ⟨op2,arg2⟩:=q)
 all_goals (simp only at x0 x1 y1 n0 n1 m0 h9 h2 h3 s0 hd HYN HYY)
 all_goals (subst h9)
 all_goals (subst h2)
 all_goals (subst h3)
 all_goals (subst hd)
 all_goals (clear hc hwf hL he _he32 hae hr hn)
 all_goals (replace hop:=hop3.out)
 all_goals (replace hws:=hws.out)
 all_goals (replace hws2:=hws2.out)
 all_goals (replace hwr:=hwr.out)
 all_goals (replace hwr2:=hwr2.out)
 all_goals (replace hwm:=hwm.out)
 all_goals (replace hwn:=hwn.out)
 all_goals (replace hwm2:=hwm2.out)
 all_goals (replace hwn2:=hwn2.out)
 all_goals (replace hwp:=hwp.out)
 all_goals (replace hwp2:=hwp2.out)
 all_goals (replace hwq:=hwq.out)
 all_goals (replace hwq2:=hwq2.out)
 all_goals (have gn3:decide (((e-a:Nat):Int)<6)=false:=decide_eq_false gn)
 all_goals (clear gn)
 all_goals (generalize e-1=m at *)
 all_goals (generalize e-a=n at *)
 all_goals (generalize e-2=m2 at *)
 all_goals (generalize a+3=p3 at *)
 all_goals (generalize a+1=p at *)
 all_goals (generalize a+2=p2 at *)
 all_goals (simp only [fzA])
 all_goals (have HB5:Hid (Bs w (((w.alloc (.cells #[.int .u32 (a:Int),.int .u32 (n:Int),.int .u8 15,.int .u8 34,.int .u32 (arg0:Int),.int .u32 0] 28)).alloc (.cells #[.int .u32 0,.int .u32 0,.int .u8 0,.int .u8 0,.int .u32 0,.int .u32 0] 28)).alloc (Obj.cells #[.int .u8 34,.int .u32 (arg:Int)] 37)) ⟨a,n,15,34,arg0,0⟩ fz0):=dhid ((Bs.new w ⟨a,n,15,34,arg0,0⟩ fz0).next (bel1 _ _)))
 all_goals (have HI5:Hid ((((w.alloc (.cells #[.int .u32 (a:Int),.int .u32 (n:Int),.int .u8 15,.int .u8 34,.int .u32 (arg0:Int),.int .u32 0] 28)).alloc (.cells #[.int .u32 0,.int .u32 0,.int .u8 0,.int .u8 0,.int .u32 0,.int .u32 0] 28)).alloc (Obj.cells #[.int .u8 34,.int .u32 (arg:Int)] 37)).heap[w.heap.size+1+1]?=some (Obj.cells #[.int .u8 34,.int .u32 (arg:Int)] 37)):=dhid (by have:=heap_alloc_last ((w.alloc (.cells #[.int .u32 (a:Int),.int .u32 (n:Int),.int .u8 15,.int .u8 34,.int .u32 (arg0:Int),.int .u32 0] 28)).alloc (.cells #[.int .u32 0,.int .u32 0,.int .u8 0,.int .u8 0,.int .u32 0,.int .u32 0] 28)) (Obj.cells #[.int .u8 34,.int .u32 (arg:Int)] 37);simpa using this))
 all_goals (go_enter Tryz.func46,Tryz.ntmps46)
 all_goals (go_wp2_with fail)
 all_goals (generalize (((w.alloc (.cells #[.int .u32 (a:Int),.int .u32 (n:Int),.int .u8 15,.int .u8 34,.int .u32 (arg0:Int),.int .u32 0] 28)).alloc (.cells #[.int .u32 0,.int .u32 0,.int .u8 0,.int .u8 0,.int .u32 0,.int .u32 0] 28)).alloc (Obj.cells #[.int .u8 34,.int .u32 (arg:Int)] 37))=W5 at HB5 HI5 ⊢)
 all_goals (have HBd:=dhid (fun q=>(show Bs w (W5.drewN q) ⟨a,n,15,34,arg0,0⟩ fz0 from ⟨⟨HB5.out.bw.os,HB5.out.bw.tape,HB5.out.bw.output,HB5.out.bw.size,HB5.out.bw.block⟩,HB5.out.c0,HB5.out.c1⟩)))
 all_goals (obtain ⟨a0,a1,a2,a3,a4,a5⟩:=fz_cells HB5.out.c0)
 all_goals (have i0:W5.cell? ⟨w.heap.size+1+1,0,none⟩=some (.int .u8 34):=obj_cell HI5.out 0)
 all_goals (simp only at a0 a1 a2 a3 a4 a5)
 all_goals (have k0:=(HB5.out.bw.cell (p:=⟨b,off+a*2,none⟩) hbl).trans y0)
 all_goals (have k1:=(HB5.out.bw.cell (p:=⟨b,off+a*2+1,none⟩) hbl).trans y1)
 all_goals (have k2:=(HB5.out.bw.cell (p:=⟨b,off+p*2,none⟩) hbl).trans n0)
 all_goals (have k3:=(HB5.out.bw.cell (p:=⟨b,off+p*2+1,none⟩) hbl).trans n1)
 all_goals (have k4:=(HB5.out.bw.cell (p:=⟨b,off+p2*2,none⟩) hbl).trans m0)
 all_goals (go_big_quiet (fail))
 all_goals (go_wp2_with fail)
 all_goals (refine (HC.out _ (HBd.out _).bw).mono ?_)
 all_goals (rintro en w2 ⟨⟨v,okc,rfl,hO⟩,hb2⟩)
 all_goals (have HO1:Hid (okc=true→cnO M=some v):=dhid (fun h=>by rw [hO,if_pos h]))
 all_goals (have HO0:Hid (okc=false→cnO M=none):=dhid (fun h=>by rw [hO,if_neg (by rw [h];decide)]))
 all_goals (have HB:=dhid ((HBd.out _).next hb2))
 all_goals (clear HB5 HI5 HBd a0 a1 a2 a3 a4 a5 i0 k0 k1 k2 k3 k4 hb2 hO HC)
 all_goals (have y9:=(HB.out.bw.cell (p:=⟨b,off+m2*2,none⟩) hbl).trans s0)
 all_goals (obtain ⟨z0,z1,z2,z3,z4,z5⟩:=fz_cells HB.out.c0)
 all_goals (obtain ⟨u0,u1,u2,u3,u4,u5⟩:=fz_frozen HB.out.c0)
 all_goals (simp only at z0 z1 z2 z3 z4 z5)
 have HB5:=dhid ((HB.out.setop 42).setb v)
 rotate_left
 have HB5:=dhid ((HB.out.setop 43).setb v)
 rotate_left
 have HB5:=dhid ((HB.out.setop 44).setb v)
 rotate_left
 have HB5:=dhid ((HB.out.setop 45).setb v)
 rotate_left
 all_goals (have hneb:¬ b=w.heap.size:=by omega)
 focus
   cases okc with
   | false=>
     go_wp2_with fail
     replace HB5:Hid (Bs w ((w2.setCell ⟨w.heap.size,3,none⟩ (.int .u8 42)).setCell ⟨w.heap.size,5,none⟩ (.int .u32 (v:Int))) ⟨a,n,15,42,arg0,v⟩ fz0):=HB5
     generalize ((w2.setCell ⟨w.heap.size,3,none⟩ (.int .u8 42)).setCell ⟨w.heap.size,5,none⟩ (.int .u32 (v:Int)))=W6 at HB5 ⊢
     clear z0 z1 z2 z3 z4 z5 u0 u1 u2 u3 u4 u5 y9 HB
     have SOF:Hid (∀ (V:World) (r:Fz),Bs w V ⟨a,n,15,42,arg0,v⟩ r→V.cell? ⟨w.heap.size,0,none⟩=some (.int .u32 (a:Int))∧V.cell? ⟨w.heap.size,1,none⟩=some (.int .u32 (n:Int))∧V.cell? ⟨w.heap.size,2,none⟩=some (.int .u8 15)∧V.cell? ⟨w.heap.size,3,none⟩=some (.int .u8 42)∧V.cell? ⟨w.heap.size,4,none⟩=some (.int .u32 (arg0:Int))∧V.cell? ⟨w.heap.size,5,none⟩=some (.int .u32 (v:Int))):=dhid (fun V r hB=>⟨(fz_cells hB.c0).1,(fz_cells hB.c0).2.1,(fz_cells hB.c0).2.2.1,(fz_cells hB.c0).2.2.2.1,(fz_cells hB.c0).2.2.2.2.1,(fz_cells hB.c0).2.2.2.2.2⟩)
     have HBd:=dhid (show Bs w W6.drew ⟨a,n,15,42,arg0,v⟩ fz0 from ⟨⟨HB5.out.bw.os,HB5.out.bw.tape,HB5.out.bw.output,HB5.out.bw.size,HB5.out.bw.block⟩,HB5.out.c0,HB5.out.c1⟩)
     have HS5:=dhid (SOF.out _ _ HBd.out)
     have HP:Hid (Bs w ((((((W6.setCell ⟨w.heap.size+1,0,none⟩ (.int .u32 (a:Int))).setCell ⟨w.heap.size+1,1,none⟩ (.int .u32 (n:Int))).setCell ⟨w.heap.size+1,2,none⟩ (.int .u8 15)).setCell ⟨w.heap.size+1,3,none⟩ (.int .u8 42)).setCell ⟨w.heap.size+1,4,none⟩ (.int .u32 (arg0:Int))).setCell ⟨w.heap.size+1,5,none⟩ (.int .u32 (v:Int))).drew ⟨a,n,15,42,arg0,v⟩ ⟨a,n,15,42,arg0,v⟩):=dhid (by have h:=(HB5.out.put ⟨a,n,15,42,arg0,v⟩).drewZ;simp only [put6] at h;exact h)
     have HSP:=dhid (SOF.out _ _ HP.out)
     obtain ⟨z0,z1,z2,z3,z4,z5⟩:=fz_cells HBd.out.c1
     obtain ⟨u0,u1,u2,u3,u4,u5⟩:=fz_frozen HBd.out.c1
     obtain ⟨t0,t1,t2,t3,t4,t5⟩:=fz_cells HB5.out.c1
     obtain ⟨r0,r1,r2,r3,r4,r5⟩:=fz_frozen HB5.out.c1
     obtain ⟨a0,a1,a2,a3,a4,a5⟩:=SOF.out _ _ HB5.out
     clear SOF HBd HS5 HSP z0 z1 z2 z3 z4 z5 u0 u1 u2 u3 u4 u5
     go_region
     all_goals (generalize ((((((W6.setCell ⟨w.heap.size+1,0,none⟩ (.int .u32 (a:Int))).setCell ⟨w.heap.size+1,1,none⟩ (.int .u32 (n:Int))).setCell ⟨w.heap.size+1,2,none⟩ (.int .u8 15)).setCell ⟨w.heap.size+1,3,none⟩ (.int .u8 42)).setCell ⟨w.heap.size+1,4,none⟩ (.int .u32 (arg0:Int))).setCell ⟨w.heap.size+1,5,none⟩ (.int .u32 (v:Int))).drew=FW at HP ⊢)
     all_goals (have hP:=HP.out)
     all_goals (clear HP HB5 t0 t1 t2 t3 t4 t5 r0 r1 r2 r3 r4 r5 a0 a1 a2 a3 a4 a5)
     all_goals go_wp2_with fail
     all_goals exact bodyPost_ret (resFzB (p:=8) (u:=9) (by kernel_rfl) _ _ (w.heap.size+1) _ rfl hP.c1 _ rfl rfl) rfl ⟨HYN.out _ (.inl (by first|exact HO0.out rfl|exact HO0.out trivial)),hP.bw⟩
   | true =>
     have HDB:Hid (∀ W:World,Calls Tryz.prog 61 #[.int .u8 42] W fun e w'=>e=.returned (.bool true)∧Below W.heap.size W w'):=dhid (fun W=>(dbin_any 42 W (by decide)).mono (by rintro e w' ⟨h,h2⟩;exact ⟨h,h2⟩))
     go_wp2_with fail
     replace HB5:Hid (Bs w ((w2.setCell ⟨w.heap.size,3,none⟩ (.int .u8 42)).setCell ⟨w.heap.size,5,none⟩ (.int .u32 (v:Int))) ⟨a,n,15,42,arg0,v⟩ fz0):=HB5
     generalize ((w2.setCell ⟨w.heap.size,3,none⟩ (.int .u8 42)).setCell ⟨w.heap.size,5,none⟩ (.int .u32 (v:Int)))=W6 at HB5 ⊢
     clear z0 z1 z2 z3 z4 z5 u0 u1 u2 u3 u4 u5 y9 HB
     have SOF:Hid (∀ (V:World) (r:Fz),Bs w V ⟨a,n,15,42,arg0,v⟩ r→V.cell? ⟨w.heap.size,0,none⟩=some (.int .u32 (a:Int))∧V.cell? ⟨w.heap.size,1,none⟩=some (.int .u32 (n:Int))∧V.cell? ⟨w.heap.size,2,none⟩=some (.int .u8 15)∧V.cell? ⟨w.heap.size,3,none⟩=some (.int .u8 42)∧V.cell? ⟨w.heap.size,4,none⟩=some (.int .u32 (arg0:Int))∧V.cell? ⟨w.heap.size,5,none⟩=some (.int .u32 (v:Int))):=dhid (fun V r hB=>⟨(fz_cells hB.c0).1,(fz_cells hB.c0).2.1,(fz_cells hB.c0).2.2.1,(fz_cells hB.c0).2.2.2.1,(fz_cells hB.c0).2.2.2.2.1,(fz_cells hB.c0).2.2.2.2.2⟩)
     have HBd:=dhid (show Bs w W6.drew ⟨a,n,15,42,arg0,v⟩ fz0 from ⟨⟨HB5.out.bw.os,HB5.out.bw.tape,HB5.out.bw.output,HB5.out.bw.size,HB5.out.bw.block⟩,HB5.out.c0,HB5.out.c1⟩)
     have HS5:=dhid (SOF.out _ _ HBd.out)
     have HP:Hid (Bs w ((((((W6.setCell ⟨w.heap.size+1,0,none⟩ (.int .u32 (a:Int))).setCell ⟨w.heap.size+1,1,none⟩ (.int .u32 (n:Int))).setCell ⟨w.heap.size+1,2,none⟩ (.int .u8 15)).setCell ⟨w.heap.size+1,3,none⟩ (.int .u8 42)).setCell ⟨w.heap.size+1,4,none⟩ (.int .u32 (arg0:Int))).setCell ⟨w.heap.size+1,5,none⟩ (.int .u32 (v:Int))).drew ⟨a,n,15,42,arg0,v⟩ ⟨a,n,15,42,arg0,v⟩):=dhid (by have h:=(HB5.out.put ⟨a,n,15,42,arg0,v⟩).drewZ;simp only [put6] at h;exact h)
     have HSP:=dhid (SOF.out _ _ HP.out)
     obtain ⟨z0,z1,z2,z3,z4,z5⟩:=fz_cells HBd.out.c1
     obtain ⟨u0,u1,u2,u3,u4,u5⟩:=fz_frozen HBd.out.c1
     obtain ⟨t0,t1,t2,t3,t4,t5⟩:=fz_cells HB5.out.c1
     obtain ⟨r0,r1,r2,r3,r4,r5⟩:=fz_frozen HB5.out.c1
     go_region_held3 (fun V=>V.cell? ⟨w.heap.size,0,none⟩=some (.int .u32 (a:Int))∧V.cell? ⟨w.heap.size,1,none⟩=some (.int .u32 (n:Int))∧V.cell? ⟨w.heap.size,2,none⟩=some (.int .u8 15)∧V.cell? ⟨w.heap.size,3,none⟩=some (.int .u8 42)∧V.cell? ⟨w.heap.size,4,none⟩=some (.int .u32 (arg0:Int))∧V.cell? ⟨w.heap.size,5,none⟩=some (.int .u32 (v:Int))) (first|with_reducible exact HS5.out|with_reducible exact HSP.out|with_reducible exact HS3.out|with_reducible exact HSP3.out)
       (first
         | (with_reducible refine (HDB.out W6.drew).mono ?_
            rintro en w3 ⟨rfl,hb3⟩
            have HB3:Hid (Bs w w3 ⟨a,n,15,42,arg0,v⟩ fz0):=dhid (HBd.out.next hb3)
            have HS3:=dhid (SOF.out _ _ HB3.out)
            have HP3:Hid (Bs w ((((((w3.setCell ⟨w.heap.size+1,0,none⟩ (.int .u32 (a:Int))).setCell ⟨w.heap.size+1,1,none⟩ (.int .u32 (n:Int))).setCell ⟨w.heap.size+1,2,none⟩ (.int .u8 15)).setCell ⟨w.heap.size+1,3,none⟩ (.int .u8 42)).setCell ⟨w.heap.size+1,4,none⟩ (.int .u32 (arg0:Int))).setCell ⟨w.heap.size+1,5,none⟩ (.int .u32 (v:Int))) ⟨a,n,15,42,arg0,v⟩ ⟨a,n,15,42,arg0,v⟩):=dhid (by have h:=HB3.out.put ⟨a,n,15,42,arg0,v⟩;simp only [put6] at h;exact h)
            have HSP3:=dhid (SOF.out _ _ HP3.out)
            obtain ⟨x0,x1,x2,x3,x4,x5⟩:=fz_cells HB3.out.c1
            obtain ⟨s0,s1,s2,s3,s4,s5⟩:=fz_frozen HB3.out.c1
            clear hb3)
         | (with_reducible refine (HDB.out ((((((W6.setCell ⟨w.heap.size+1,0,none⟩ (.int .u32 (a:Int))).setCell ⟨w.heap.size+1,1,none⟩ (.int .u32 (n:Int))).setCell ⟨w.heap.size+1,2,none⟩ (.int .u8 15)).setCell ⟨w.heap.size+1,3,none⟩ (.int .u8 42)).setCell ⟨w.heap.size+1,4,none⟩ (.int .u32 (arg0:Int))).setCell ⟨w.heap.size+1,5,none⟩ (.int .u32 (v:Int))).drew).mono ?_
            rintro en w3 ⟨rfl,hb3⟩
            have HB4:Hid (Bs w w3 ⟨a,n,15,42,arg0,v⟩ ⟨a,n,15,42,arg0,v⟩):=dhid (HP.out.next hb3)
            have HS3:=dhid (SOF.out _ _ HB4.out)
            clear hb3))
     all_goals first
       | (have hP:=HB4.out
          clear HSP HS5 HB5 HP t0 t1 t2 t3 t4 t5 r0 r1 r2 r3 r4 r5 z0 z1 z2 z3 z4 z5 u0 u1 u2 u3 u4 u5 HB4 HS3
          go_wp2_with fail
          exact bodyPost_ret (resFzB (p:=8) (u:=9) (by kernel_rfl) _ _ (w.heap.size+1) _ rfl hP.c1 _ rfl rfl) rfl ⟨HYN.out _ (.inr (.inr rfl)),hP.bw⟩
     )
       | (generalize ((((((w3.setCell ⟨w.heap.size+1,0,none⟩ (.int .u32 (a:Int))).setCell ⟨w.heap.size+1,1,none⟩ (.int .u32 (n:Int))).setCell ⟨w.heap.size+1,2,none⟩ (.int .u8 15)).setCell ⟨w.heap.size+1,3,none⟩ (.int .u8 42)).setCell ⟨w.heap.size+1,4,none⟩ (.int .u32 (arg0:Int))).setCell ⟨w.heap.size+1,5,none⟩ (.int .u32 (v:Int)))=FW at HP3 ⊢
          have hP:=HP3.out
          clear HSP HS5 HB5 HP t0 t1 t2 t3 t4 t5 r0 r1 r2 r3 r4 r5 z0 z1 z2 z3 z4 z5 u0 u1 u2 u3 u4 u5 HB3 HS3 HSP3 HP3 x0 x1 x2 x3 x4 x5 s0 s1 s2 s3 s4 s5
          go_wp2_with fail
          exact bodyPost_ret (resFzB (p:=8) (u:=9) (by kernel_rfl) _ _ (w.heap.size+1) _ rfl hP.c1 _ rfl rfl) rfl ⟨HYN.out _ (.inr (.inr rfl)),hP.bw⟩
     )
 focus
   cases okc with
   | false=>
     go_wp2_with fail
     replace HB5:Hid (Bs w ((w2.setCell ⟨w.heap.size,3,none⟩ (.int .u8 43)).setCell ⟨w.heap.size,5,none⟩ (.int .u32 (v:Int))) ⟨a,n,15,43,arg0,v⟩ fz0):=HB5
     generalize ((w2.setCell ⟨w.heap.size,3,none⟩ (.int .u8 43)).setCell ⟨w.heap.size,5,none⟩ (.int .u32 (v:Int)))=W6 at HB5 ⊢
     clear z0 z1 z2 z3 z4 z5 u0 u1 u2 u3 u4 u5 y9 HB
     have SOF:Hid (∀ (V:World) (r:Fz),Bs w V ⟨a,n,15,43,arg0,v⟩ r→V.cell? ⟨w.heap.size,0,none⟩=some (.int .u32 (a:Int))∧V.cell? ⟨w.heap.size,1,none⟩=some (.int .u32 (n:Int))∧V.cell? ⟨w.heap.size,2,none⟩=some (.int .u8 15)∧V.cell? ⟨w.heap.size,3,none⟩=some (.int .u8 43)∧V.cell? ⟨w.heap.size,4,none⟩=some (.int .u32 (arg0:Int))∧V.cell? ⟨w.heap.size,5,none⟩=some (.int .u32 (v:Int))):=dhid (fun V r hB=>⟨(fz_cells hB.c0).1,(fz_cells hB.c0).2.1,(fz_cells hB.c0).2.2.1,(fz_cells hB.c0).2.2.2.1,(fz_cells hB.c0).2.2.2.2.1,(fz_cells hB.c0).2.2.2.2.2⟩)
     have HBd:=dhid (show Bs w W6.drew ⟨a,n,15,43,arg0,v⟩ fz0 from ⟨⟨HB5.out.bw.os,HB5.out.bw.tape,HB5.out.bw.output,HB5.out.bw.size,HB5.out.bw.block⟩,HB5.out.c0,HB5.out.c1⟩)
     have HS5:=dhid (SOF.out _ _ HBd.out)
     have HP:Hid (Bs w ((((((W6.setCell ⟨w.heap.size+1,0,none⟩ (.int .u32 (a:Int))).setCell ⟨w.heap.size+1,1,none⟩ (.int .u32 (n:Int))).setCell ⟨w.heap.size+1,2,none⟩ (.int .u8 15)).setCell ⟨w.heap.size+1,3,none⟩ (.int .u8 43)).setCell ⟨w.heap.size+1,4,none⟩ (.int .u32 (arg0:Int))).setCell ⟨w.heap.size+1,5,none⟩ (.int .u32 (v:Int))).drew ⟨a,n,15,43,arg0,v⟩ ⟨a,n,15,43,arg0,v⟩):=dhid (by have h:=(HB5.out.put ⟨a,n,15,43,arg0,v⟩).drewZ;simp only [put6] at h;exact h)
     have HSP:=dhid (SOF.out _ _ HP.out)
     obtain ⟨z0,z1,z2,z3,z4,z5⟩:=fz_cells HBd.out.c1
     obtain ⟨u0,u1,u2,u3,u4,u5⟩:=fz_frozen HBd.out.c1
     obtain ⟨t0,t1,t2,t3,t4,t5⟩:=fz_cells HB5.out.c1
     obtain ⟨r0,r1,r2,r3,r4,r5⟩:=fz_frozen HB5.out.c1
     obtain ⟨a0,a1,a2,a3,a4,a5⟩:=SOF.out _ _ HB5.out
     clear SOF HBd HS5 HSP z0 z1 z2 z3 z4 z5 u0 u1 u2 u3 u4 u5
     go_region
     all_goals (generalize ((((((W6.setCell ⟨w.heap.size+1,0,none⟩ (.int .u32 (a:Int))).setCell ⟨w.heap.size+1,1,none⟩ (.int .u32 (n:Int))).setCell ⟨w.heap.size+1,2,none⟩ (.int .u8 15)).setCell ⟨w.heap.size+1,3,none⟩ (.int .u8 43)).setCell ⟨w.heap.size+1,4,none⟩ (.int .u32 (arg0:Int))).setCell ⟨w.heap.size+1,5,none⟩ (.int .u32 (v:Int))).drew=FW at HP ⊢)
     all_goals (have hP:=HP.out)
     all_goals (clear HP HB5 t0 t1 t2 t3 t4 t5 r0 r1 r2 r3 r4 r5 a0 a1 a2 a3 a4 a5)
     all_goals go_wp2_with fail
     all_goals exact bodyPost_ret (resFzB (p:=8) (u:=9) (by kernel_rfl) _ _ (w.heap.size+1) _ rfl hP.c1 _ rfl rfl) rfl ⟨HYN.out _ (.inl (by first|exact HO0.out rfl|exact HO0.out trivial)),hP.bw⟩
   | true =>
     have HDB:Hid (∀ W:World,Calls Tryz.prog 61 #[.int .u8 43] W fun e w'=>e=.returned (.bool true)∧Below W.heap.size W w'):=dhid (fun W=>(dbin_any 43 W (by decide)).mono (by rintro e w' ⟨h,h2⟩;exact ⟨h,h2⟩))
     go_wp2_with fail
     replace HB5:Hid (Bs w ((w2.setCell ⟨w.heap.size,3,none⟩ (.int .u8 43)).setCell ⟨w.heap.size,5,none⟩ (.int .u32 (v:Int))) ⟨a,n,15,43,arg0,v⟩ fz0):=HB5
     generalize ((w2.setCell ⟨w.heap.size,3,none⟩ (.int .u8 43)).setCell ⟨w.heap.size,5,none⟩ (.int .u32 (v:Int)))=W6 at HB5 ⊢
     clear z0 z1 z2 z3 z4 z5 u0 u1 u2 u3 u4 u5 y9 HB
     have SOF:Hid (∀ (V:World) (r:Fz),Bs w V ⟨a,n,15,43,arg0,v⟩ r→V.cell? ⟨w.heap.size,0,none⟩=some (.int .u32 (a:Int))∧V.cell? ⟨w.heap.size,1,none⟩=some (.int .u32 (n:Int))∧V.cell? ⟨w.heap.size,2,none⟩=some (.int .u8 15)∧V.cell? ⟨w.heap.size,3,none⟩=some (.int .u8 43)∧V.cell? ⟨w.heap.size,4,none⟩=some (.int .u32 (arg0:Int))∧V.cell? ⟨w.heap.size,5,none⟩=some (.int .u32 (v:Int))):=dhid (fun V r hB=>⟨(fz_cells hB.c0).1,(fz_cells hB.c0).2.1,(fz_cells hB.c0).2.2.1,(fz_cells hB.c0).2.2.2.1,(fz_cells hB.c0).2.2.2.2.1,(fz_cells hB.c0).2.2.2.2.2⟩)
     have HBd:=dhid (show Bs w W6.drew ⟨a,n,15,43,arg0,v⟩ fz0 from ⟨⟨HB5.out.bw.os,HB5.out.bw.tape,HB5.out.bw.output,HB5.out.bw.size,HB5.out.bw.block⟩,HB5.out.c0,HB5.out.c1⟩)
     have HS5:=dhid (SOF.out _ _ HBd.out)
     have HP:Hid (Bs w ((((((W6.setCell ⟨w.heap.size+1,0,none⟩ (.int .u32 (a:Int))).setCell ⟨w.heap.size+1,1,none⟩ (.int .u32 (n:Int))).setCell ⟨w.heap.size+1,2,none⟩ (.int .u8 15)).setCell ⟨w.heap.size+1,3,none⟩ (.int .u8 43)).setCell ⟨w.heap.size+1,4,none⟩ (.int .u32 (arg0:Int))).setCell ⟨w.heap.size+1,5,none⟩ (.int .u32 (v:Int))).drew ⟨a,n,15,43,arg0,v⟩ ⟨a,n,15,43,arg0,v⟩):=dhid (by have h:=(HB5.out.put ⟨a,n,15,43,arg0,v⟩).drewZ;simp only [put6] at h;exact h)
     have HSP:=dhid (SOF.out _ _ HP.out)
     obtain ⟨z0,z1,z2,z3,z4,z5⟩:=fz_cells HBd.out.c1
     obtain ⟨u0,u1,u2,u3,u4,u5⟩:=fz_frozen HBd.out.c1
     obtain ⟨t0,t1,t2,t3,t4,t5⟩:=fz_cells HB5.out.c1
     obtain ⟨r0,r1,r2,r3,r4,r5⟩:=fz_frozen HB5.out.c1
     go_region_held3 (fun V=>V.cell? ⟨w.heap.size,0,none⟩=some (.int .u32 (a:Int))∧V.cell? ⟨w.heap.size,1,none⟩=some (.int .u32 (n:Int))∧V.cell? ⟨w.heap.size,2,none⟩=some (.int .u8 15)∧V.cell? ⟨w.heap.size,3,none⟩=some (.int .u8 43)∧V.cell? ⟨w.heap.size,4,none⟩=some (.int .u32 (arg0:Int))∧V.cell? ⟨w.heap.size,5,none⟩=some (.int .u32 (v:Int))) (first|with_reducible exact HS5.out|with_reducible exact HSP.out|with_reducible exact HS3.out|with_reducible exact HSP3.out)
       (first
         | (with_reducible refine (HDB.out W6.drew).mono ?_
            rintro en w3 ⟨rfl,hb3⟩
            have HB3:Hid (Bs w w3 ⟨a,n,15,43,arg0,v⟩ fz0):=dhid (HBd.out.next hb3)
            have HS3:=dhid (SOF.out _ _ HB3.out)
            have HP3:Hid (Bs w ((((((w3.setCell ⟨w.heap.size+1,0,none⟩ (.int .u32 (a:Int))).setCell ⟨w.heap.size+1,1,none⟩ (.int .u32 (n:Int))).setCell ⟨w.heap.size+1,2,none⟩ (.int .u8 15)).setCell ⟨w.heap.size+1,3,none⟩ (.int .u8 43)).setCell ⟨w.heap.size+1,4,none⟩ (.int .u32 (arg0:Int))).setCell ⟨w.heap.size+1,5,none⟩ (.int .u32 (v:Int))) ⟨a,n,15,43,arg0,v⟩ ⟨a,n,15,43,arg0,v⟩):=dhid (by have h:=HB3.out.put ⟨a,n,15,43,arg0,v⟩;simp only [put6] at h;exact h)
            have HSP3:=dhid (SOF.out _ _ HP3.out)
            obtain ⟨x0,x1,x2,x3,x4,x5⟩:=fz_cells HB3.out.c1
            obtain ⟨s0,s1,s2,s3,s4,s5⟩:=fz_frozen HB3.out.c1
            clear hb3)
         | (with_reducible refine (HDB.out ((((((W6.setCell ⟨w.heap.size+1,0,none⟩ (.int .u32 (a:Int))).setCell ⟨w.heap.size+1,1,none⟩ (.int .u32 (n:Int))).setCell ⟨w.heap.size+1,2,none⟩ (.int .u8 15)).setCell ⟨w.heap.size+1,3,none⟩ (.int .u8 43)).setCell ⟨w.heap.size+1,4,none⟩ (.int .u32 (arg0:Int))).setCell ⟨w.heap.size+1,5,none⟩ (.int .u32 (v:Int))).drew).mono ?_
            rintro en w3 ⟨rfl,hb3⟩
            have HB4:Hid (Bs w w3 ⟨a,n,15,43,arg0,v⟩ ⟨a,n,15,43,arg0,v⟩):=dhid (HP.out.next hb3)
            have HS3:=dhid (SOF.out _ _ HB4.out)
            clear hb3))
     all_goals first
       | (have hP:=HB4.out
          clear HSP HS5 HB5 HP t0 t1 t2 t3 t4 t5 r0 r1 r2 r3 r4 r5 z0 z1 z2 z3 z4 z5 u0 u1 u2 u3 u4 u5 HB4 HS3
          go_wp2_with fail
          exact bodyPost_ret (resFzB (p:=8) (u:=9) (by kernel_rfl) _ _ (w.heap.size+1) _ rfl hP.c1 _ rfl rfl) rfl ⟨HYN.out _ (.inr (.inr rfl)),hP.bw⟩
     )
       | (generalize ((((((w3.setCell ⟨w.heap.size+1,0,none⟩ (.int .u32 (a:Int))).setCell ⟨w.heap.size+1,1,none⟩ (.int .u32 (n:Int))).setCell ⟨w.heap.size+1,2,none⟩ (.int .u8 15)).setCell ⟨w.heap.size+1,3,none⟩ (.int .u8 43)).setCell ⟨w.heap.size+1,4,none⟩ (.int .u32 (arg0:Int))).setCell ⟨w.heap.size+1,5,none⟩ (.int .u32 (v:Int)))=FW at HP3 ⊢
          have hP:=HP3.out
          clear HSP HS5 HB5 HP t0 t1 t2 t3 t4 t5 r0 r1 r2 r3 r4 r5 z0 z1 z2 z3 z4 z5 u0 u1 u2 u3 u4 u5 HB3 HS3 HSP3 HP3 x0 x1 x2 x3 x4 x5 s0 s1 s2 s3 s4 s5
          go_wp2_with fail
          exact bodyPost_ret (resFzB (p:=8) (u:=9) (by kernel_rfl) _ _ (w.heap.size+1) _ rfl hP.c1 _ rfl rfl) rfl ⟨HYN.out _ (.inr (.inr rfl)),hP.bw⟩
     )
 focus
   cases okc with
   | false=>
     go_wp2_with fail
     replace HB5:Hid (Bs w ((w2.setCell ⟨w.heap.size,3,none⟩ (.int .u8 44)).setCell ⟨w.heap.size,5,none⟩ (.int .u32 (v:Int))) ⟨a,n,15,44,arg0,v⟩ fz0):=HB5
     generalize ((w2.setCell ⟨w.heap.size,3,none⟩ (.int .u8 44)).setCell ⟨w.heap.size,5,none⟩ (.int .u32 (v:Int)))=W6 at HB5 ⊢
     clear z0 z1 z2 z3 z4 z5 u0 u1 u2 u3 u4 u5 y9 HB
     have SOF:Hid (∀ (V:World) (r:Fz),Bs w V ⟨a,n,15,44,arg0,v⟩ r→V.cell? ⟨w.heap.size,0,none⟩=some (.int .u32 (a:Int))∧V.cell? ⟨w.heap.size,1,none⟩=some (.int .u32 (n:Int))∧V.cell? ⟨w.heap.size,2,none⟩=some (.int .u8 15)∧V.cell? ⟨w.heap.size,3,none⟩=some (.int .u8 44)∧V.cell? ⟨w.heap.size,4,none⟩=some (.int .u32 (arg0:Int))∧V.cell? ⟨w.heap.size,5,none⟩=some (.int .u32 (v:Int))):=dhid (fun V r hB=>⟨(fz_cells hB.c0).1,(fz_cells hB.c0).2.1,(fz_cells hB.c0).2.2.1,(fz_cells hB.c0).2.2.2.1,(fz_cells hB.c0).2.2.2.2.1,(fz_cells hB.c0).2.2.2.2.2⟩)
     have HBd:=dhid (show Bs w W6.drew ⟨a,n,15,44,arg0,v⟩ fz0 from ⟨⟨HB5.out.bw.os,HB5.out.bw.tape,HB5.out.bw.output,HB5.out.bw.size,HB5.out.bw.block⟩,HB5.out.c0,HB5.out.c1⟩)
     have HS5:=dhid (SOF.out _ _ HBd.out)
     have HP:Hid (Bs w ((((((W6.setCell ⟨w.heap.size+1,0,none⟩ (.int .u32 (a:Int))).setCell ⟨w.heap.size+1,1,none⟩ (.int .u32 (n:Int))).setCell ⟨w.heap.size+1,2,none⟩ (.int .u8 15)).setCell ⟨w.heap.size+1,3,none⟩ (.int .u8 44)).setCell ⟨w.heap.size+1,4,none⟩ (.int .u32 (arg0:Int))).setCell ⟨w.heap.size+1,5,none⟩ (.int .u32 (v:Int))).drew ⟨a,n,15,44,arg0,v⟩ ⟨a,n,15,44,arg0,v⟩):=dhid (by have h:=(HB5.out.put ⟨a,n,15,44,arg0,v⟩).drewZ;simp only [put6] at h;exact h)
     have HSP:=dhid (SOF.out _ _ HP.out)
     obtain ⟨z0,z1,z2,z3,z4,z5⟩:=fz_cells HBd.out.c1
     obtain ⟨u0,u1,u2,u3,u4,u5⟩:=fz_frozen HBd.out.c1
     obtain ⟨t0,t1,t2,t3,t4,t5⟩:=fz_cells HB5.out.c1
     obtain ⟨r0,r1,r2,r3,r4,r5⟩:=fz_frozen HB5.out.c1
     obtain ⟨a0,a1,a2,a3,a4,a5⟩:=SOF.out _ _ HB5.out
     clear SOF HBd HS5 HSP z0 z1 z2 z3 z4 z5 u0 u1 u2 u3 u4 u5
     go_region
     all_goals (generalize ((((((W6.setCell ⟨w.heap.size+1,0,none⟩ (.int .u32 (a:Int))).setCell ⟨w.heap.size+1,1,none⟩ (.int .u32 (n:Int))).setCell ⟨w.heap.size+1,2,none⟩ (.int .u8 15)).setCell ⟨w.heap.size+1,3,none⟩ (.int .u8 44)).setCell ⟨w.heap.size+1,4,none⟩ (.int .u32 (arg0:Int))).setCell ⟨w.heap.size+1,5,none⟩ (.int .u32 (v:Int))).drew=FW at HP ⊢)
     all_goals (have hP:=HP.out)
     all_goals (clear HP HB5 t0 t1 t2 t3 t4 t5 r0 r1 r2 r3 r4 r5 a0 a1 a2 a3 a4 a5)
     all_goals go_wp2_with fail
     all_goals exact bodyPost_ret (resFzB (p:=8) (u:=9) (by kernel_rfl) _ _ (w.heap.size+1) _ rfl hP.c1 _ rfl rfl) rfl ⟨HYN.out _ (.inl (by first|exact HO0.out rfl|exact HO0.out trivial)),hP.bw⟩
   | true =>
     have HDB:Hid (∀ W:World,Calls Tryz.prog 61 #[.int .u8 44] W fun e w'=>e=.returned (.bool true)∧Below W.heap.size W w'):=dhid (fun W=>(dbin_any 44 W (by decide)).mono (by rintro e w' ⟨h,h2⟩;exact ⟨h,h2⟩))
     go_wp2_with fail
     replace HB5:Hid (Bs w ((w2.setCell ⟨w.heap.size,3,none⟩ (.int .u8 44)).setCell ⟨w.heap.size,5,none⟩ (.int .u32 (v:Int))) ⟨a,n,15,44,arg0,v⟩ fz0):=HB5
     generalize ((w2.setCell ⟨w.heap.size,3,none⟩ (.int .u8 44)).setCell ⟨w.heap.size,5,none⟩ (.int .u32 (v:Int)))=W6 at HB5 ⊢
     clear z0 z1 z2 z3 z4 z5 u0 u1 u2 u3 u4 u5 y9 HB
     have SOF:Hid (∀ (V:World) (r:Fz),Bs w V ⟨a,n,15,44,arg0,v⟩ r→V.cell? ⟨w.heap.size,0,none⟩=some (.int .u32 (a:Int))∧V.cell? ⟨w.heap.size,1,none⟩=some (.int .u32 (n:Int))∧V.cell? ⟨w.heap.size,2,none⟩=some (.int .u8 15)∧V.cell? ⟨w.heap.size,3,none⟩=some (.int .u8 44)∧V.cell? ⟨w.heap.size,4,none⟩=some (.int .u32 (arg0:Int))∧V.cell? ⟨w.heap.size,5,none⟩=some (.int .u32 (v:Int))):=dhid (fun V r hB=>⟨(fz_cells hB.c0).1,(fz_cells hB.c0).2.1,(fz_cells hB.c0).2.2.1,(fz_cells hB.c0).2.2.2.1,(fz_cells hB.c0).2.2.2.2.1,(fz_cells hB.c0).2.2.2.2.2⟩)
     have HBd:=dhid (show Bs w W6.drew ⟨a,n,15,44,arg0,v⟩ fz0 from ⟨⟨HB5.out.bw.os,HB5.out.bw.tape,HB5.out.bw.output,HB5.out.bw.size,HB5.out.bw.block⟩,HB5.out.c0,HB5.out.c1⟩)
     have HS5:=dhid (SOF.out _ _ HBd.out)
     have HP:Hid (Bs w ((((((W6.setCell ⟨w.heap.size+1,0,none⟩ (.int .u32 (a:Int))).setCell ⟨w.heap.size+1,1,none⟩ (.int .u32 (n:Int))).setCell ⟨w.heap.size+1,2,none⟩ (.int .u8 15)).setCell ⟨w.heap.size+1,3,none⟩ (.int .u8 44)).setCell ⟨w.heap.size+1,4,none⟩ (.int .u32 (arg0:Int))).setCell ⟨w.heap.size+1,5,none⟩ (.int .u32 (v:Int))).drew ⟨a,n,15,44,arg0,v⟩ ⟨a,n,15,44,arg0,v⟩):=dhid (by have h:=(HB5.out.put ⟨a,n,15,44,arg0,v⟩).drewZ;simp only [put6] at h;exact h)
     have HSP:=dhid (SOF.out _ _ HP.out)
     obtain ⟨z0,z1,z2,z3,z4,z5⟩:=fz_cells HBd.out.c1
     obtain ⟨u0,u1,u2,u3,u4,u5⟩:=fz_frozen HBd.out.c1
     obtain ⟨t0,t1,t2,t3,t4,t5⟩:=fz_cells HB5.out.c1
     obtain ⟨r0,r1,r2,r3,r4,r5⟩:=fz_frozen HB5.out.c1
     go_region_held3 (fun V=>V.cell? ⟨w.heap.size,0,none⟩=some (.int .u32 (a:Int))∧V.cell? ⟨w.heap.size,1,none⟩=some (.int .u32 (n:Int))∧V.cell? ⟨w.heap.size,2,none⟩=some (.int .u8 15)∧V.cell? ⟨w.heap.size,3,none⟩=some (.int .u8 44)∧V.cell? ⟨w.heap.size,4,none⟩=some (.int .u32 (arg0:Int))∧V.cell? ⟨w.heap.size,5,none⟩=some (.int .u32 (v:Int))) (first|with_reducible exact HS5.out|with_reducible exact HSP.out|with_reducible exact HS3.out|with_reducible exact HSP3.out)
       (first
         | (with_reducible refine (HDB.out W6.drew).mono ?_
            rintro en w3 ⟨rfl,hb3⟩
            have HB3:Hid (Bs w w3 ⟨a,n,15,44,arg0,v⟩ fz0):=dhid (HBd.out.next hb3)
            have HS3:=dhid (SOF.out _ _ HB3.out)
            have HP3:Hid (Bs w ((((((w3.setCell ⟨w.heap.size+1,0,none⟩ (.int .u32 (a:Int))).setCell ⟨w.heap.size+1,1,none⟩ (.int .u32 (n:Int))).setCell ⟨w.heap.size+1,2,none⟩ (.int .u8 15)).setCell ⟨w.heap.size+1,3,none⟩ (.int .u8 44)).setCell ⟨w.heap.size+1,4,none⟩ (.int .u32 (arg0:Int))).setCell ⟨w.heap.size+1,5,none⟩ (.int .u32 (v:Int))) ⟨a,n,15,44,arg0,v⟩ ⟨a,n,15,44,arg0,v⟩):=dhid (by have h:=HB3.out.put ⟨a,n,15,44,arg0,v⟩;simp only [put6] at h;exact h)
            have HSP3:=dhid (SOF.out _ _ HP3.out)
            obtain ⟨x0,x1,x2,x3,x4,x5⟩:=fz_cells HB3.out.c1
            obtain ⟨s0,s1,s2,s3,s4,s5⟩:=fz_frozen HB3.out.c1
            clear hb3)
         | (with_reducible refine (HDB.out ((((((W6.setCell ⟨w.heap.size+1,0,none⟩ (.int .u32 (a:Int))).setCell ⟨w.heap.size+1,1,none⟩ (.int .u32 (n:Int))).setCell ⟨w.heap.size+1,2,none⟩ (.int .u8 15)).setCell ⟨w.heap.size+1,3,none⟩ (.int .u8 44)).setCell ⟨w.heap.size+1,4,none⟩ (.int .u32 (arg0:Int))).setCell ⟨w.heap.size+1,5,none⟩ (.int .u32 (v:Int))).drew).mono ?_
            rintro en w3 ⟨rfl,hb3⟩
            have HB4:Hid (Bs w w3 ⟨a,n,15,44,arg0,v⟩ ⟨a,n,15,44,arg0,v⟩):=dhid (HP.out.next hb3)
            have HS3:=dhid (SOF.out _ _ HB4.out)
            clear hb3))
     all_goals first
       | (have hP:=HB4.out
          clear HSP HS5 HB5 HP t0 t1 t2 t3 t4 t5 r0 r1 r2 r3 r4 r5 z0 z1 z2 z3 z4 z5 u0 u1 u2 u3 u4 u5 HB4 HS3
          go_wp2_with fail
          exact bodyPost_ret (resFzB (p:=8) (u:=9) (by kernel_rfl) _ _ (w.heap.size+1) _ rfl hP.c1 _ rfl rfl) rfl ⟨HYN.out _ (.inr (.inr rfl)),hP.bw⟩
     )
       | (generalize ((((((w3.setCell ⟨w.heap.size+1,0,none⟩ (.int .u32 (a:Int))).setCell ⟨w.heap.size+1,1,none⟩ (.int .u32 (n:Int))).setCell ⟨w.heap.size+1,2,none⟩ (.int .u8 15)).setCell ⟨w.heap.size+1,3,none⟩ (.int .u8 44)).setCell ⟨w.heap.size+1,4,none⟩ (.int .u32 (arg0:Int))).setCell ⟨w.heap.size+1,5,none⟩ (.int .u32 (v:Int)))=FW at HP3 ⊢
          have hP:=HP3.out
          clear HSP HS5 HB5 HP t0 t1 t2 t3 t4 t5 r0 r1 r2 r3 r4 r5 z0 z1 z2 z3 z4 z5 u0 u1 u2 u3 u4 u5 HB3 HS3 HSP3 HP3 x0 x1 x2 x3 x4 x5 s0 s1 s2 s3 s4 s5
          go_wp2_with fail
          exact bodyPost_ret (resFzB (p:=8) (u:=9) (by kernel_rfl) _ _ (w.heap.size+1) _ rfl hP.c1 _ rfl rfl) rfl ⟨HYN.out _ (.inr (.inr rfl)),hP.bw⟩
     )
 focus
   cases okc with
   | false=>
     go_wp2_with fail
     replace HB5:Hid (Bs w ((w2.setCell ⟨w.heap.size,3,none⟩ (.int .u8 45)).setCell ⟨w.heap.size,5,none⟩ (.int .u32 (v:Int))) ⟨a,n,15,45,arg0,v⟩ fz0):=HB5
     generalize ((w2.setCell ⟨w.heap.size,3,none⟩ (.int .u8 45)).setCell ⟨w.heap.size,5,none⟩ (.int .u32 (v:Int)))=W6 at HB5 ⊢
     clear z0 z1 z2 z3 z4 z5 u0 u1 u2 u3 u4 u5 y9 HB
     have SOF:Hid (∀ (V:World) (r:Fz),Bs w V ⟨a,n,15,45,arg0,v⟩ r→V.cell? ⟨w.heap.size,0,none⟩=some (.int .u32 (a:Int))∧V.cell? ⟨w.heap.size,1,none⟩=some (.int .u32 (n:Int))∧V.cell? ⟨w.heap.size,2,none⟩=some (.int .u8 15)∧V.cell? ⟨w.heap.size,3,none⟩=some (.int .u8 45)∧V.cell? ⟨w.heap.size,4,none⟩=some (.int .u32 (arg0:Int))∧V.cell? ⟨w.heap.size,5,none⟩=some (.int .u32 (v:Int))):=dhid (fun V r hB=>⟨(fz_cells hB.c0).1,(fz_cells hB.c0).2.1,(fz_cells hB.c0).2.2.1,(fz_cells hB.c0).2.2.2.1,(fz_cells hB.c0).2.2.2.2.1,(fz_cells hB.c0).2.2.2.2.2⟩)
     have HBd:=dhid (show Bs w W6.drew ⟨a,n,15,45,arg0,v⟩ fz0 from ⟨⟨HB5.out.bw.os,HB5.out.bw.tape,HB5.out.bw.output,HB5.out.bw.size,HB5.out.bw.block⟩,HB5.out.c0,HB5.out.c1⟩)
     have HS5:=dhid (SOF.out _ _ HBd.out)
     have HP:Hid (Bs w ((((((W6.setCell ⟨w.heap.size+1,0,none⟩ (.int .u32 (a:Int))).setCell ⟨w.heap.size+1,1,none⟩ (.int .u32 (n:Int))).setCell ⟨w.heap.size+1,2,none⟩ (.int .u8 15)).setCell ⟨w.heap.size+1,3,none⟩ (.int .u8 45)).setCell ⟨w.heap.size+1,4,none⟩ (.int .u32 (arg0:Int))).setCell ⟨w.heap.size+1,5,none⟩ (.int .u32 (v:Int))).drew ⟨a,n,15,45,arg0,v⟩ ⟨a,n,15,45,arg0,v⟩):=dhid (by have h:=(HB5.out.put ⟨a,n,15,45,arg0,v⟩).drewZ;simp only [put6] at h;exact h)
     have HSP:=dhid (SOF.out _ _ HP.out)
     obtain ⟨z0,z1,z2,z3,z4,z5⟩:=fz_cells HBd.out.c1
     obtain ⟨u0,u1,u2,u3,u4,u5⟩:=fz_frozen HBd.out.c1
     obtain ⟨t0,t1,t2,t3,t4,t5⟩:=fz_cells HB5.out.c1
     obtain ⟨r0,r1,r2,r3,r4,r5⟩:=fz_frozen HB5.out.c1
     obtain ⟨a0,a1,a2,a3,a4,a5⟩:=SOF.out _ _ HB5.out
     clear SOF HBd HS5 HSP z0 z1 z2 z3 z4 z5 u0 u1 u2 u3 u4 u5
     go_region
     all_goals (generalize ((((((W6.setCell ⟨w.heap.size+1,0,none⟩ (.int .u32 (a:Int))).setCell ⟨w.heap.size+1,1,none⟩ (.int .u32 (n:Int))).setCell ⟨w.heap.size+1,2,none⟩ (.int .u8 15)).setCell ⟨w.heap.size+1,3,none⟩ (.int .u8 45)).setCell ⟨w.heap.size+1,4,none⟩ (.int .u32 (arg0:Int))).setCell ⟨w.heap.size+1,5,none⟩ (.int .u32 (v:Int))).drew=FW at HP ⊢)
     all_goals (have hP:=HP.out)
     all_goals (clear HP HB5 t0 t1 t2 t3 t4 t5 r0 r1 r2 r3 r4 r5 a0 a1 a2 a3 a4 a5)
     all_goals go_wp2_with fail
     all_goals exact bodyPost_ret (resFzB (p:=8) (u:=9) (by kernel_rfl) _ _ (w.heap.size+1) _ rfl hP.c1 _ rfl rfl) rfl ⟨HYN.out _ (.inl (by first|exact HO0.out rfl|exact HO0.out trivial)),hP.bw⟩
   | true =>
     have HDB:Hid (∀ W:World,Calls Tryz.prog 61 #[.int .u8 45] W fun e w'=>e=.returned (.bool true)∧Below W.heap.size W w'):=dhid (fun W=>(dbin_any 45 W (by decide)).mono (by rintro e w' ⟨h,h2⟩;exact ⟨h,h2⟩))
     go_wp2_with fail
     replace HB5:Hid (Bs w ((w2.setCell ⟨w.heap.size,3,none⟩ (.int .u8 45)).setCell ⟨w.heap.size,5,none⟩ (.int .u32 (v:Int))) ⟨a,n,15,45,arg0,v⟩ fz0):=HB5
     generalize ((w2.setCell ⟨w.heap.size,3,none⟩ (.int .u8 45)).setCell ⟨w.heap.size,5,none⟩ (.int .u32 (v:Int)))=W6 at HB5 ⊢
     clear z0 z1 z2 z3 z4 z5 u0 u1 u2 u3 u4 u5 y9 HB
     have SOF:Hid (∀ (V:World) (r:Fz),Bs w V ⟨a,n,15,45,arg0,v⟩ r→V.cell? ⟨w.heap.size,0,none⟩=some (.int .u32 (a:Int))∧V.cell? ⟨w.heap.size,1,none⟩=some (.int .u32 (n:Int))∧V.cell? ⟨w.heap.size,2,none⟩=some (.int .u8 15)∧V.cell? ⟨w.heap.size,3,none⟩=some (.int .u8 45)∧V.cell? ⟨w.heap.size,4,none⟩=some (.int .u32 (arg0:Int))∧V.cell? ⟨w.heap.size,5,none⟩=some (.int .u32 (v:Int))):=dhid (fun V r hB=>⟨(fz_cells hB.c0).1,(fz_cells hB.c0).2.1,(fz_cells hB.c0).2.2.1,(fz_cells hB.c0).2.2.2.1,(fz_cells hB.c0).2.2.2.2.1,(fz_cells hB.c0).2.2.2.2.2⟩)
     have HBd:=dhid (show Bs w W6.drew ⟨a,n,15,45,arg0,v⟩ fz0 from ⟨⟨HB5.out.bw.os,HB5.out.bw.tape,HB5.out.bw.output,HB5.out.bw.size,HB5.out.bw.block⟩,HB5.out.c0,HB5.out.c1⟩)
     have HS5:=dhid (SOF.out _ _ HBd.out)
     have HP:Hid (Bs w ((((((W6.setCell ⟨w.heap.size+1,0,none⟩ (.int .u32 (a:Int))).setCell ⟨w.heap.size+1,1,none⟩ (.int .u32 (n:Int))).setCell ⟨w.heap.size+1,2,none⟩ (.int .u8 15)).setCell ⟨w.heap.size+1,3,none⟩ (.int .u8 45)).setCell ⟨w.heap.size+1,4,none⟩ (.int .u32 (arg0:Int))).setCell ⟨w.heap.size+1,5,none⟩ (.int .u32 (v:Int))).drew ⟨a,n,15,45,arg0,v⟩ ⟨a,n,15,45,arg0,v⟩):=dhid (by have h:=(HB5.out.put ⟨a,n,15,45,arg0,v⟩).drewZ;simp only [put6] at h;exact h)
     have HSP:=dhid (SOF.out _ _ HP.out)
     obtain ⟨z0,z1,z2,z3,z4,z5⟩:=fz_cells HBd.out.c1
     obtain ⟨u0,u1,u2,u3,u4,u5⟩:=fz_frozen HBd.out.c1
     obtain ⟨t0,t1,t2,t3,t4,t5⟩:=fz_cells HB5.out.c1
     obtain ⟨r0,r1,r2,r3,r4,r5⟩:=fz_frozen HB5.out.c1
     go_region_held3 (fun V=>V.cell? ⟨w.heap.size,0,none⟩=some (.int .u32 (a:Int))∧V.cell? ⟨w.heap.size,1,none⟩=some (.int .u32 (n:Int))∧V.cell? ⟨w.heap.size,2,none⟩=some (.int .u8 15)∧V.cell? ⟨w.heap.size,3,none⟩=some (.int .u8 45)∧V.cell? ⟨w.heap.size,4,none⟩=some (.int .u32 (arg0:Int))∧V.cell? ⟨w.heap.size,5,none⟩=some (.int .u32 (v:Int))) (first|with_reducible exact HS5.out|with_reducible exact HSP.out|with_reducible exact HS3.out|with_reducible exact HSP3.out)
       (first
         | (with_reducible refine (HDB.out W6.drew).mono ?_
            rintro en w3 ⟨rfl,hb3⟩
            have HB3:Hid (Bs w w3 ⟨a,n,15,45,arg0,v⟩ fz0):=dhid (HBd.out.next hb3)
            have HS3:=dhid (SOF.out _ _ HB3.out)
            have HP3:Hid (Bs w ((((((w3.setCell ⟨w.heap.size+1,0,none⟩ (.int .u32 (a:Int))).setCell ⟨w.heap.size+1,1,none⟩ (.int .u32 (n:Int))).setCell ⟨w.heap.size+1,2,none⟩ (.int .u8 15)).setCell ⟨w.heap.size+1,3,none⟩ (.int .u8 45)).setCell ⟨w.heap.size+1,4,none⟩ (.int .u32 (arg0:Int))).setCell ⟨w.heap.size+1,5,none⟩ (.int .u32 (v:Int))) ⟨a,n,15,45,arg0,v⟩ ⟨a,n,15,45,arg0,v⟩):=dhid (by have h:=HB3.out.put ⟨a,n,15,45,arg0,v⟩;simp only [put6] at h;exact h)
            have HSP3:=dhid (SOF.out _ _ HP3.out)
            obtain ⟨x0,x1,x2,x3,x4,x5⟩:=fz_cells HB3.out.c1
            obtain ⟨s0,s1,s2,s3,s4,s5⟩:=fz_frozen HB3.out.c1
            clear hb3)
         | (with_reducible refine (HDB.out ((((((W6.setCell ⟨w.heap.size+1,0,none⟩ (.int .u32 (a:Int))).setCell ⟨w.heap.size+1,1,none⟩ (.int .u32 (n:Int))).setCell ⟨w.heap.size+1,2,none⟩ (.int .u8 15)).setCell ⟨w.heap.size+1,3,none⟩ (.int .u8 45)).setCell ⟨w.heap.size+1,4,none⟩ (.int .u32 (arg0:Int))).setCell ⟨w.heap.size+1,5,none⟩ (.int .u32 (v:Int))).drew).mono ?_
            rintro en w3 ⟨rfl,hb3⟩
            have HB4:Hid (Bs w w3 ⟨a,n,15,45,arg0,v⟩ ⟨a,n,15,45,arg0,v⟩):=dhid (HP.out.next hb3)
            have HS3:=dhid (SOF.out _ _ HB4.out)
            clear hb3))
     all_goals first
       | (have hP:=HB4.out
          clear HSP HS5 HB5 HP t0 t1 t2 t3 t4 t5 r0 r1 r2 r3 r4 r5 z0 z1 z2 z3 z4 z5 u0 u1 u2 u3 u4 u5 HB4 HS3
          go_wp2_with fail
          exact bodyPost_ret (resFzB (p:=8) (u:=9) (by kernel_rfl) _ _ (w.heap.size+1) _ rfl hP.c1 _ rfl rfl) rfl ⟨HYN.out _ (.inr (.inr rfl)),hP.bw⟩
     )
       | (generalize ((((((w3.setCell ⟨w.heap.size+1,0,none⟩ (.int .u32 (a:Int))).setCell ⟨w.heap.size+1,1,none⟩ (.int .u32 (n:Int))).setCell ⟨w.heap.size+1,2,none⟩ (.int .u8 15)).setCell ⟨w.heap.size+1,3,none⟩ (.int .u8 45)).setCell ⟨w.heap.size+1,4,none⟩ (.int .u32 (arg0:Int))).setCell ⟨w.heap.size+1,5,none⟩ (.int .u32 (v:Int)))=FW at HP3 ⊢
          have hP:=HP3.out
          clear HSP HS5 HB5 HP t0 t1 t2 t3 t4 t5 r0 r1 r2 r3 r4 r5 z0 z1 z2 z3 z4 z5 u0 u1 u2 u3 u4 u5 HB3 HS3 HSP3 HP3 x0 x1 x2 x3 x4 x5 s0 s1 s2 s3 s4 s5
          go_wp2_with fail
          exact bodyPost_ret (resFzB (p:=8) (u:=9) (by kernel_rfl) _ _ (w.heap.size+1) _ rfl hP.c1 _ rfl rfl) rfl ⟨HYN.out _ (.inr (.inr rfl)),hP.bw⟩
     )
abbrev dloc1542_any:=dl15a.1
abbrev dloc1543_any:=dl15a.2.1
abbrev dloc1544_any:=dl15a.2.2.1
abbrev dloc1545_any:=dl15a.2.2.2
end Go.Proofs.YtibhlcfligfhdaaGreat
