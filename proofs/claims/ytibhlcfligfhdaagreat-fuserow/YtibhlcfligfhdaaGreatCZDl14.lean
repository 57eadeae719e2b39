import Derived.Test.YtibhlcfligfhdaaGreatCZDi9
namespace Go.Proofs.YtibhlcfligfhdaaGreat
set_option maxHeartbeats 8000000
open Go.RowKit Go.WideShapes Go.Shelf
set_option maxRecDepth 100000
theorem dloc14b_any (ao:Option Addr) (cap a e:Nat) (L:List (Nat × Nat)) (w:World) (hL:L.length≤140737488355328) (hae:a<e) (he:e≤L.length) (_he32:e<4294967296) (hwf:Wfc L) (hr:CRd w ao L w.heap.size) (h9:(L.getD a (0,0)).1=9) :
   Calls Tryz.prog 46 #[.slice ao L.length cap,.int .i64 (a:Int),.int .i64 (e:Int),.agg (fzA ⟨a,e-a,14,0,0,0⟩)] w fun x w'=>LcP L a e 14 x∧Below w.heap.size w w':=by
 obtain ⟨b,off,rfl,hbl,hc,x0,x1,y0,y1,haL,hmL,hsub,hsubn,hwm,hwn,hwm2,hwn2,hb1,hb2,hbn,hop⟩:=lc_facts hL hae he hwf hr
 by_cases hn:¬ e=a+3
 · have HY:Hid (∀ f,LcP L a e 14 (.returned (.tuple #[.agg (fzA f),.bool false]))):=dhid (fun f=>lc_no (L:=L) (a:=a) (e:=e) (k:=14) (f:=f) (fun g hg=>hn ((lc_14 (e:=e) h9 g).1 hg).1.1))
   rw [h9] at y0
   have gn:¬ ((e-a:Nat):Int)=3:=by omega
   have gn2:(((e-a:Nat):Int) == 3)=false:=by rw [beq_eq_false_iff_ne];omega
   generalize LcP L a e 14=PP at HY ⊢
   clear h9 hn
   generalize L.getD (e-1) (0,0)=q at x0 x1 hop
   obtain ⟨op,arg⟩:=q
   generalize L.getD a (0,0)=q at y1
   obtain ⟨op0,arg0⟩:=q
   simp only at x0 x1 y1
   clear hc hwf hL he _he32 hae hr
   replace hop:=hop.out
   replace hwm:=hwm.out
   replace hwn:=hwn.out
   replace hwm2:=hwm2.out
   replace hwn2:=hwn2.out
   generalize e-1=m at *
   generalize e-a=n at *
   simp only [fzA]
   have HB5:Hid (Bs w (((w.alloc (.cells #[.int .u32 (a:Int),.int .u32 (n:Int),.int .u8 14,.int .u8 (op:Int),.int .u32 (arg0:Int),.int .u32 (arg:Int)] 28)).alloc (.cells #[.int .u32 0,.int .u32 0,.int .u8 0,.int .u8 0,.int .u32 0,.int .u32 0] 28)).alloc (Obj.cells #[.int .u8 (op:Int),.int .u32 (arg:Int)] 37)) ⟨a,n,14,op,arg0,arg⟩ fz0):=dhid ((Bs.new w ⟨a,n,14,op,arg0,arg⟩ fz0).next (bel1 _ _))
   have HI5:Hid ((((w.alloc (.cells #[.int .u32 (a:Int),.int .u32 (n:Int),.int .u8 14,.int .u8 (op:Int),.int .u32 (arg0:Int),.int .u32 (arg:Int)] 28)).alloc (.cells #[.int .u32 0,.int .u32 0,.int .u8 0,.int .u8 0,.int .u32 0,.int .u32 0] 28)).alloc (Obj.cells #[.int .u8 (op:Int),.int .u32 (arg:Int)] 37)).heap[w.heap.size+1+1]?=some (Obj.cells #[.int .u8 (op:Int),.int .u32 (arg:Int)] 37)):=dhid (by have:=heap_alloc_last ((w.alloc (.cells #[.int .u32 (a:Int),.int .u32 (n:Int),.int .u8 14,.int .u8 (op:Int),.int .u32 (arg0:Int),.int .u32 (arg:Int)] 28)).alloc (.cells #[.int .u32 0,.int .u32 0,.int .u8 0,.int .u8 0,.int .u32 0,.int .u32 0] 28)) (Obj.cells #[.int .u8 (op:Int),.int .u32 (arg:Int)] 37);simpa using this)
   go_enter Tryz.func46,Tryz.ntmps46
   go_wp2_with fail
   generalize (((w.alloc (.cells #[.int .u32 (a:Int),.int .u32 (n:Int),.int .u8 14,.int .u8 (op:Int),.int .u32 (arg0:Int),.int .u32 (arg:Int)] 28)).alloc (.cells #[.int .u32 0,.int .u32 0,.int .u8 0,.int .u8 0,.int .u32 0,.int .u32 0] 28)).alloc (Obj.cells #[.int .u8 (op:Int),.int .u32 (arg:Int)] 37))=W5 at HB5 HI5 ⊢
   have hI:w.heap.size+1+1<W5.heap.size:=(Array.getElem?_eq_some_iff.1 HI5.out).1
   have SOF:Hid (∀ (V:World) (r:Fz),Bs w V ⟨a,n,14,op,arg0,arg⟩ r→V.heap[w.heap.size+1+1]?=some (Obj.cells #[.int .u8 (op:Int),.int .u32 (arg:Int)] 37)→V.cell? ⟨w.heap.size,0,none⟩=some (.int .u32 (a:Int))∧V.cell? ⟨w.heap.size,1,none⟩=some (.int .u32 (n:Int))∧V.cell? ⟨w.heap.size,2,none⟩=some (.int .u8 14)∧V.cell? ⟨w.heap.size,3,none⟩=some (.int .u8 (op:Int))∧V.cell? ⟨w.heap.size,4,none⟩=some (.int .u32 (arg0:Int))∧V.cell? ⟨w.heap.size,5,none⟩=some (.int .u32 (arg:Int))∧V.cell? ⟨w.heap.size+1+1,0,none⟩=some (.int .u8 (op:Int))):=dhid (fun V r hB hi=>⟨(fz_cells hB.c0).1,(fz_cells hB.c0).2.1,(fz_cells hB.c0).2.2.1,(fz_cells hB.c0).2.2.2.1,(fz_cells hB.c0).2.2.2.2.1,(fz_cells hB.c0).2.2.2.2.2,obj_cell hi 0⟩)
   have HBd:=dhid (show Bs w W5.drew ⟨a,n,14,op,arg0,arg⟩ fz0 from ⟨⟨HB5.out.bw.os,HB5.out.bw.tape,HB5.out.bw.output,HB5.out.bw.size,HB5.out.bw.block⟩,HB5.out.c0,HB5.out.c1⟩)
   have HS5:=dhid (SOF.out _ _ HBd.out HI5.out)
   have HP:Hid (Bs w ((((((W5.setCell ⟨w.heap.size+1,0,none⟩ (.int .u32 (a:Int))).setCell ⟨w.heap.size+1,1,none⟩ (.int .u32 (n:Int))).setCell ⟨w.heap.size+1,2,none⟩ (.int .u8 14)).setCell ⟨w.heap.size+1,3,none⟩ (.int .u8 (op:Int))).setCell ⟨w.heap.size+1,4,none⟩ (.int .u32 (arg0:Int))).setCell ⟨w.heap.size+1,5,none⟩ (.int .u32 (arg:Int))).drew ⟨a,n,14,op,arg0,arg⟩ ⟨a,n,14,op,arg0,arg⟩):=dhid (by have h:=(HB5.out.put ⟨a,n,14,op,arg0,arg⟩).drewZ;simp only [put6] at h;exact h)
   have HIP:=dhid (((put6_any (f:=fz0) (f':=⟨a,n,14,op,arg0,arg⟩) HB5.out.c1).2.block _ hI (by omega)).trans HI5.out)
   have HSP:=dhid (SOF.out _ _ HP.out (by have h:=HIP.out;simp only [put6] at h;rw [heap_drewZ];exact h))
   obtain ⟨z0,z1,z2,z3,z4,z5⟩:=fz_cells HBd.out.c1
   obtain ⟨u0,u1,u2,u3,u4,u5⟩:=fz_frozen HBd.out.c1
   obtain ⟨t0,t1,t2,t3,t4,t5⟩:=fz_cells HB5.out.c1
   obtain ⟨r0,r1,r2,r3,r4,r5⟩:=fz_frozen HB5.out.c1
   obtain ⟨a0,a1,a2,a3,a4,a5,a6⟩:=SOF.out _ _ HB5.out HI5.out
   clear SOF HBd HS5 HSP HIP z0 z1 z2 z3 z4 z5 u0 u1 u2 u3 u4 u5
   go_region
   all_goals (generalize ((((((W5.setCell ⟨w.heap.size+1,0,none⟩ (.int .u32 (a:Int))).setCell ⟨w.heap.size+1,1,none⟩ (.int .u32 (n:Int))).setCell ⟨w.heap.size+1,2,none⟩ (.int .u8 14)).setCell ⟨w.heap.size+1,3,none⟩ (.int .u8 (op:Int))).setCell ⟨w.heap.size+1,4,none⟩ (.int .u32 (arg0:Int))).setCell ⟨w.heap.size+1,5,none⟩ (.int .u32 (arg:Int))).drew=FW at HP ⊢)
   all_goals (have hP:=HP.out)
   all_goals (clear HP HB5 t0 t1 t2 t3 t4 t5 r0 r1 r2 r3 r4 r5 a0 a1 a2 a3 a4 a5 a6)
   all_goals go_wp2_with fail
   all_goals exact bodyPost_ret (resFzB (p:=8) (u:=9) (by kernel_rfl) _ _ (w.heap.size+1) _ rfl hP.c1 _ rfl rfl) rfl ⟨HY.out _,hP.bw⟩
 replace hn:=Decidable.not_not.1 hn
 have p0:=(hc (a+1) (by omega)).1
 have hpL:((a+1:Nat):Int)<(L.length:Int):=by omega
 have hap:(a:Int)+1=((a+1:Nat):Int):=rfl
 have hwp:Hid (wrap64 ((a+1:Nat):Int)=((a+1:Nat):Int)):=dhid (wq64 (Nat.le_trans hae he) hL)
 have hwp2:Hid (IntKind.i64.wrap ((a+1:Nat):Int)=((a+1:Nat):Int)):=dhid (wi64 (Nat.le_trans hae he) hL)
 by_cases h31:¬ (L.getD (a+1) (0,0)).1=31
 · have HY:Hid (∀ f,LcP L a e 14 (.returned (.tuple #[.agg (fzA f),.bool false]))):=dhid (fun f=>lc_no (L:=L) (a:=a) (e:=e) (k:=14) (f:=f) (fun g hg=>h31 ((lc_14 (e:=e) h9 g).1 hg).1.2.1))
   rw [h9] at y0
   have gn:((e-a:Nat):Int)=3:=by omega
   generalize LcP L a e 14=PP at HY ⊢
   generalize L.getD (a+1) (0,0)=q at p0 h31
   obtain ⟨op1,arg1⟩:=q
   simp only at p0 h31
   have g31:¬ (op1:Int)=31:=by omega
   have g312:((op1:Int) == 31)=false:=by rw [beq_eq_false_iff_ne];omega
   clear h9 hn h31
   replace hwp:=hwp.out
   replace hwp2:=hwp2.out
   generalize a+1=p at *
   generalize L.getD (e-1) (0,0)=q at x0 x1 hop
   obtain ⟨op,arg⟩:=q
   generalize L.getD a (0,0)=q at y1
   obtain ⟨op0,arg0⟩:=q
   simp only at x0 x1 y1
   clear hc hwf hL he _he32 hae hr
   replace hop:=hop.out
   replace hwm:=hwm.out
   replace hwn:=hwn.out
   replace hwm2:=hwm2.out
   replace hwn2:=hwn2.out
   generalize e-1=m at *
   generalize e-a=n at *
   simp only [fzA]
   have HB5:Hid (Bs w (((w.alloc (.cells #[.int .u32 (a:Int),.int .u32 3,.int .u8 14,.int .u8 (op:Int),.int .u32 (arg0:Int),.int .u32 (arg:Int)] 28)).alloc (.cells #[.int .u32 0,.int .u32 0,.int .u8 0,.int .u8 0,.int .u32 0,.int .u32 0] 28)).alloc (Obj.cells #[.int .u8 (op:Int),.int .u32 (arg:Int)] 37)) ⟨a,3,14,op,arg0,arg⟩ fz0):=dhid ((Bs.new w ⟨a,3,14,op,arg0,arg⟩ fz0).next (bel1 _ _))
   have HI5:Hid ((((w.alloc (.cells #[.int .u32 (a:Int),.int .u32 3,.int .u8 14,.int .u8 (op:Int),.int .u32 (arg0:Int),.int .u32 (arg:Int)] 28)).alloc (.cells #[.int .u32 0,.int .u32 0,.int .u8 0,.int .u8 0,.int .u32 0,.int .u32 0] 28)).alloc (Obj.cells #[.int .u8 (op:Int),.int .u32 (arg:Int)] 37)).heap[w.heap.size+1+1]?=some (Obj.cells #[.int .u8 (op:Int),.int .u32 (arg:Int)] 37)):=dhid (by have:=heap_alloc_last ((w.alloc (.cells #[.int .u32 (a:Int),.int .u32 3,.int .u8 14,.int .u8 (op:Int),.int .u32 (arg0:Int),.int .u32 (arg:Int)] 28)).alloc (.cells #[.int .u32 0,.int .u32 0,.int .u8 0,.int .u8 0,.int .u32 0,.int .u32 0] 28)) (Obj.cells #[.int .u8 (op:Int),.int .u32 (arg:Int)] 37);simpa using this)
   go_enter Tryz.func46,Tryz.ntmps46
   go_wp2_with fail
   generalize (((w.alloc (.cells #[.int .u32 (a:Int),.int .u32 3,.int .u8 14,.int .u8 (op:Int),.int .u32 (arg0:Int),.int .u32 (arg:Int)] 28)).alloc (.cells #[.int .u32 0,.int .u32 0,.int .u8 0,.int .u8 0,.int .u32 0,.int .u32 0] 28)).alloc (Obj.cells #[.int .u8 (op:Int),.int .u32 (arg:Int)] 37))=W5 at HB5 HI5 ⊢
   have hI:w.heap.size+1+1<W5.heap.size:=(Array.getElem?_eq_some_iff.1 HI5.out).1
   have SOF:Hid (∀ (V:World) (r:Fz),Bs w V ⟨a,3,14,op,arg0,arg⟩ r→V.heap[w.heap.size+1+1]?=some (Obj.cells #[.int .u8 (op:Int),.int .u32 (arg:Int)] 37)→V.cell? ⟨w.heap.size,0,none⟩=some (.int .u32 (a:Int))∧V.cell? ⟨w.heap.size,1,none⟩=some (.int .u32 3)∧V.cell? ⟨w.heap.size,2,none⟩=some (.int .u8 14)∧V.cell? ⟨w.heap.size,3,none⟩=some (.int .u8 (op:Int))∧V.cell? ⟨w.heap.size,4,none⟩=some (.int .u32 (arg0:Int))∧V.cell? ⟨w.heap.size,5,none⟩=some (.int .u32 (arg:Int))∧V.cell? ⟨w.heap.size+1+1,0,none⟩=some (.int .u8 (op:Int))∧V.cell? ⟨b,off+p*2,none⟩=some (.int .u8 (op1:Int))):=dhid (fun V r hB hi=>⟨(fz_cells hB.c0).1,(fz_cells hB.c0).2.1,(fz_cells hB.c0).2.2.1,(fz_cells hB.c0).2.2.2.1,(fz_cells hB.c0).2.2.2.2.1,(fz_cells hB.c0).2.2.2.2.2,obj_cell hi 0,(hB.bw.cell (p:=⟨b,off+p*2,none⟩) hbl).trans p0⟩)
   have HBd:=dhid (show Bs w W5.drew ⟨a,3,14,op,arg0,arg⟩ fz0 from ⟨⟨HB5.out.bw.os,HB5.out.bw.tape,HB5.out.bw.output,HB5.out.bw.size,HB5.out.bw.block⟩,HB5.out.c0,HB5.out.c1⟩)
   have HS5:=dhid (SOF.out _ _ HBd.out HI5.out)
   have HP:Hid (Bs w ((((((W5.setCell ⟨w.heap.size+1,0,none⟩ (.int .u32 (a:Int))).setCell ⟨w.heap.size+1,1,none⟩ (.int .u32 3)).setCell ⟨w.heap.size+1,2,none⟩ (.int .u8 14)).setCell ⟨w.heap.size+1,3,none⟩ (.int .u8 (op:Int))).setCell ⟨w.heap.size+1,4,none⟩ (.int .u32 (arg0:Int))).setCell ⟨w.heap.size+1,5,none⟩ (.int .u32 (arg:Int))).drew ⟨a,3,14,op,arg0,arg⟩ ⟨a,3,14,op,arg0,arg⟩):=dhid (by have h:=(HB5.out.put ⟨a,3,14,op,arg0,arg⟩).drewZ;simp only [put6] at h;exact h)
   have HIP:=dhid (((put6_any (f:=fz0) (f':=⟨a,3,14,op,arg0,arg⟩) HB5.out.c1).2.block _ hI (by omega)).trans HI5.out)
   have HSP:=dhid (SOF.out _ _ HP.out (by have h:=HIP.out;simp only [put6] at h;rw [heap_drewZ];exact h))
   obtain ⟨z0,z1,z2,z3,z4,z5⟩:=fz_cells HBd.out.c1
   obtain ⟨u0,u1,u2,u3,u4,u5⟩:=fz_frozen HBd.out.c1
   obtain ⟨t0,t1,t2,t3,t4,t5⟩:=fz_cells HB5.out.c1
   obtain ⟨r0,r1,r2,r3,r4,r5⟩:=fz_frozen HB5.out.c1
   obtain ⟨a0,a1,a2,a3,a4,a5,a6,a7⟩:=SOF.out _ _ HB5.out HI5.out
   clear SOF HBd HS5 HSP HIP z0 z1 z2 z3 z4 z5 u0 u1 u2 u3 u4 u5
   go_region
   all_goals (generalize ((((((W5.setCell ⟨w.heap.size+1,0,none⟩ (.int .u32 (a:Int))).setCell ⟨w.heap.size+1,1,none⟩ (.int .u32 3)).setCell ⟨w.heap.size+1,2,none⟩ (.int .u8 14)).setCell ⟨w.heap.size+1,3,none⟩ (.int .u8 (op:Int))).setCell ⟨w.heap.size+1,4,none⟩ (.int .u32 (arg0:Int))).setCell ⟨w.heap.size+1,5,none⟩ (.int .u32 (arg:Int))).drew=FW at HP ⊢)
   all_goals (have hP:=HP.out)
   all_goals (clear HP HB5 t0 t1 t2 t3 t4 t5 r0 r1 r2 r3 r4 r5 a0 a1 a2 a3 a4 a5 a6 a7)
   all_goals go_wp2_with fail
   all_goals exact bodyPost_ret (resFzB (p:=8) (u:=9) (by kernel_rfl) _ _ (w.heap.size+1) _ rfl hP.c1 _ rfl rfl) rfl ⟨HY.out _,hP.bw⟩
 replace h31:=Decidable.not_not.1 h31
 have HY:Hid (LcP L a e 14 (.returned (.tuple #[.agg (fzA ⟨a,3,14,(L.getD (e-1) (0,0)).1,(L.getD a (0,0)).2,(L.getD (e-1) (0,0)).2⟩),.bool (dBra (L.getD (e-1) (0,0)).1)]))):=dhid (lc_yes (fun g=>by rw [lc_14 h9 g,show e-1=a+2 by omega,h31];simp [hn]))
 rw [h9] at y0
 rw [h31] at p0
 have gn:((e-a:Nat):Int)=3:=by omega
 generalize LcP L a e 14=PP at HY ⊢
 clear h9 hn h31
 replace hwp:=hwp.out
 replace hwp2:=hwp2.out
 generalize a+1=p at *
 generalize L.getD (e-1) (0,0)=q at x0 x1 hop HY
 obtain ⟨op,arg⟩:=q
 generalize L.getD a (0,0)=q at y1 HY
 obtain ⟨op0,arg0⟩:=q
 simp only at x0 x1 y1 HY
 clear hc hwf hL he _he32 hae hr
 replace hop:=hop.out
 replace hwm:=hwm.out
 replace hwn:=hwn.out
 replace hwm2:=hwm2.out
 replace hwn2:=hwn2.out
 generalize e-1=m at *
 generalize e-a=n at *
 simp only [fzA]
 have HB5:Hid (Bs w (((w.alloc (.cells #[.int .u32 (a:Int),.int .u32 3,.int .u8 14,.int .u8 (op:Int),.int .u32 (arg0:Int),.int .u32 (arg:Int)] 28)).alloc (.cells #[.int .u32 0,.int .u32 0,.int .u8 0,.int .u8 0,.int .u32 0,.int .u32 0] 28)).alloc (Obj.cells #[.int .u8 (op:Int),.int .u32 (arg:Int)] 37)) ⟨a,3,14,op,arg0,arg⟩ fz0):=dhid ((Bs.new w ⟨a,3,14,op,arg0,arg⟩ fz0).next (bel1 _ _))
 have HI5:Hid ((((w.alloc (.cells #[.int .u32 (a:Int),.int .u32 3,.int .u8 14,.int .u8 (op:Int),.int .u32 (arg0:Int),.int .u32 (arg:Int)] 28)).alloc (.cells #[.int .u32 0,.int .u32 0,.int .u8 0,.int .u8 0,.int .u32 0,.int .u32 0] 28)).alloc (Obj.cells #[.int .u8 (op:Int),.int .u32 (arg:Int)] 37)).heap[w.heap.size+1+1]?=some (Obj.cells #[.int .u8 (op:Int),.int .u32 (arg:Int)] 37)):=dhid (by have:=heap_alloc_last ((w.alloc (.cells #[.int .u32 (a:Int),.int .u32 3,.int .u8 14,.int .u8 (op:Int),.int .u32 (arg0:Int),.int .u32 (arg:Int)] 28)).alloc (.cells #[.int .u32 0,.int .u32 0,.int .u8 0,.int .u8 0,.int .u32 0,.int .u32 0] 28)) (Obj.cells #[.int .u8 (op:Int),.int .u32 (arg:Int)] 37);simpa using this)
 have HDB:=dhid (fun W=>dbra_any op W hop)
 generalize dBra op=okd at HDB HY
 go_enter Tryz.func46,Tryz.ntmps46
 go_wp2_with fail
 generalize (((w.alloc (.cells #[.int .u32 (a:Int),.int .u32 3,.int .u8 14,.int .u8 (op:Int),.int .u32 (arg0:Int),.int .u32 (arg:Int)] 28)).alloc (.cells #[.int .u32 0,.int .u32 0,.int .u8 0,.int .u8 0,.int .u32 0,.int .u32 0] 28)).alloc (Obj.cells #[.int .u8 (op:Int),.int .u32 (arg:Int)] 37))=W5 at HB5 HI5 ⊢
 have hI:w.heap.size+1+1<W5.heap.size:=(Array.getElem?_eq_some_iff.1 HI5.out).1
 have SOF:Hid (∀ (V:World) (r:Fz),Bs w V ⟨a,3,14,op,arg0,arg⟩ r→V.heap[w.heap.size+1+1]?=some (Obj.cells #[.int .u8 (op:Int),.int .u32 (arg:Int)] 37)→V.cell? ⟨w.heap.size,0,none⟩=some (.int .u32 (a:Int))∧V.cell? ⟨w.heap.size,1,none⟩=some (.int .u32 3)∧V.cell? ⟨w.heap.size,2,none⟩=some (.int .u8 14)∧V.cell? ⟨w.heap.size,3,none⟩=some (.int .u8 (op:Int))∧V.cell? ⟨w.heap.size,4,none⟩=some (.int .u32 (arg0:Int))∧V.cell? ⟨w.heap.size,5,none⟩=some (.int .u32 (arg:Int))∧V.cell? ⟨w.heap.size+1+1,0,none⟩=some (.int .u8 (op:Int))∧V.cell? ⟨b,off+p*2,none⟩=some (.int .u8 31)):=dhid (fun V r hB hi=>⟨(fz_cells hB.c0).1,(fz_cells hB.c0).2.1,(fz_cells hB.c0).2.2.1,(fz_cells hB.c0).2.2.2.1,(fz_cells hB.c0).2.2.2.2.1,(fz_cells hB.c0).2.2.2.2.2,obj_cell hi 0,(hB.bw.cell (p:=⟨b,off+p*2,none⟩) hbl).trans p0⟩)
 have HBd:=dhid (show Bs w W5.drew ⟨a,3,14,op,arg0,arg⟩ fz0 from ⟨⟨HB5.out.bw.os,HB5.out.bw.tape,HB5.out.bw.output,HB5.out.bw.size,HB5.out.bw.block⟩,HB5.out.c0,HB5.out.c1⟩)
 have HS5:=dhid (SOF.out _ _ HBd.out HI5.out)
 have HP:Hid (Bs w ((((((W5.setCell ⟨w.heap.size+1,0,none⟩ (.int .u32 (a:Int))).setCell ⟨w.heap.size+1,1,none⟩ (.int .u32 3)).setCell ⟨w.heap.size+1,2,none⟩ (.int .u8 14)).setCell ⟨w.heap.size+1,3,none⟩ (.int .u8 (op:Int))).setCell ⟨w.heap.size+1,4,none⟩ (.int .u32 (arg0:Int))).setCell ⟨w.heap.size+1,5,none⟩ (.int .u32 (arg:Int))).drew ⟨a,3,14,op,arg0,arg⟩ ⟨a,3,14,op,arg0,arg⟩):=dhid (by have h:=(HB5.out.put ⟨a,3,14,op,arg0,arg⟩).drewZ;simp only [put6] at h;exact h)
 have HIP:=dhid (((put6_any (f:=fz0) (f':=⟨a,3,14,op,arg0,arg⟩) HB5.out.c1).2.block _ hI (by omega)).trans HI5.out)
 have HSP:=dhid (SOF.out _ _ HP.out (by have h:=HIP.out;simp only [put6] at h;rw [heap_drewZ];exact h))
 obtain ⟨z0,z1,z2,z3,z4,z5⟩:=fz_cells HBd.out.c1
 obtain ⟨u0,u1,u2,u3,u4,u5⟩:=fz_frozen HBd.out.c1
 obtain ⟨t0,t1,t2,t3,t4,t5⟩:=fz_cells HB5.out.c1
 obtain ⟨r0,r1,r2,r3,r4,r5⟩:=fz_frozen HB5.out.c1
 go_region_held3 (fun V=>V.cell? ⟨w.heap.size,0,none⟩=some (.int .u32 (a:Int))∧V.cell? ⟨w.heap.size,1,none⟩=some (.int .u32 3)∧V.cell? ⟨w.heap.size,2,none⟩=some (.int .u8 14)∧V.cell? ⟨w.heap.size,3,none⟩=some (.int .u8 (op:Int))∧V.cell? ⟨w.heap.size,4,none⟩=some (.int .u32 (arg0:Int))∧V.cell? ⟨w.heap.size,5,none⟩=some (.int .u32 (arg:Int))∧V.cell? ⟨w.heap.size+1+1,0,none⟩=some (.int .u8 (op:Int))∧V.cell? ⟨b,off+p*2,none⟩=some (.int .u8 31)) (first|with_reducible exact HS5.out|with_reducible exact HSP.out|with_reducible exact HS3.out|with_reducible exact HSP3.out)
   (first
     | (with_reducible refine (HDB.out W5.drew).mono ?_
        rintro en w3 ⟨rfl,hb3⟩
        have HB3:Hid (Bs w w3 ⟨a,3,14,op,arg0,arg⟩ fz0):=dhid (HBd.out.next hb3)
        have HI3:Hid (w3.heap[w.heap.size+1+1]?=some (Obj.cells #[.int .u8 (op:Int),.int .u32 (arg:Int)] 37)):=dhid ((hb3.block _ hI).trans HI5.out)
        have HS3:=dhid (SOF.out _ _ HB3.out HI3.out)
        have HP3:Hid (Bs w ((((((w3.setCell ⟨w.heap.size+1,0,none⟩ (.int .u32 (a:Int))).setCell ⟨w.heap.size+1,1,none⟩ (.int .u32 3)).setCell ⟨w.heap.size+1,2,none⟩ (.int .u8 14)).setCell ⟨w.heap.size+1,3,none⟩ (.int .u8 (op:Int))).setCell ⟨w.heap.size+1,4,none⟩ (.int .u32 (arg0:Int))).setCell ⟨w.heap.size+1,5,none⟩ (.int .u32 (arg:Int))) ⟨a,3,14,op,arg0,arg⟩ ⟨a,3,14,op,arg0,arg⟩):=dhid (by have h:=HB3.out.put ⟨a,3,14,op,arg0,arg⟩;simp only [put6] at h;exact h)
        have HSP3:=dhid (SOF.out _ _ HP3.out (by have h:=((put6_any (f:=fz0) (f':=⟨a,3,14,op,arg0,arg⟩) HB3.out.c1).2.block _ (Array.getElem?_eq_some_iff.1 HI3.out).1 (by omega)).trans HI3.out;simp only [put6] at h;exact h))
        obtain ⟨x0,x1,x2,x3,x4,x5⟩:=fz_cells HB3.out.c1
        obtain ⟨s0,s1,s2,s3,s4,s5⟩:=fz_frozen HB3.out.c1
        clear hb3)
     | (with_reducible refine (HDB.out ((((((W5.setCell ⟨w.heap.size+1,0,none⟩ (.int .u32 (a:Int))).setCell ⟨w.heap.size+1,1,none⟩ (.int .u32 3)).setCell ⟨w.heap.size+1,2,none⟩ (.int .u8 14)).setCell ⟨w.heap.size+1,3,none⟩ (.int .u8 (op:Int))).setCell ⟨w.heap.size+1,4,none⟩ (.int .u32 (arg0:Int))).setCell ⟨w.heap.size+1,5,none⟩ (.int .u32 (arg:Int))).drew).mono ?_
        rintro en w3 ⟨rfl,hb3⟩
        have HB4:Hid (Bs w w3 ⟨a,3,14,op,arg0,arg⟩ ⟨a,3,14,op,arg0,arg⟩):=dhid (HP.out.next hb3)
        have HI3:Hid (w3.heap[w.heap.size+1+1]?=some (Obj.cells #[.int .u8 (op:Int),.int .u32 (arg:Int)] 37)):=dhid (by have h:=HIP.out;simp only [put6] at h;rw [←heap_drewZ] at h;exact (hb3.block _ (Array.getElem?_eq_some_iff.1 h).1).trans h)
        have HS3:=dhid (SOF.out _ _ HB4.out HI3.out)
        clear hb3))
 all_goals first
   | (have hP:=HB4.out
      clear HSP HS5 HB5 HP HI5 HIP HI3 t0 t1 t2 t3 t4 t5 r0 r1 r2 r3 r4 r5 z0 z1 z2 z3 z4 z5 u0 u1 u2 u3 u4 u5 HB4 HS3
      go_wp2_with fail
      exact bodyPost_ret (resFzB (p:=8) (u:=9) (by kernel_rfl) _ _ (w.heap.size+1) _ rfl hP.c1 _ rfl rfl) rfl ⟨HY.out,hP.bw⟩
 )
   | (generalize ((((((w3.setCell ⟨w.heap.size+1,0,none⟩ (.int .u32 (a:Int))).setCell ⟨w.heap.size+1,1,none⟩ (.int .u32 3)).setCell ⟨w.heap.size+1,2,none⟩ (.int .u8 14)).setCell ⟨w.heap.size+1,3,none⟩ (.int .u8 (op:Int))).setCell ⟨w.heap.size+1,4,none⟩ (.int .u32 (arg0:Int))).setCell ⟨w.heap.size+1,5,none⟩ (.int .u32 (arg:Int)))=FW at HP3 ⊢
      have hP:=HP3.out
      clear HSP HS5 HB5 HP HI5 HIP HI3 t0 t1 t2 t3 t4 t5 r0 r1 r2 r3 r4 r5 z0 z1 z2 z3 z4 z5 u0 u1 u2 u3 u4 u5 HB3 HS3 HSP3 HP3 x0 x1 x2 x3 x4 x5 s0 s1 s2 s3 s4 s5
      go_wp2_with fail
      exact bodyPost_ret (resFzB (p:=8) (u:=9) (by kernel_rfl) _ _ (w.heap.size+1) _ rfl hP.c1 _ rfl rfl) rfl ⟨HY.out,hP.bw⟩
 )
theorem dloc14_any (ao:Option Addr) (cap a e:Nat) (L:List (Nat × Nat)) (w:World) (hL:L.length≤140737488355328) (hae:a<e) (he:e≤L.length) (he32:e<4294967296) (hwf:Wfc L) (hr:CRd w ao L w.heap.size) :
   Calls Tryz.prog 46 #[.slice ao L.length cap,.int .i64 (a:Int),.int .i64 (e:Int),.agg (fzA ⟨a,e-a,14,0,0,0⟩)] w fun x w'=>LcP L a e 14 x∧Below w.heap.size w w':=by
 by_cases h9:(L.getD a (0,0)).1=9
 · exact dloc14b_any ao cap a e L w hL hae he he32 hwf hr h9
 · exact dlocN_any ao cap a e 14 L w hL hae he he32 hwf hr h9
theorem dloc15a_any (ao:Option Addr) (cap a e:Nat) (L:List (Nat × Nat)) (w:World) (hL:L.length≤140737488355328) (hae:a<e) (he:e≤L.length) (_he32:e<4294967296) (hwf:Wfc L) (hr:CRd w ao L w.heap.size) (h9:(L.getD a (0,0)).1=9) (hno:∀ g,¬ LcD L a e 15 g) (hn:e<a+6) :
   Calls Tryz.prog 46 #[.slice ao L.length cap,.int .i64 (a:Int),.int .i64 (e:Int),.agg (fzA ⟨a,e-a,15,0,0,0⟩)] w fun x w'=>LcP L a e 15 x∧Below w.heap.size w w':=by
 obtain ⟨b,off,rfl,hbl,hc,x0,x1,y0,y1,haL,hmL,hsub,hsubn,hwm,hwn,hwm2,hwn2,hb1,hb2,hbn,hop⟩:=lc_facts hL hae he hwf hr
 have HY:Hid (∀ f,LcP L a e 15 (.returned (.tuple #[.agg (fzA f),.bool false]))):=dhid (fun f=>lc_no (L:=L) (a:=a) (e:=e) (k:=15) (f:=f) (fun g hg=>hno g hg))
 generalize LcP L a e 15=PP at HY ⊢
 rw [h9] at y0
 have gn:((e-a:Nat):Int)<6:=by omega
 have gn2:e-a<6:=by omega
 clear h9 hn hno
 generalize L.getD (e-1) (0,0)=q at x0 x1 hop
 obtain ⟨op,arg⟩:=q
 generalize L.getD a (0,0)=q at y1
 obtain ⟨op0,arg0⟩:=q
 simp only at x0 x1 y1
 clear hc hwf hL he _he32 hae hr
 replace hop:=hop.out
 replace hwm:=hwm.out
 replace hwn:=hwn.out
 replace hwm2:=hwm2.out
 replace hwn2:=hwn2.out
 generalize e-1=m at *
 generalize e-a=n at *
 simp only [fzA]
 have HB5:Hid (Bs w (((w.alloc (.cells #[.int .u32 (a:Int),.int .u32 (n:Int),.int .u8 15,.int .u8 (op:Int),.int .u32 (arg0:Int),.int .u32 0] 28)).alloc (.cells #[.int .u32 0,.int .u32 0,.int .u8 0,.int .u8 0,.int .u32 0,.int .u32 0] 28)).alloc (Obj.cells #[.int .u8 (op:Int),.int .u32 (arg:Int)] 37)) ⟨a,n,15,op,arg0,0⟩ fz0):=dhid ((Bs.new w ⟨a,n,15,op,arg0,0⟩ fz0).next (bel1 _ _))
 have HI5:Hid ((((w.alloc (.cells #[.int .u32 (a:Int),.int .u32 (n:Int),.int .u8 15,.int .u8 (op:Int),.int .u32 (arg0:Int),.int .u32 0] 28)).alloc (.cells #[.int .u32 0,.int .u32 0,.int .u8 0,.int .u8 0,.int .u32 0,.int .u32 0] 28)).alloc (Obj.cells #[.int .u8 (op:Int),.int .u32 (arg:Int)] 37)).heap[w.heap.size+1+1]?=some (Obj.cells #[.int .u8 (op:Int),.int .u32 (arg:Int)] 37)):=dhid (by have:=heap_alloc_last ((w.alloc (.cells #[.int .u32 (a:Int),.int .u32 (n:Int),.int .u8 15,.int .u8 (op:Int),.int .u32 (arg0:Int),.int .u32 0] 28)).alloc (.cells #[.int .u32 0,.int .u32 0,.int .u8 0,.int .u8 0,.int .u32 0,.int .u32 0] 28)) (Obj.cells #[.int .u8 (op:Int),.int .u32 (arg:Int)] 37);simpa using this)
 go_enter Tryz.func46,Tryz.ntmps46
 go_wp2_with fail
 generalize (((w.alloc (.cells #[.int .u32 (a:Int),.int .u32 (n:Int),.int .u8 15,.int .u8 (op:Int),.int .u32 (arg0:Int),.int .u32 0] 28)).alloc (.cells #[.int .u32 0,.int .u32 0,.int .u8 0,.int .u8 0,.int .u32 0,.int .u32 0] 28)).alloc (Obj.cells #[.int .u8 (op:Int),.int .u32 (arg:Int)] 37))=W5 at HB5 HI5 ⊢
 have HBd:=dhid (fun q=>(show Bs w (W5.drewN q) ⟨a,n,15,op,arg0,0⟩ fz0 from ⟨⟨HB5.out.bw.os,HB5.out.bw.tape,HB5.out.bw.output,HB5.out.bw.size,HB5.out.bw.block⟩,HB5.out.c0,HB5.out.c1⟩))
 obtain ⟨a0,a1,a2,a3,a4,a5⟩:=fz_cells HB5.out.c0
 have i0:W5.cell? ⟨w.heap.size+1+1,0,none⟩=some (.int .u8 (op:Int)):=obj_cell HI5.out 0
 simp only at a0 a1 a2 a3 a4 a5
 go_big_quiet (fail)
 go_wp2_with (refine wpList_storeF rfl _ _ rfl (w.heap.size+1) fz0 ⟨a,n,15,op,arg0,0⟩ rfl rfl (HBd.out _).c1 ?_)
 exact bodyPost_ret (resFzB (p:=8) (u:=9) (by kernel_rfl) _ _ (w.heap.size+1) _ rfl (setRow_heap _ _ _ _ _ _ (HBd.out _).c1) _ rfl rfl) rfl ⟨HY.out _,((HBd.out _).row ⟨a,n,15,op,arg0,0⟩).bw⟩
theorem dloc15b_any (ao:Option Addr) (cap a e:Nat) (L:List (Nat × Nat)) (w:World) (hL:L.length≤140737488355328) (hae:a<e) (he:e≤L.length) (_he32:e<4294967296) (hwf:Wfc L) (hr:CRd w ao L w.heap.size) (h9:(L.getD a (0,0)).1=9) (hno:∀ g,¬ LcD L a e 15 g) (hn:¬ e<a+6) (hx:¬ L.getD (a+1) (0,0)=L.getD a (0,0)) :
   Calls Tryz.prog 46 #[.slice ao L.length cap,.int .i64 (a:Int),.int .i64 (e:Int),.agg (fzA ⟨a,e-a,15,0,0,0⟩)] w fun x w'=>LcP L a e 15 x∧Below w.heap.size w w':=by
 obtain ⟨b,off,rfl,hbl,hc,x0,x1,y0,y1,haL,hmL,hsub,hsubn,hwm,hwn,hwm2,hwn2,hb1,hb2,hbn,hop⟩:=lc_facts hL hae he hwf hr
 have HY:Hid (∀ f,LcP L a e 15 (.returned (.tuple #[.agg (fzA f),.bool false]))):=dhid (fun f=>lc_no (L:=L) (a:=a) (e:=e) (k:=15) (f:=f) (fun g hg=>hno g hg))
 generalize LcP L a e 15=PP at HY ⊢
 obtain ⟨n0,n1,m0,hpL,hqL,hap,haq,hwp,hwp2,hwq,hwq2,gn⟩:=lc_cells hL he hn hc
 rw [h9] at y0
 generalize L.getD (e-1) (0,0)=q at x0 x1 hop
 obtain ⟨op,arg⟩:=q
 generalize L.getD a (0,0)=q at y1 h9 hx
 obtain ⟨op0,arg0⟩:=q
 generalize L.getD (a+1) (0,0)=q at n0 n1 hx
 obtain ⟨op1,arg1⟩:=q
 generalize L.getD (a+2) (0,0)=q at m0
 obtain ⟨op2,arg2⟩:=q
 simp only at x0 x1 y1 n0 n1 m0 h9
 subst h9
 by_cases hx1:op1=9
 · subst hx1
   have hx2:¬ (arg1:Int)=(arg0:Int):=fun h=>hx (by rw [show arg1=arg0 by omega])
   have hx3:((arg1:Int) == (arg0:Int))=false:=beq_eq_false_iff_ne.2 hx2
   have hx4:¬ arg1=arg0:=fun h=>hx2 (by rw [h])
   clear hc hwf hL he _he32 hae hr hn hno hx
   replace hop:=hop.out
   replace hwm:=hwm.out
   replace hwn:=hwn.out
   replace hwm2:=hwm2.out
   replace hwn2:=hwn2.out
   generalize e-1=m at *
   replace hwp:=hwp.out
   replace hwp2:=hwp2.out
   replace hwq:=hwq.out
   replace hwq2:=hwq2.out
   have gn3:decide (((e-a:Nat):Int)<6)=false:=decide_eq_false gn
   clear gn
   generalize e-a=n at *
   generalize a+1=p at *
   generalize a+2=p2 at *
   simp only [fzA]
   have HB5:Hid (Bs w (((w.alloc (.cells #[.int .u32 (a:Int),.int .u32 (n:Int),.int .u8 15,.int .u8 (op:Int),.int .u32 (arg0:Int),.int .u32 0] 28)).alloc (.cells #[.int .u32 0,.int .u32 0,.int .u8 0,.int .u8 0,.int .u32 0,.int .u32 0] 28)).alloc (Obj.cells #[.int .u8 (op:Int),.int .u32 (arg:Int)] 37)) ⟨a,n,15,op,arg0,0⟩ fz0):=dhid ((Bs.new w ⟨a,n,15,op,arg0,0⟩ fz0).next (bel1 _ _))
   have HI5:Hid ((((w.alloc (.cells #[.int .u32 (a:Int),.int .u32 (n:Int),.int .u8 15,.int .u8 (op:Int),.int .u32 (arg0:Int),.int .u32 0] 28)).alloc (.cells #[.int .u32 0,.int .u32 0,.int .u8 0,.int .u8 0,.int .u32 0,.int .u32 0] 28)).alloc (Obj.cells #[.int .u8 (op:Int),.int .u32 (arg:Int)] 37)).heap[w.heap.size+1+1]?=some (Obj.cells #[.int .u8 (op:Int),.int .u32 (arg:Int)] 37)):=dhid (by have:=heap_alloc_last ((w.alloc (.cells #[.int .u32 (a:Int),.int .u32 (n:Int),.int .u8 15,.int .u8 (op:Int),.int .u32 (arg0:Int),.int .u32 0] 28)).alloc (.cells #[.int .u32 0,.int .u32 0,.int .u8 0,.int .u8 0,.int .u32 0,.int .u32 0] 28)) (Obj.cells #[.int .u8 (op:Int),.int .u32 (arg:Int)] 37);simpa using this)
   go_enter Tryz.func46,Tryz.ntmps46
   go_wp2_with fail
   generalize (((w.alloc (.cells #[.int .u32 (a:Int),.int .u32 (n:Int),.int .u8 15,.int .u8 (op:Int),.int .u32 (arg0:Int),.int .u32 0] 28)).alloc (.cells #[.int .u32 0,.int .u32 0,.int .u8 0,.int .u8 0,.int .u32 0,.int .u32 0] 28)).alloc (Obj.cells #[.int .u8 (op:Int),.int .u32 (arg:Int)] 37))=W5 at HB5 HI5 ⊢
   have HBd:=dhid (fun q=>(show Bs w (W5.drewN q) ⟨a,n,15,op,arg0,0⟩ fz0 from ⟨⟨HB5.out.bw.os,HB5.out.bw.tape,HB5.out.bw.output,HB5.out.bw.size,HB5.out.bw.block⟩,HB5.out.c0,HB5.out.c1⟩))
   obtain ⟨a0,a1,a2,a3,a4,a5⟩:=fz_cells HB5.out.c0
   have i0:W5.cell? ⟨w.heap.size+1+1,0,none⟩=some (.int .u8 (op:Int)):=obj_cell HI5.out 0
   simp only at a0 a1 a2 a3 a4 a5
   have k0:=(HB5.out.bw.cell (p:=⟨b,off+a*2,none⟩) hbl).trans y0
   have k1:=(HB5.out.bw.cell (p:=⟨b,off+a*2+1,none⟩) hbl).trans y1
   have k2:=(HB5.out.bw.cell (p:=⟨b,off+p*2,none⟩) hbl).trans n0
   have k3:=(HB5.out.bw.cell (p:=⟨b,off+p*2+1,none⟩) hbl).trans n1
   have k4:=(HB5.out.bw.cell (p:=⟨b,off+p2*2,none⟩) hbl).trans m0
   go_big_quiet (fail)
   go_wp2_with (refine wpList_storeF rfl _ _ rfl (w.heap.size+1) fz0 ⟨a,n,15,op,arg0,0⟩ rfl rfl (HBd.out _).c1 ?_)
   exact bodyPost_ret (resFzB (p:=8) (u:=9) (by kernel_rfl) _ _ (w.heap.size+1) _ rfl (setRow_heap _ _ _ _ _ _ (HBd.out _).c1) _ rfl rfl) rfl ⟨HY.out _,((HBd.out _).row ⟨a,n,15,op,arg0,0⟩).bw⟩
 · have hx2:¬ (op1:Int)=9:=by omega
   have hx3:((op1:Int) == 9)=false:=beq_eq_false_iff_ne.2 hx2
   clear hc hwf hL he _he32 hae hr hn hno hx
   replace hop:=hop.out
   replace hwm:=hwm.out
   replace hwn:=hwn.out
   replace hwm2:=hwm2.out
   replace hwn2:=hwn2.out
   generalize e-1=m at *
   replace hwp:=hwp.out
   replace hwp2:=hwp2.out
   replace hwq:=hwq.out
   replace hwq2:=hwq2.out
   have gn3:decide (((e-a:Nat):Int)<6)=false:=decide_eq_false gn
   clear gn
   generalize e-a=n at *
   generalize a+1=p at *
   generalize a+2=p2 at *
   simp only [fzA]
   have HB5:Hid (Bs w (((w.alloc (.cells #[.int .u32 (a:Int),.int .u32 (n:Int),.int .u8 15,.int .u8 (op:Int),.int .u32 (arg0:Int),.int .u32 0] 28)).alloc (.cells #[.int .u32 0,.int .u32 0,.int .u8 0,.int .u8 0,.int .u32 0,.int .u32 0] 28)).alloc (Obj.cells #[.int .u8 (op:Int),.int .u32 (arg:Int)] 37)) ⟨a,n,15,op,arg0,0⟩ fz0):=dhid ((Bs.new w ⟨a,n,15,op,arg0,0⟩ fz0).next (bel1 _ _))
   have HI5:Hid ((((w.alloc (.cells #[.int .u32 (a:Int),.int .u32 (n:Int),.int .u8 15,.int .u8 (op:Int),.int .u32 (arg0:Int),.int .u32 0] 28)).alloc (.cells #[.int .u32 0,.int .u32 0,.int .u8 0,.int .u8 0,.int .u32 0,.int .u32 0] 28)).alloc (Obj.cells #[.int .u8 (op:Int),.int .u32 (arg:Int)] 37)).heap[w.heap.size+1+1]?=some (Obj.cells #[.int .u8 (op:Int),.int .u32 (arg:Int)] 37)):=dhid (by have:=heap_alloc_last ((w.alloc (.cells #[.int .u32 (a:Int),.int .u32 (n:Int),.int .u8 15,.int .u8 (op:Int),.int .u32 (arg0:Int),.int .u32 0] 28)).alloc (.cells #[.int .u32 0,.int .u32 0,.int .u8 0,.int .u8 0,.int .u32 0,.int .u32 0] 28)) (Obj.cells #[.int .u8 (op:Int),.int .u32 (arg:Int)] 37);simpa using this)
   go_enter Tryz.func46,Tryz.ntmps46
   go_wp2_with fail
   generalize (((w.alloc (.cells #[.int .u32 (a:Int),.int .u32 (n:Int),.int .u8 15,.int .u8 (op:Int),.int .u32 (arg0:Int),.int .u32 0] 28)).alloc (.cells #[.int .u32 0,.int .u32 0,.int .u8 0,.int .u8 0,.int .u32 0,.int .u32 0] 28)).alloc (Obj.cells #[.int .u8 (op:Int),.int .u32 (arg:Int)] 37))=W5 at HB5 HI5 ⊢
   have HBd:=dhid (fun q=>(show Bs w (W5.drewN q) ⟨a,n,15,op,arg0,0⟩ fz0 from ⟨⟨HB5.out.bw.os,HB5.out.bw.tape,HB5.out.bw.output,HB5.out.bw.size,HB5.out.bw.block⟩,HB5.out.c0,HB5.out.c1⟩))
   obtain ⟨a0,a1,a2,a3,a4,a5⟩:=fz_cells HB5.out.c0
   have i0:W5.cell? ⟨w.heap.size+1+1,0,none⟩=some (.int .u8 (op:Int)):=obj_cell HI5.out 0
   simp only at a0 a1 a2 a3 a4 a5
   have k0:=(HB5.out.bw.cell (p:=⟨b,off+a*2,none⟩) hbl).trans y0
   have k1:=(HB5.out.bw.cell (p:=⟨b,off+a*2+1,none⟩) hbl).trans y1
   have k2:=(HB5.out.bw.cell (p:=⟨b,off+p*2,none⟩) hbl).trans n0
   have k3:=(HB5.out.bw.cell (p:=⟨b,off+p*2+1,none⟩) hbl).trans n1
   have k4:=(HB5.out.bw.cell (p:=⟨b,off+p2*2,none⟩) hbl).trans m0
   go_big_quiet (fail)
   go_wp2_with (refine wpList_storeF rfl _ _ rfl (w.heap.size+1) fz0 ⟨a,n,15,op,arg0,0⟩ rfl rfl (HBd.out _).c1 ?_)
   exact bodyPost_ret (resFzB (p:=8) (u:=9) (by kernel_rfl) _ _ (w.heap.size+1) _ rfl (setRow_heap _ _ _ _ _ _ (HBd.out _).c1) _ rfl rfl) rfl ⟨HY.out _,((HBd.out _).row ⟨a,n,15,op,arg0,0⟩).bw⟩
end Go.Proofs.YtibhlcfligfhdaaGreat
