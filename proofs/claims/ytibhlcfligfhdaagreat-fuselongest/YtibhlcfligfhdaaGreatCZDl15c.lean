import Derived.Test.YtibhlcfligfhdaaGreatCZDi9
namespace Go.Proofs.YtibhlcfligfhdaaGreat
set_option maxHeartbeats 8000000
open Go.RowKit Go.WideShapes Go.Shelf
set_option maxRecDepth 100000
theorem dloc15c_any (ao:Option Addr) (cap a e:Nat) (L:List (Nat × Nat)) (w:World) (hL:L.length≤140737488355328) (hae:a<e) (he:e≤L.length) (_he32:e<4294967296) (hwf:Wfc L) (hr:CRd w ao L w.heap.size) (h9:(L.getD a (0,0)).1=9) (hno:∀ g,¬ LcD L a e 15 g) (hn:¬ e<a+6) (hx:L.getD (a+1) (0,0)=L.getD a (0,0)) (h2:¬ (L.getD (a+2) (0,0)).1=31) :
   Calls Tryz.prog 46 #[.slice ao L.length cap,.int .i64 (a:Int),.int .i64 (e:Int),.agg (fzA ⟨a,e-a,15,0,0,0⟩)] w fun x w'=>LcP L a e 15 x∧Below w.heap.size w w':=by
 obtain ⟨b,off,rfl,hbl,hc,x0,x1,y0,y1,haL,hmL,hsub,hsubn,hwm,hwn,hwm2,hwn2,hb1,hb2,hbn,hop⟩:=lc_facts hL hae he hwf hr
 have HY:Hid (∀ f,LcP L a e 15 (.returned (.tuple #[.agg (fzA f),.bool false]))):=dhid (fun f=>lc_no (L:=L) (a:=a) (e:=e) (k:=15) (f:=f) (fun g hg=>hno g hg))
 generalize LcP L a e 15=PP at HY ⊢
 obtain ⟨n0,n1,m0,hpL,hqL,hap,haq,hwp,hwp2,hwq,hwq2,gn⟩:=lc_cells hL he hn hc
 rw [h9] at y0
 generalize L.getD (e-1) (0,0)=q at x0 x1 hop
 obtain ⟨op,arg⟩:=q
 generalize L.getD a (0,0)=q at y1 h9 hx
 obtain ⟨op0,arg0⟩:=q
 generalize L.getD (a+1) (0,0)=q at n0 n1 hx
 subst hx
 generalize L.getD (a+2) (0,0)=q at m0 h2
 obtain ⟨op2,arg2⟩:=q
 simp only at x0 x1 y1 n0 n1 m0 h9 h2
 subst h9
 have g2:¬ (op2:Int)=31:=by omega
 have g22:((op2:Int) == 31)=false:=beq_eq_false_iff_ne.2 g2
 have g23:((op2:Int) != 31)=true:=bne_iff_ne.2 g2
 clear hc hwf hL he _he32 hae hr hn hno h2
 replace hop:=hop.out
 replace hwm:=hwm.out
 replace hwn:=hwn.out
 replace hwm2:=hwm2.out
 replace hwn2:=hwn2.out
 replace hwp:=hwp.out
 replace hwp2:=hwp2.out
 replace hwq:=hwq.out
 replace hwq2:=hwq2.out
 have gn3:decide (((e-a:Nat):Int)<6)=false:=decide_eq_false gn
 clear gn
 generalize e-1=m at *
 generalize e-a=n at *
 generalize a+1=p at *
 generalize a+2=p2 at *
 simp only [fzA]
 have HB5:Hid (Bs w (((w.alloc (.cells #[.int .u32 (a:Int),.int .u32 (n:Int),.int .u8 15,.int .u8 (op:Int),.int .u32 (arg0:Int),.int .u32 0] 28)).alloc (.cells #[.int .u32 0,.int .u32 0,.int .u8 0,.int .u8 0,.int .u32 0,.int .u32 0] 28)).alloc (Obj.cells #[.int .u8 (op:Int),.int .u32 (arg:Int)] 37)) ⟨a,n,15,op,arg0,0⟩ fz0):=dhid ((Bs.new w ⟨a,n,15,op,arg0,0⟩ fz0).next (bel1 _ _))
 have HI5:Hid ((((w.alloc (.cells #[.int .u32 (a:Int),.int .u32 (n:Int),.int .u8 15,.int .u8 (op:Int),.int .u32 (arg0:Int),.int .u32 0] 28)).alloc (.cells #[.int .u32 0,.int .u32 0,.int .u8 0,.int .u8 0,.int .u32 0,.int .u32 0] 28)).alloc (Obj.cells #[.int .u8 (op:Int),.int .u32 (arg:Int)] 37)).heap[w.heap.size+1+1]?=some (Obj.cells #[.int .u8 (op:Int),.int .u32 (arg:Int)] 37)):=dhid (by have:=heap_alloc_last ((w.alloc (.cells #[.int .u32 (a:Int),.int .u32 (n:Int),.int .u8 15,.int .u8 (op:Int),.int .u32 (arg0:Int),.int .u32 0] 28)).alloc (.cells #[.int .u32 0,.int .u32 0,.int .u8 0,.int .u8 0,.int .u32 0,.int .u32 0] 28)) (Obj.cells #[.int .u8 (op:Int),.int .u32 (arg:Int)] 37);simpa using this)
 go_enter Tryz.func46,Tryz.ntmps46
 go_wp2_with fail
 generalize (((w.alloc (.cells #[.int .u32 (a:Int),.int .u32 (n:Int),.int .u8 15,.int .u8 (op:Int),.int .u32 (arg0:Int),.int .u32 0] 28)).alloc (.cells #[.int .u32 0,.int .u32 0,.int .u8 0,.int .u8 0,.int .u32 0,.int .u32 0] 28)).alloc (Obj.cells #[.int .u8 (op:Int),.int .u32 (arg:Int)] 37))=W5 at HB5 HI5 ⊢
 have HBd:=dhid (fun q=>(show Bs w (W5.drewN q) ⟨a,n,15,op,arg0,0⟩ fz0 from ⟨⟨HB5.out.bw.os,HB5.out.bw.tape,HB5.out.bw.output,HB5.out.bw.size,HB5.out.bw.block⟩,HB5.out.c0,HB5.out.c1⟩))
 obtain ⟨a0,a1,a2,a3,a4,a5⟩:=fz_cells HB5.out.c0
 have i0:W5.cell? ⟨w.heap.size+1+1,0,none⟩=some (.int .u8 (op:Int)):=obj_cell HI5.out 0
 simp only at a0 a1 a2 a3 a4 a5
 have k0:=(HB5.out.bw.cell (p:=⟨b,off+a*2,none⟩) hbl).trans y0
 have k1:=(HB5.out.bw.cell (p:=⟨b,off+a*2+1,none⟩) hbl).trans y1
 have k2:=(HB5.out.bw.cell (p:=⟨b,off+p*2,none⟩) hbl).trans n0
 have k3:=(HB5.out.bw.cell (p:=⟨b,off+p*2+1,none⟩) hbl).trans n1
 have k4:=(HB5.out.bw.cell (p:=⟨b,off+p2*2,none⟩) hbl).trans m0
 go_big_quiet (fail)
 go_wp2_with (refine wpList_storeF rfl _ _ rfl (w.heap.size+1) fz0 ⟨a,n,15,op,arg0,0⟩ rfl rfl (HBd.out _).c1 ?_)
 exact bodyPost_ret (resFzB (p:=8) (u:=9) (by kernel_rfl) _ _ (w.heap.size+1) _ rfl (setRow_heap _ _ _ _ _ _ (HBd.out _).c1) _ rfl rfl) rfl ⟨HY.out _,((HBd.out _).row ⟨a,n,15,op,arg0,0⟩).bw⟩
theorem dloc15d_any (ao:Option Addr) (cap a e:Nat) (L:List (Nat × Nat)) (w:World) (hL:L.length≤140737488355328) (hae:a<e) (he:e≤L.length) (_he32:e<4294967296) (hwf:Wfc L) (hr:CRd w ao L w.heap.size) (h9:(L.getD a (0,0)).1=9) (hno:∀ g,¬ LcD L a e 15 g) (hn:¬ e<a+6) (hx:L.getD (a+1) (0,0)=L.getD a (0,0)) (h2:(L.getD (a+2) (0,0)).1=31) (h3:¬ (L.getD (e-1) (0,0)).1=34) :
   Calls Tryz.prog 46 #[.slice ao L.length cap,.int .i64 (a:Int),.int .i64 (e:Int),.agg (fzA ⟨a,e-a,15,0,0,0⟩)] w fun x w'=>LcP L a e 15 x∧Below w.heap.size w w':=by
 obtain ⟨b,off,rfl,hbl,hc,x0,x1,y0,y1,haL,hmL,hsub,hsubn,hwm,hwn,hwm2,hwn2,hb1,hb2,hbn,hop⟩:=lc_facts hL hae he hwf hr
 have HY:Hid (∀ f,LcP L a e 15 (.returned (.tuple #[.agg (fzA f),.bool false]))):=dhid (fun f=>lc_no (L:=L) (a:=a) (e:=e) (k:=15) (f:=f) (fun g hg=>hno g hg))
 generalize LcP L a e 15=PP at HY ⊢
 obtain ⟨n0,n1,m0,hpL,hqL,hap,haq,hwp,hwp2,hwq,hwq2,gn⟩:=lc_cells hL he hn hc
 rw [h9] at y0
 generalize L.getD (e-1) (0,0)=q at x0 x1 hop h3
 obtain ⟨op,arg⟩:=q
 generalize L.getD a (0,0)=q at y1 h9 hx
 obtain ⟨op0,arg0⟩:=q
 generalize L.getD (a+1) (0,0)=q at n0 n1 hx
 subst hx
 generalize L.getD (a+2) (0,0)=q at m0 h2
 obtain ⟨op2,arg2⟩:=q
 simp only at x0 x1 y1 n0 n1 m0 h9 h2 h3
 subst h9
 subst h2
 have g2:¬ (op:Int)=34:=by omega
 have g22:((op:Int) == 34)=false:=beq_eq_false_iff_ne.2 g2
 clear hc hwf hL he _he32 hae hr hn hno h3
 replace hop:=hop.out
 replace hwm:=hwm.out
 replace hwn:=hwn.out
 replace hwm2:=hwm2.out
 replace hwn2:=hwn2.out
 replace hwp:=hwp.out
 replace hwp2:=hwp2.out
 replace hwq:=hwq.out
 replace hwq2:=hwq2.out
 have gn3:decide (((e-a:Nat):Int)<6)=false:=decide_eq_false gn
 clear gn
 generalize e-1=m at *
 generalize e-a=n at *
 generalize a+1=p at *
 generalize a+2=p2 at *
 simp only [fzA]
 have HB5:Hid (Bs w (((w.alloc (.cells #[.int .u32 (a:Int),.int .u32 (n:Int),.int .u8 15,.int .u8 (op:Int),.int .u32 (arg0:Int),.int .u32 0] 28)).alloc (.cells #[.int .u32 0,.int .u32 0,.int .u8 0,.int .u8 0,.int .u32 0,.int .u32 0] 28)).alloc (Obj.cells #[.int .u8 (op:Int),.int .u32 (arg:Int)] 37)) ⟨a,n,15,op,arg0,0⟩ fz0):=dhid ((Bs.new w ⟨a,n,15,op,arg0,0⟩ fz0).next (bel1 _ _))
 have HI5:Hid ((((w.alloc (.cells #[.int .u32 (a:Int),.int .u32 (n:Int),.int .u8 15,.int .u8 (op:Int),.int .u32 (arg0:Int),.int .u32 0] 28)).alloc (.cells #[.int .u32 0,.int .u32 0,.int .u8 0,.int .u8 0,.int .u32 0,.int .u32 0] 28)).alloc (Obj.cells #[.int .u8 (op:Int),.int .u32 (arg:Int)] 37)).heap[w.heap.size+1+1]?=some (Obj.cells #[.int .u8 (op:Int),.int .u32 (arg:Int)] 37)):=dhid (by have:=heap_alloc_last ((w.alloc (.cells #[.int .u32 (a:Int),.int .u32 (n:Int),.int .u8 15,.int .u8 (op:Int),.int .u32 (arg0:Int),.int .u32 0] 28)).alloc (.cells #[.int .u32 0,.int .u32 0,.int .u8 0,.int .u8 0,.int .u32 0,.int .u32 0] 28)) (Obj.cells #[.int .u8 (op:Int),.int .u32 (arg:Int)] 37);simpa using this)
 go_enter Tryz.func46,Tryz.ntmps46
 go_wp2_with fail
 generalize (((w.alloc (.cells #[.int .u32 (a:Int),.int .u32 (n:Int),.int .u8 15,.int .u8 (op:Int),.int .u32 (arg0:Int),.int .u32 0] 28)).alloc (.cells #[.int .u32 0,.int .u32 0,.int .u8 0,.int .u8 0,.int .u32 0,.int .u32 0] 28)).alloc (Obj.cells #[.int .u8 (op:Int),.int .u32 (arg:Int)] 37))=W5 at HB5 HI5 ⊢
 have HBd:=dhid (fun q=>(show Bs w (W5.drewN q) ⟨a,n,15,op,arg0,0⟩ fz0 from ⟨⟨HB5.out.bw.os,HB5.out.bw.tape,HB5.out.bw.output,HB5.out.bw.size,HB5.out.bw.block⟩,HB5.out.c0,HB5.out.c1⟩))
 obtain ⟨a0,a1,a2,a3,a4,a5⟩:=fz_cells HB5.out.c0
 have i0:W5.cell? ⟨w.heap.size+1+1,0,none⟩=some (.int .u8 (op:Int)):=obj_cell HI5.out 0
 simp only at a0 a1 a2 a3 a4 a5
 have k0:=(HB5.out.bw.cell (p:=⟨b,off+a*2,none⟩) hbl).trans y0
 have k1:=(HB5.out.bw.cell (p:=⟨b,off+a*2+1,none⟩) hbl).trans y1
 have k2:=(HB5.out.bw.cell (p:=⟨b,off+p*2,none⟩) hbl).trans n0
 have k3:=(HB5.out.bw.cell (p:=⟨b,off+p*2+1,none⟩) hbl).trans n1
 have k4:=(HB5.out.bw.cell (p:=⟨b,off+p2*2,none⟩) hbl).trans m0
 go_big_quiet (fail)
 go_wp2_with (refine wpList_storeF rfl _ _ rfl (w.heap.size+1) fz0 ⟨a,n,15,op,arg0,0⟩ rfl rfl (HBd.out _).c1 ?_)
 exact bodyPost_ret (resFzB (p:=8) (u:=9) (by kernel_rfl) _ _ (w.heap.size+1) _ rfl (setRow_heap _ _ _ _ _ _ (HBd.out _).c1) _ rfl rfl) rfl ⟨HY.out _,((HBd.out _).row ⟨a,n,15,op,arg0,0⟩).bw⟩
end Go.Proofs.YtibhlcfligfhdaaGreat
