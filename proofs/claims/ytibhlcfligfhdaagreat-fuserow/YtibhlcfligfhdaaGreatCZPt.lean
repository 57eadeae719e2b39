import Derived.Test.YtibhlcfligfhdaaGreatCZLk
namespace Go.Proofs.YtibhlcfligfhdaaGreat
set_option maxHeartbeats 4000000
open Go.RowKit Go.WideShapes
set_option maxRecDepth 100000
theorem wpList_storeF {ops:Array Oper} {Q:Exit→Act→World→Prop} {rest:List Oper} {o:Oper} {a:Act} {w:World} (hg:o.guard=none) (p q:Operand) (ho:o.op=.store 28 p q)
   (b:Nat) (f f':Fz) (h0:a.eval p=.pointer (some ⟨b,0,none⟩)) (h1:a.eval q=.agg (fzA f')) (hb:w.heap[b]?=some (.cells (fzA f) 28))
   (h:wpList Tryz.prog ops Q rest (a.put o.dst undef) (w.setRow b (fzA f'))):wpList Tryz.prog ops Q (o :: rest) a w:=
 wpList_store_rowD hg _ p q ho b (fzA f) (fzA f') h0 h1 hb (by rw [sizeFz];rfl) rfl (by simp [fzA,Value.oneCell']) h
structure Bs (w V:World) (f r:Fz):Prop where
 bw:Below w.heap.size w V
 c0:V.heap[w.heap.size]?=some (.cells (fzA f) 28)
 c1:V.heap[w.heap.size+1]?=some (.cells (fzA r) 28)
theorem Bs.new (w:World) (f r:Fz):Bs w ((w.alloc (.cells (fzA f) 28)).alloc (.cells (fzA r) 28)) f r:=by
 refine ⟨zbel2 _ _ _,?_,zheap2 _ _ _⟩
 rw [Below.heap_alloc _ _ _ (by simp)];exact heap_alloc_last _ _
theorem Bs.lt {w V:World} {f r:Fz} (h:Bs w V f r):w.heap.size+1<V.heap.size:=(Array.getElem?_eq_some_iff.1 h.c1).1
theorem Bs.next {w V V':World} {f r:Fz} (h:Bs w V f r) (hb:Below V.heap.size V V'):Bs w V' f r:=by
 have hl:=h.lt
 exact ⟨h.bw.trans (hb.mono (by omega)),(hb.block _ (by omega)).trans h.c0,(hb.block _ (by omega)).trans h.c1⟩
theorem Bs.row {w V:World} {f r:Fz} (h:Bs w V f r) (r':Fz):Bs w (V.setRow (w.heap.size+1) (fzA r')) f r':=by
 have h3:=setRow_heap V (w.heap.size+1) _ (fzA r') _ _ h.c1
 have hk:=KpSetRow (S:=fun k=>k=w.heap.size+1) V (w.heap.size+1) (fzA r') rfl
 have hl:=h.lt
 exact ⟨h.bw.trans (hk.below (by omega) (fun i e=>by omega)),(hk.block _ (by omega) (by omega)).trans h.c0,h3⟩
theorem Bs.row0 {w V:World} {f r:Fz} (h:Bs w V f r) (f':Fz):Bs w (V.setRow w.heap.size (fzA f')) f' r:=by
 have h3:=setRow_heap V w.heap.size _ (fzA f') _ _ h.c0
 have hk:=KpSetRow (S:=fun k=>k=w.heap.size) V w.heap.size (fzA f') rfl
 have hl:=h.lt
 exact ⟨h.bw.trans (hk.below (by omega) (fun i e=>by omega)),h3,(hk.block _ (by omega) (by omega)).trans h.c1⟩
theorem Bs.setLen {w V:World} {f r:Fz} (h:Bs w V f r) (k:Nat):Bs w (V.setCell ⟨w.heap.size,1,none⟩ (.int .u32 (k:Int))) { f with len:=k } r:=by
 have h3:=heap_setCell_same V w.heap.size 1 _ _ (.int .u32 (k:Int)) h.c0
 have hk:=Kp.setCell (S:=fun i=>i=w.heap.size) V ⟨w.heap.size,1,none⟩ (.int .u32 (k:Int)) rfl
 have hl:=h.lt
 exact ⟨h.bw.trans (hk.below (by omega) (fun i e=>by omega)),h3,(hk.block _ (by omega) (by omega)).trans h.c1⟩
theorem Bs.cells {w V:World} {f r:Fz} (h:Bs w V f r):V.cell? ⟨w.heap.size,0,none⟩=some (.int .u32 (f.at_:Int))∧V.cell? ⟨w.heap.size,1,none⟩=some (.int .u32 (f.len:Int))∧V.cell? ⟨w.heap.size,2,none⟩=some (.int .u8 (f.kind:Int))∧V.cell? ⟨w.heap.size,3,none⟩=some (.int .u8 (f.op:Int))∧V.cell? ⟨w.heap.size,4,none⟩=some (.int .u32 (f.a:Int))∧V.cell? ⟨w.heap.size,5,none⟩=some (.int .u32 (f.b:Int)):=
 ⟨obj_cell h.c0 0,obj_cell h.c0 1,obj_cell h.c0 2,obj_cell h.c0 3,obj_cell h.c0 4,obj_cell h.c0 5⟩
def put6 (V:World) (b:Nat) (f:Fz):World:=
 (((((V.setCell ⟨b,0,none⟩ (.int .u32 (f.at_:Int))).setCell ⟨b,1,none⟩ (.int .u32 (f.len:Int))).setCell ⟨b,2,none⟩ (.int .u8 (f.kind:Int))).setCell ⟨b,3,none⟩ (.int .u8 (f.op:Int))).setCell ⟨b,4,none⟩ (.int .u32 (f.a:Int))).setCell ⟨b,5,none⟩ (.int .u32 (f.b:Int))
theorem put6_any {V:World} {b:Nat} {f f':Fz} (h:V.heap[b]?=some (.cells (fzA f) 28)):(put6 V b f').heap[b]?=some (.cells (fzA f') 28)∧Kp (fun i=>i=b) V (put6 V b f'):=
 set6 h rfl rfl rfl rfl rfl rfl
theorem Bs.put {w V:World} {f r:Fz} (h:Bs w V f r) (r':Fz):Bs w (put6 V (w.heap.size+1) r') f r':=by
 obtain ⟨h3,hk⟩:=put6_any (f':=r') h.c1
 have hl:=h.lt
 exact ⟨h.bw.trans (hk.below (by omega) (fun i e=>by omega)),(hk.block _ (by omega) (by omega)).trans h.c0,h3⟩
theorem fz_cells {V:World} {b:Nat} {f:Fz} (h:V.heap[b]?=some (.cells (fzA f) 28)):V.cell? ⟨b,0,none⟩=some (.int .u32 (f.at_:Int))∧V.cell? ⟨b,1,none⟩=some (.int .u32 (f.len:Int))∧V.cell? ⟨b,2,none⟩=some (.int .u8 (f.kind:Int))∧V.cell? ⟨b,3,none⟩=some (.int .u8 (f.op:Int))∧V.cell? ⟨b,4,none⟩=some (.int .u32 (f.a:Int))∧V.cell? ⟨b,5,none⟩=some (.int .u32 (f.b:Int)):=
 ⟨obj_cell h 0,obj_cell h 1,obj_cell h 2,obj_cell h 3,obj_cell h 4,obj_cell h 5⟩
theorem fz_frozen {V:World} {b:Nat} {f:Fz} (h:V.heap[b]?=some (.cells (fzA f) 28)):V.frozen? ⟨b,0,none⟩=false∧V.frozen? ⟨b,1,none⟩=false∧V.frozen? ⟨b,2,none⟩=false∧V.frozen? ⟨b,3,none⟩=false∧V.frozen? ⟨b,4,none⟩=false∧V.frozen? ⟨b,5,none⟩=false:=
 ⟨obj_frozen h 0,obj_frozen h 1,obj_frozen h 2,obj_frozen h 3,obj_frozen h 4,obj_frozen h 5⟩
def Fr (B:Nat) (w W:World):Prop:=w.heap.size≤W.heap.size∧∀ i cs t fr,B≤i→w.heap[i]?=some (.cells cs t fr)→W.heap[i]?=some (.cells cs t fr)
theorem Fr.of {B:Nat} {w W:World} (h:Below w.heap.size w W):Fr B w W:=⟨h.size,fun i _ _ _ _ hi=>(h.block i (Array.getElem?_eq_some_iff.1 hi).1).trans hi⟩
theorem Fr.trans {B:Nat} {a b c:World} (h:Fr B a b) (k:Fr B b c):Fr B a c:=⟨Nat.le_trans h.1 k.1,fun i cs t fr h1 h2=>k.2 i cs t fr h1 (h.2 i cs t fr h1 h2)⟩
theorem Fr.weak {B B':Nat} {a b:World} (h:Fr B a b) (hB:B≤B'):Fr B' a b:=⟨h.1,fun i cs t fr h1 h2=>h.2 i cs t fr (Nat.le_trans hB h1) h2⟩
theorem Fr.cellv {B:Nat} {w W:World} (h:Fr B w W) {p:Addr} {v:Value} (hB:B≤p.block) (hv:w.cell? p=some v):W.cell? p=some v:=by
 have hv0:=hv
 unfold World.cell? at hv
 split at hv
 · rename_i cs t fr ho
   exact (World.cell?_of_block ((h.2 _ cs t fr hB ho).trans ho.symm)).trans hv0
 · cases hv
def LkS (B:Nat) (w:World) (v:Value) (lk:Lk):Prop:=
 ∃ g lb,v=.func (.func g) #[] lb∧(∀ args w,(callFunc g args).run Tryz.prog w=.ok (.enter g args) w)∧∀ W,Fr B w W→∀ (p:Nat × Nat) (f:Fz),p.1<256→p.2<4294967296 →
   Calls Tryz.prog g (#[.agg #[.int .u8 (p.1:Int),.int .u32 (p.2:Int)],.agg (fzA f)] ++ lb) W fun e w'=>e=.returned (.tuple #[.agg (fzA (lk p f).1),.bool (lk p f).2])∧Below W.heap.size W w'
abbrev Pt:=List (Nat × Nat)→Fz→Fz × Bool
def PtS (B:Nat) (w:World) (v:Value) (pt:Pt):Prop:=
 ∃ g lb,v=.func (.func g) #[] lb∧(∀ args w,(callFunc g args).run Tryz.prog w=.ok (.enter g args) w)∧∀ W,Fr B w W→∀ (ao:Option Addr) (cap:Nat) (L:List (Nat × Nat)) (f:Fz),L.length≤cap→f.len+L.length<4294967296→Wfc L→CRd W ao L W.heap.size →
   Calls Tryz.prog g (#[.slice ao L.length cap,.agg (fzA f)] ++ lb) W fun e w'=>e=.returned (.tuple #[.agg (fzA (pt L f).1),.bool (pt L f).2])∧Below W.heap.size W w'
abbrev Shp:=List (Nat × Nat)→Fz
def ShS (B:Nat) (w:World) (v:Value) (sh:Shp):Prop:=
 ∃ g lb,v=.func (.func g) #[] lb∧(∀ args w,(callFunc g args).run Tryz.prog w=.ok (.enter g args) w)∧∀ W,Fr B w W→∀ (ao:Option Addr) (cap:Nat) (L:List (Nat × Nat)),0<L.length→L.length≤cap→L.length<4294967296→Wfc L→CRd W ao L W.heap.size →
   Calls Tryz.prog g (#[.slice ao L.length cap] ++ lb) W fun e w'=>e=.returned (.agg (fzA (sh L)))∧Below W.heap.size W w'
theorem LkS.nextF {B:Nat} {w w':World} {v:Value} {lk:Lk} (h:LkS B w v lk) (hb:Fr B w w'):LkS B w' v lk:=by
 obtain ⟨g,lb,h1,h2,h3⟩:=h
 exact ⟨g,lb,h1,h2,fun W hW=>h3 W (hb.trans hW)⟩
theorem PtS.nextF {B:Nat} {w w':World} {v:Value} {pt:Pt} (h:PtS B w v pt) (hb:Fr B w w'):PtS B w' v pt:=by
 obtain ⟨g,lb,h1,h2,h3⟩:=h
 exact ⟨g,lb,h1,h2,fun W hW=>h3 W (hb.trans hW)⟩
theorem ShS.nextF {B:Nat} {w w':World} {v:Value} {sh:Shp} (h:ShS B w v sh) (hb:Fr B w w'):ShS B w' v sh:=by
 obtain ⟨g,lb,h1,h2,h3⟩:=h
 exact ⟨g,lb,h1,h2,fun W hW=>h3 W (hb.trans hW)⟩
theorem LkS.next {B:Nat} {w w':World} {v:Value} {lk:Lk} (h:LkS B w v lk) (hb:Below w.heap.size w w'):LkS B w' v lk:=by
 obtain ⟨g,lb,h1,h2,h3⟩:=h
 exact ⟨g,lb,h1,h2,fun W hW=>h3 W ((Fr.of hb).trans hW)⟩
theorem PtS.next {B:Nat} {w w':World} {v:Value} {pt:Pt} (h:PtS B w v pt) (hb:Below w.heap.size w w'):PtS B w' v pt:=by
 obtain ⟨g,lb,h1,h2,h3⟩:=h
 exact ⟨g,lb,h1,h2,fun W hW=>h3 W ((Fr.of hb).trans hW)⟩
theorem ShS.next {B:Nat} {w w':World} {v:Value} {sh:Shp} (h:ShS B w v sh) (hb:Below w.heap.size w w'):ShS B w' v sh:=by
 obtain ⟨g,lb,h1,h2,h3⟩:=h
 exact ⟨g,lb,h1,h2,fun W hW=>h3 W ((Fr.of hb).trans hW)⟩
def ptSingle (lk:Lk):Pt:=fun L f=>match L with
 | []=>(f,false)
 |p :: _=>if erV p.1 p.2=0 then lk p { f with len:=f.len+1 } else (f,false)
theorem single1_any {B:Nat} (gb:Nat) (lk:Lk) (v:Value) (ao:Option Addr) (cap:Nat) (L:List (Nat × Nat)) (f:Fz) (w:World) (hg:gb<w.heap.size) (hv:w.cell? ⟨gb,0,none⟩=some v) (hlk:LkS B w v lk)
   (hlen:f.len+L.length<4294967296) (hwf:Wfc L) (hr:CRd w ao L w.heap.size) :
   Calls Tryz.prog 52 #[.slice ao L.length cap,.agg (fzA f),.pointer (some ⟨gb,0,none⟩)] w fun e w'=>e=.returned (.tuple #[.agg (fzA (ptSingle lk L f).1),.bool (ptSingle lk L f).2])∧Below w.heap.size w w':=by
 obtain ⟨f0,f1,f2,f3,f4,f5⟩:=f
 cases L with
 | nil=>
   rw [show ptSingle lk [] ⟨f0,f1,f2,f3,f4,f5⟩=(⟨f0,f1,f2,f3,f4,f5⟩,false) from rfl]
   simp only [fzA,List.length_nil]
   clear hlk hr
   go_enter Tryz.func52,Tryz.ntmps52
   go_wp2
   exact bodyPost_ret (resFzB (p:=5) (u:=6) (by kernel_rfl) _ _ (w.heap.size+1) _ rfl (zheap2 _ _ _) _ rfl rfl) rfl ⟨rfl,zbel2 _ _ _⟩
 | cons p R =>
   obtain ⟨b,off,rfl,hbl,hc⟩:=hr (by simp)
   have x0:=(hc 0 (by simp)).1
   have x1:=(hc 0 (by simp)).2
   obtain ⟨hop,harg⟩:=hwf p (by simp)
   rw [show (p :: R).getD 0 (0,0)=p from rfl] at x0 x1
   simp only [Nat.zero_mul,Nat.add_zero] at x0 x1
   have hlen':f1+(R.length+1)<4294967296:=hlen
   clear hlen
   have hn0:(p :: R).length=R.length+1:=rfl
   rw [hn0]
   obtain ⟨op,arg⟩:=p
   simp only at x0 x1 hop harg
   have HC:=dhid (fun w'=>fcheck_any op arg w' hop)
   have HN:=dhid (Bs.new w ⟨f0,f1,f2,f3,f4,f5⟩ fz0)
   have y0:∀ a b',((w.alloc a).alloc b').cell? ⟨b,off,none⟩=some (.int .u8 (op:Int)):=fun a b'=>((zbel2 w a b').cell (p:=⟨b,off,none⟩) hbl).trans x0
   have y1:∀ a b',((w.alloc a).alloc b').cell? ⟨b,off+1,none⟩=some (.int .u32 (arg:Int)):=fun a b'=>((zbel2 w a b').cell (p:=⟨b,off+1,none⟩) hbl).trans x1
   have g1:b<w.heap.size+1:=by omega
   have dn:(((R.length:Int)+1) == 0)=false:=by rw [beq_eq_false_iff_ne];omega
   have dn':¬ (R.length:Int)+1=0:=by omega
   have dn2:(0:Int)<(R.length:Int)+1:=by omega
   have HLV:=dhid (fun V (hV:Below w.heap.size w V)=>And.intro ((hV.cell (p:=⟨gb,0,none⟩) hg).trans hv) (And.intro ((hV.cell (p:=⟨b,off,none⟩) hbl).trans x0) ((hV.cell (p:=⟨b,off+1,none⟩) hbl).trans x1)))
   clear hc hr hwf hn0
   by_cases her:erV op arg=0
   · rw [show ptSingle lk ((op,arg) :: R) ⟨f0,f1,f2,f3,f4,f5⟩=lk (op,arg) ⟨f0,f1+1,f2,f3,f4,f5⟩ from if_pos her]
     rw [her] at HC
     obtain ⟨g,lb,rfl,eg,hcall⟩:=hlk
     have HL:=dhid (fun W (hW:Below w.heap.size w W)=>hcall W (Fr.of hW) (op,arg) ⟨f0,f1+1,f2,f3,f4,f5⟩ hop harg)
     generalize lk (op,arg) ⟨f0,f1+1,f2,f3,f4,f5⟩=q at HL ⊢
     obtain ⟨⟨r0,r1,r2,r3,r4,r5⟩,q2⟩:=q
     simp only [fzA,fz0] at HN HL ⊢
     have hq:((f1:Int)+1) % 4294967296=((f1+1:Nat):Int):=by omega
     clear hcall
     go_enter Tryz.func52,Tryz.ntmps52
     go_wp2_with (go_at_call 23;with_reducible refine (HC.out _).mono ?_;rintro e w1 ⟨rfl,hb1⟩
                  have N1:=dhid (HN.out.next hb1)
                  have k1:=N1.out.cells.2.1
                  have k2:=obj_frozen N1.out.c0 1)
     obtain ⟨V1,hV1⟩:∃ V1,w1.setCell ⟨w.heap.size,1,none⟩ (.int .u32 ((f1:Int)+1))=V1:=⟨_,rfl⟩
     rw [hV1]
     have M1:Hid (Bs w V1 ⟨f0,f1+1,f2,f3,f4,f5⟩ fz0):=dhid (by rw [←hV1];exact N1.out.setLen (f1+1))
     have HS1:=dhid (fun V (hh:Below V1.heap.size V1 V)=>And.intro (HLV.out V (M1.out.next hh).bw) (M1.out.next hh).cells)
     have hc1:((f1+1:Nat):Int)=(f1:Int)+1:=rfl
     rw [hc1] at HL
     simp only [hc1] at HS1
     have D1:Hid (Below V1.heap.size V1 V1.drew):=dhid (Below.refl _ _).drew
     have MD:=dhid (M1.out.next D1.out)
     clear hV1 N1 k1 k2 hb1 HN HC y0 y1 x0 x1 hv
     go_region_held3 (fun V=>(V.cell? ⟨gb,0,none⟩=some (.func (.func g) #[] lb)∧V.cell? ⟨b,off,none⟩=some (.int .u8 (op:Int))∧V.cell? ⟨b,off+1,none⟩=some (.int .u32 (arg:Int)))∧V.cell? ⟨w.heap.size,0,none⟩=some (.int .u32 (f0:Int))∧V.cell? ⟨w.heap.size,1,none⟩=some (.int .u32 ((f1:Int)+1))∧V.cell? ⟨w.heap.size,2,none⟩=some (.int .u8 (f2:Int))∧V.cell? ⟨w.heap.size,3,none⟩=some (.int .u8 (f3:Int))∧V.cell? ⟨w.heap.size,4,none⟩=some (.int .u32 (f4:Int))∧V.cell? ⟨w.heap.size,5,none⟩=some (.int .u32 (f5:Int)))
       (first|with_reducible exact HS1.out _ D1.out|with_reducible exact HS2.out|with_reducible exact HS3.out|with_reducible exact HS1.out _ (Below.refl _ _))
       (first
         | (with_reducible refine (HL.out _ MD.out.bw).mono ?_;rintro e w2 ⟨rfl,hb2⟩
            have M2:=dhid (MD.out.next hb2)
            have HS2:=dhid (HS1.out w2 (D1.out.trans (hb2.mono D1.out.size)))
            have M3:=dhid (M2.out.put ⟨r0,r1,r2,r3,r4,r5⟩)
            obtain ⟨z0,z1,z2,z3,z4,z5⟩:=fz_cells M2.out.c1
            obtain ⟨v0,v1,v2,v3,v4,v5⟩:=fz_frozen M2.out.c1
            have HS3:=dhid (And.intro (HLV.out _ M3.out.bw) M3.out.cells)
            simp only [put6,hc1] at HS3))
     all_goals go_wp2_with fail
     all_goals exact bodyPost_ret (resFzB (p:=5) (u:=6) (by kernel_rfl) _ _ (w.heap.size+1) _ rfl M3.out.c1 _ rfl rfl) rfl ⟨rfl,M3.out.bw⟩
   · rw [show ptSingle lk ((op,arg) :: R) ⟨f0,f1,f2,f3,f4,f5⟩=(⟨f0,f1,f2,f3,f4,f5⟩,false) from if_neg her]
     have hE1:((erV op arg:Int) != 0)=true:=by simp;omega
     have hE2:¬ (erV op arg:Int)=0:=by omega
     simp only [fzA,fz0] at HN ⊢
     generalize erV op arg=er at *
     go_enter Tryz.func52,Tryz.ntmps52
     go_wp2_with (first
       | (go_at_call 23;with_reducible refine (HC.out _).mono ?_;rintro e w1 ⟨rfl,hb1⟩
          have N1:=dhid (HN.out.next hb1)
          obtain ⟨k0,k1,k2,k3,k4,k5⟩:=N1.out.cells)
       |(refine wpList_storeF rfl _ _ rfl (w.heap.size+1) fz0 ⟨f0,f1,f2,f3,f4,f5⟩ rfl rfl N1.out.c1 ?_))
     have N2:=N1.out.row ⟨f0,f1,f2,f3,f4,f5⟩
     exact bodyPost_ret (resFzB (p:=5) (u:=6) (by kernel_rfl) _ _ (w.heap.size+1) _ rfl N2.c1 _ rfl rfl) rfl ⟨rfl,N2.bw⟩
def cnV (L:List (Nat × Nat)):Nat × Nat:=
 if (lnP L 0 (min L.length 16)).2.2.1=2 then ((lnP L 0 (min L.length 16)).2.1,(lnP L 0 (min L.length 16)).2.2.2)
 else if (lnP L 0 (min L.length 16)).2.2.1=1∧(L.getD 0 (0,0)).1=8 then (1,(L.getD 0 (0,0)).2) else (0,0)
theorem lgV_le (M:List (Nat × Nat)) (hM:∀ p∈M,p.1<256) (h0:0<M.length):(lgV M).1≤M.length:=by
 have hb:=lgF_bst M [] 0 (1,1,0) hM (by decide) (fun _=>rfl)
 unfold lgV
 rcases hb with ⟨n,k,v,n1,n2,n3,n4,n5,n6⟩|⟨a1,a2⟩
 · rw [n5];simpa using n2
 · rw [a2];exact h0
theorem lnP_le {L:List (Nat × Nat)} (hwf:Wfc L) (a e:Nat):(lnP L a e).2.1≤e-a∧(a<e∧e≤L.length∨lnP L a e=(0,0,0,0)):=by
 unfold lnP
 split
 · rename_i h
   refine ⟨?_,.inl ⟨h.1,h.2.1⟩⟩
   have hl:((L.drop a).take (e-a)).length=e-a:=by simp;omega
   have:=lgV_le ((L.drop a).take (e-a)) (fun p hp=>(wfc_sub hwf a (e-a) p hp).1) (by omega)
   rw [hl] at this
   exact this
 · exact ⟨Nat.zero_le _,.inr rfl⟩
theorem cnV_le {L:List (Nat × Nat)} (hwf:Wfc L):(cnV L).1≤L.length:=by
 have h:=lnP_le hwf 0 (min L.length 16)
 unfold cnV
 split
 · have:=h.1;simp only;omega
 · split
   · rename_i h2
     rcases h.2 with h3|h3
     · simp only;omega
     · rw [h3] at h2;simp at h2
   · exact Nat.zero_le _
theorem constantOf_lt (ao:Option Addr) (cap:Nat) (L:List (Nat × Nat)) (w:World) (hcap:L.length≤cap) (hlen:L.length<4294967296) (hwf:Wfc L) (hr:CRd w ao L w.heap.size) (hs:L.length≤16) :
   Calls Tryz.prog 51 #[.slice ao L.length cap] w fun e w'=>e=.returned (.tuple #[.int .u32 ((cnV L).1:Int),.int .u32 ((cnV L).2:Int)])∧Below w.heap.size w w':=by
 have hmin:min L.length 16=L.length:=by omega
 have hle:=lnP_le hwf 0 (L.length)
 have F:=dhid (Longest_any ao cap 0 (L.length) L w (by omega) hcap (by decide) (by omega) hwf hr)
 unfold cnV
 rw [hmin]
 clear hmin
 generalize lnE L 0 (L.length)=er at F
 have s2:¬ (16:Int)<(L.length:Int):=by omega
 have s4:(L.length:Int)≤16:=by omega
 generalize lnP L 0 (L.length)=q at *
 obtain ⟨qa,ql,qk,qv⟩:=q
 simp only [pcA] at F ⊢
 rw [show ((0:Nat):Int)=0 from rfl] at F
 have hbd:Below w.heap.size w w:=Below.refl _ _
 by_cases h2:qk=2
 · subst h2
   rw [if_pos rfl]
   clear hr hle hwf
   go_enter Tryz.func51,Tryz.ntmps51
   go_wp2_with (go_at_call 57;with_reducible refine F.out.mono ?_;rintro e w1 ⟨rfl,hb1⟩)
   go_region
   all_goals go_wp2
   all_goals go_ret2
   all_goals exact ⟨rfl,(hb1.alloc hb1.size _).drew⟩
 · rw [if_neg h2]
   have d2:((qk:Int) == 2)=false:=by rw [beq_eq_false_iff_ne];omega
   by_cases h1:qk=1
   · subst h1
     have hL0:0<L.length:=by
       rcases hle.2 with h|h
       · omega
       · simp at h
     obtain ⟨b,off,rfl,hbl,hc⟩:=hr hL0
     have x0:=(hc 0 hL0).1
     have x1:=(hc 0 hL0).2
     simp only [Nat.zero_mul,Nat.add_zero] at x0 x1
     generalize L.getD 0 (0,0)=p at *
     obtain ⟨op,arg⟩:=p
     simp only [true_and] at x0 x1 ⊢
     have i1:(0:Int)<(L.length:Int):=by omega
     have HLV:=dhid (fun V (hV:Below w.heap.size w V)=>And.intro ((hV.cell (p:=⟨b,off,none⟩) hbl).trans x0) ((hV.cell (p:=⟨b,off+1,none⟩) hbl).trans x1))
     clear hc hle hwf hr
     by_cases h8:op=8
     · subst h8
       rw [if_pos rfl]
       go_enter Tryz.func51,Tryz.ntmps51
       go_wp2_with (go_at_call 57;with_reducible refine F.out.mono ?_;rintro e w1 ⟨rfl,hb1⟩
                    have y0:=fun o=>(HLV.out (w1.alloc o) (hb1.alloc hb1.size o)).1
                    have y1:=fun o=>(HLV.out (w1.alloc o) (hb1.alloc hb1.size o)).2
                    have z0:=(HLV.out w1 hb1).1
                    have z1:=(HLV.out w1 hb1).2
                    have hz:=hb1.size
                    have hbl1:b<w1.heap.size:=by omega)
       go_region
       all_goals go_wp2
       all_goals go_ret2
       all_goals exact ⟨rfl,(hb1.alloc hb1.size _).drew⟩
     · rw [if_neg h8]
       have d8:((op:Int) == 8)=false:=by rw [beq_eq_false_iff_ne];omega
       go_enter Tryz.func51,Tryz.ntmps51
       go_wp2_with (go_at_call 57;with_reducible refine F.out.mono ?_;rintro e w1 ⟨rfl,hb1⟩
                    have y0:=fun o=>(HLV.out (w1.alloc o) (hb1.alloc hb1.size o)).1
                    have z0:=(HLV.out w1 hb1).1
                    have hz:=hb1.size
                    have hbl1:b<w1.heap.size:=by omega)
       go_ret2
       exact ⟨rfl,hb1.alloc hb1.size _⟩
   · rw [if_neg (fun h=>h1 h.1)]
     have d1:((qk:Int) == 1)=false:=by rw [beq_eq_false_iff_ne];omega
     clear hr hle hwf
     go_enter Tryz.func51,Tryz.ntmps51
     go_wp2_with (go_at_call 57;with_reducible refine F.out.mono ?_;rintro e w1 ⟨rfl,hb1⟩)
     go_ret2
     exact ⟨rfl,hb1.alloc hb1.size _⟩
theorem constantOf_ge (ao:Option Addr) (cap:Nat) (L:List (Nat × Nat)) (w:World) (hcap:L.length≤cap) (hlen:L.length<4294967296) (hwf:Wfc L) (hr:CRd w ao L w.heap.size) (hs:16<L.length) :
   Calls Tryz.prog 51 #[.slice ao L.length cap] w fun e w'=>e=.returned (.tuple #[.int .u32 ((cnV L).1:Int),.int .u32 ((cnV L).2:Int)])∧Below w.heap.size w w':=by
 have hmin:min L.length 16=16:=by omega
 have hle:=lnP_le hwf 0 (16)
 have F:=dhid (Longest_any ao cap 0 (16) L w (by omega) hcap (by decide) (by omega) hwf hr)
 unfold cnV
 rw [hmin]
 clear hmin
 generalize lnE L 0 (16)=er at F
 have s1:¬ (L.length:Int)<16:=by omega
 have s2:¬ (L.length:Int)≤16:=by omega
 have s4:(16:Int)<(L.length:Int):=by omega
 generalize lnP L 0 (16)=q at *
 obtain ⟨qa,ql,qk,qv⟩:=q
 simp only [pcA] at F ⊢
 rw [show ((0:Nat):Int)=0 from rfl,show ((16:Nat):Int)=16 from rfl] at F
 have hbd:Below w.heap.size w w:=Below.refl _ _
 by_cases h2:qk=2
 · subst h2
   rw [if_pos rfl]
   clear hr hle hwf
   go_enter Tryz.func51,Tryz.ntmps51
   go_wp2_with (go_at_call 57;with_reducible refine F.out.mono ?_;rintro e w1 ⟨rfl,hb1⟩)
   go_region
   all_goals go_wp2
   all_goals go_ret2
   all_goals exact ⟨rfl,(hb1.alloc hb1.size _).drew⟩
 · rw [if_neg h2]
   have d2:((qk:Int) == 2)=false:=by rw [beq_eq_false_iff_ne];omega
   by_cases h1:qk=1
   · subst h1
     have hL0:0<L.length:=by
       rcases hle.2 with h|h
       · omega
       · simp at h
     obtain ⟨b,off,rfl,hbl,hc⟩:=hr hL0
     have x0:=(hc 0 hL0).1
     have x1:=(hc 0 hL0).2
     simp only [Nat.zero_mul,Nat.add_zero] at x0 x1
     generalize L.getD 0 (0,0)=p at *
     obtain ⟨op,arg⟩:=p
     simp only [true_and] at x0 x1 ⊢
     have i1:(0:Int)<(L.length:Int):=by omega
     have HLV:=dhid (fun V (hV:Below w.heap.size w V)=>And.intro ((hV.cell (p:=⟨b,off,none⟩) hbl).trans x0) ((hV.cell (p:=⟨b,off+1,none⟩) hbl).trans x1))
     clear hc hle hwf hr
     by_cases h8:op=8
     · subst h8
       rw [if_pos rfl]
       go_enter Tryz.func51,Tryz.ntmps51
       go_wp2_with (go_at_call 57;with_reducible refine F.out.mono ?_;rintro e w1 ⟨rfl,hb1⟩
                    have y0:=fun o=>(HLV.out (w1.alloc o) (hb1.alloc hb1.size o)).1
                    have y1:=fun o=>(HLV.out (w1.alloc o) (hb1.alloc hb1.size o)).2
                    have z0:=(HLV.out w1 hb1).1
                    have z1:=(HLV.out w1 hb1).2
                    have hz:=hb1.size
                    have hbl1:b<w1.heap.size:=by omega)
       go_region
       all_goals go_wp2
       all_goals go_ret2
       all_goals exact ⟨rfl,(hb1.alloc hb1.size _).drew⟩
     · rw [if_neg h8]
       have d8:((op:Int) == 8)=false:=by rw [beq_eq_false_iff_ne];omega
       go_enter Tryz.func51,Tryz.ntmps51
       go_wp2_with (go_at_call 57;with_reducible refine F.out.mono ?_;rintro e w1 ⟨rfl,hb1⟩
                    have y0:=fun o=>(HLV.out (w1.alloc o) (hb1.alloc hb1.size o)).1
                    have z0:=(HLV.out w1 hb1).1
                    have hz:=hb1.size
                    have hbl1:b<w1.heap.size:=by omega)
       go_ret2
       exact ⟨rfl,hb1.alloc hb1.size _⟩
   · rw [if_neg (fun h=>h1 h.1)]
     have d1:((qk:Int) == 1)=false:=by rw [beq_eq_false_iff_ne];omega
     clear hr hle hwf
     go_enter Tryz.func51,Tryz.ntmps51
     go_wp2_with (go_at_call 57;with_reducible refine F.out.mono ?_;rintro e w1 ⟨rfl,hb1⟩)
     go_ret2
     exact ⟨rfl,hb1.alloc hb1.size _⟩
theorem constantOf_any (ao:Option Addr) (cap:Nat) (L:List (Nat × Nat)) (w:World) (hcap:L.length≤cap) (hlen:L.length<4294967296) (hwf:Wfc L) (hr:CRd w ao L w.heap.size) :
   Calls Tryz.prog 51 #[.slice ao L.length cap] w fun e w'=>e=.returned (.tuple #[.int .u32 ((cnV L).1:Int),.int .u32 ((cnV L).2:Int)])∧Below w.heap.size w w':=by
 by_cases hs:L.length≤16
 · exact constantOf_lt ao cap L w hcap hlen hwf hr hs
 · exact constantOf_ge ao cap L w hcap hlen hwf hr (by omega)
def LyS (B:Nat) (w:World) (v:Value) (lay:Fz→Nat→Fz):Prop:=
 ∃ g lb,v=.func (.func g) #[] lb∧(∀ args w,(callFunc g args).run Tryz.prog w=.ok (.enter g args) w)∧∀ W,Fr B w W→∀ (f:Fz) (x:Nat),
   Calls Tryz.prog g (#[.agg (fzA f),.int .u32 (x:Int)] ++ lb) W fun e w'=>e=.returned (.agg (fzA (lay f x)))∧Below W.heap.size W w'
def ptConst (lay:Fz→Nat→Fz):Pt:=fun L f=>(lay { f with len:=f.len+(cnV L).1 } (cnV L).2,decide (0<(cnV L).1))
theorem constantInto1_any {B:Nat} (gb:Nat) (lay:Fz→Nat→Fz) (v:Value) (ao:Option Addr) (cap:Nat) (L:List (Nat × Nat)) (f:Fz) (w:World) (hg:gb<w.heap.size) (hv:w.cell? ⟨gb,0,none⟩=some v) (hly:LyS B w v lay)
   (hcap:L.length≤cap) (hlen:f.len+L.length<4294967296) (hwf:Wfc L) (hr:CRd w ao L w.heap.size) :
   Calls Tryz.prog 50 #[.slice ao L.length cap,.agg (fzA f),.pointer (some ⟨gb,0,none⟩)] w fun e w'=>e=.returned (.tuple #[.agg (fzA (ptConst lay L f).1),.bool (ptConst lay L f).2])∧Below w.heap.size w w':=by
 have HC:=dhid (fun o o'=>constantOf_any ao cap L ((w.alloc o).alloc o') hcap (by omega) hwf ((hr.below (zbel2 w o o')).mono (by simp;omega)))
 have hcl:=cnV_le hwf
 obtain ⟨f0,f1,f2,f3,f4,f5⟩:=f
 rw [show ptConst lay L ⟨f0,f1,f2,f3,f4,f5⟩=(lay ⟨f0,f1+(cnV L).1,f2,f3,f4,f5⟩ (cnV L).2,decide (0<(cnV L).1)) from rfl]
 generalize cnV L=c at *
 obtain ⟨c1,c2⟩:=c
 simp only at hcl hlen
 obtain ⟨g,lb,rfl,eg,hcall⟩:=hly
 have HL:=dhid (fun W (hW:Below w.heap.size w W)=>hcall W (Fr.of hW) ⟨f0,f1+c1,f2,f3,f4,f5⟩ c2)
 have HN:=dhid (Bs.new w ⟨f0,f1,f2,f3,f4,f5⟩ fz0)
 have HLV:=dhid (fun V (hV:Below w.heap.size w V)=>(hV.cell (p:=⟨gb,0,none⟩) hg).trans hv)
 have hs:f1+c1<4294967296:=by omega
 have hz:decide ((0:Int)<(c1:Int))=decide (0<c1):=by
   by_cases h:0<c1
   · rw [decide_eq_true h,decide_eq_true (by omega)]
   · rw [decide_eq_false h,decide_eq_false (by omega)]
 generalize lay ⟨f0,f1+c1,f2,f3,f4,f5⟩ c2=q at HL ⊢
 simp only [fzA,fz0] at HN HC ⊢
 simp only [fzA] at HL
 clear hcall hr hwf
 go_enter Tryz.func50,Tryz.ntmps50
 go_wp2_with (go_at_call 51;with_reducible refine (HC.out _ _).mono ?_;rintro e w1 ⟨rfl,hb1⟩
              have N1:=dhid (HN.out.next hb1)
              have k1:=N1.out.cells.2.1
              have k2:=obj_frozen N1.out.c0 1
              have M1:=dhid (N1.out.setLen (f1+c1))
              have HS1:=M1.out.cells
              have HG1:=HLV.out _ M1.out.bw
              rw [show ((f1+c1:Nat):Int)=(f1:Int)+(c1:Int) from rfl] at M1 HS1 HG1
              obtain ⟨j0,j1,j2,j3,j4,j5⟩:=HS1)
 refine (HL.out _ M1.out.bw).mono ?_
 rintro e w2 ⟨rfl,hb2⟩
 have M2:=dhid (M1.out.next hb2)
 clear hb2 HL HLV HN HC N1 M1 k1 k2 j0 j1 j2 j3 j4 j5 HG1 hb1
 go_wp2_with (refine wpList_storeF rfl _ _ rfl (w.heap.size+1) fz0 q rfl rfl M2.out.c1 ?_)
 have M3:=M2.out.row q
 exact bodyPost_ret (resFzB (p:=5) (u:=6) (by kernel_rfl) _ _ (w.heap.size+1) _ rfl M3.c1 _ rfl rfl) rfl ⟨(by first|rfl|exact congrArg (fun b=>Ending.returned (Value.tuple #[Value.agg _,Value.bool b])) hz),M3.bw⟩
def shFold (k:Nat):Shp:=fun L=>if (lnP L 0 L.length).2.2.1=k then ⟨0,(lnP L 0 L.length).2.1,0,0,(lnP L 0 L.length).2.2.2,0⟩ else fz0
theorem folded1_any (gb k:Nat) (ao:Option Addr) (cap:Nat) (L:List (Nat × Nat)) (w:World) (hg:gb<w.heap.size) (hv:w.cell? ⟨gb,0,none⟩=some (.int .u8 (k:Int)))
   (hcap:L.length≤cap) (hlen:L.length<4294967296) (hwf:Wfc L) (hr:CRd w ao L w.heap.size) :
   Calls Tryz.prog 56 #[.slice ao L.length cap,.pointer (some ⟨gb,0,none⟩)] w fun e w'=>e=.returned (.agg (fzA (shFold k L)))∧Below w.heap.size w w':=by
 have F:=dhid (fun o=>Longest_any ao cap 0 L.length L (w.alloc o) (by omega) hcap (by decide) hlen hwf ((hr.below ((Below.refl _ w).alloc (Nat.le_refl _) o)).mono (by simp)))
 rw [show ((0:Nat):Int)=0 from rfl] at F
 unfold shFold
 generalize lnE L 0 L.length=er at F
 generalize lnP L 0 L.length=q at *
 obtain ⟨qa,ql,qk,qv⟩:=q
 simp only [pcA] at F ⊢
 have hbd:Below w.heap.size w w:=Below.refl _ _
 have HLV:=dhid (fun V (hV:Below w.heap.size w V)=>(hV.cell (p:=⟨gb,0,none⟩) hg).trans hv)
 clear hr hwf
 by_cases hk:qk=k
 · rw [if_pos hk]
   subst hk
   go_enter Tryz.func56,Tryz.ntmps56
   go_wp2_with (first
     | (go_at_call 57;with_reducible refine (F.out _).mono ?_;rintro e w1 ⟨rfl,hb1⟩
        have o1:=dhid ((hb1.block w.heap.size (by simp)).trans (heap_alloc_new w _))
        have B1:=dhid ((hbd.alloc (Nat.le_refl _) _).trans (hb1.mono (by simp)))
        have hz:w.heap.size<w1.heap.size:=(Array.getElem?_eq_some_iff.1 o1.out).1
        have y0:=fun o=>HLV.out (w1.alloc o) (B1.out.alloc B1.out.size o)
        have o2:=dhid (fun o=>(Below.heap_alloc w1 o w.heap.size hz).trans o1.out)
        have hgz:gb<w1.heap.size:=by omega
        have y1:=HLV.out w1 B1.out)
     |(refine wpList_storeF rfl _ _ rfl w.heap.size fz0 ⟨0,ql,0,0,qv,0⟩ rfl rfl (o2.out _) ?_))
   exact bodyPost_ret (resFz (p:=3) (by kernel_rfl) _ w.heap.size _ rfl (setRow_heap _ _ _ _ _ _ (o2.out _)) _ rfl) rfl ⟨rfl,(B1.out.alloc B1.out.size _).trans ((KpSetRow (S:=fun i=>i=w.heap.size) _ _ _ rfl).below (by simp;omega) (fun i e=>by omega))⟩
 · rw [if_neg hk]
   have d1:((qk:Int) != (k:Int))=true:=by simp;omega
   have d2:¬ (qk:Int)=(k:Int):=by omega
   go_enter Tryz.func56,Tryz.ntmps56
   go_wp2_with (first
     | (go_at_call 57;with_reducible refine (F.out _).mono ?_;rintro e w1 ⟨rfl,hb1⟩
        have o1:=dhid ((hb1.block w.heap.size (by simp)).trans (heap_alloc_new w _))
        have B1:=dhid ((hbd.alloc (Nat.le_refl _) _).trans (hb1.mono (by simp)))
        have hz:w.heap.size<w1.heap.size:=(Array.getElem?_eq_some_iff.1 o1.out).1
        have y0:=fun o=>HLV.out (w1.alloc o) (B1.out.alloc B1.out.size o)
        have o2:=dhid (fun o=>(Below.heap_alloc w1 o w.heap.size hz).trans o1.out)
        have hgz:gb<w1.heap.size:=by omega
        have y1:=HLV.out w1 B1.out)
     |(refine wpList_storeF rfl _ _ rfl w.heap.size fz0 fz0 rfl rfl (o2.out _) ?_))
   exact bodyPost_ret (resFz (p:=3) (by kernel_rfl) _ w.heap.size _ rfl (setRow_heap _ _ _ _ _ _ (o2.out _)) _ rfl) rfl ⟨rfl,(B1.out.alloc B1.out.size _).trans ((KpSetRow (S:=fun i=>i=w.heap.size) _ _ _ rfl).below (by simp;omega) (fun i e=>by omega))⟩
end Go.Proofs.YtibhlcfligfhdaaGreat
