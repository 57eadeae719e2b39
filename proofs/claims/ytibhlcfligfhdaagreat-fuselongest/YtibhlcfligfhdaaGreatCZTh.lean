import Derived.Test.YtibhlcfligfhdaaGreatCZMk
import Derived.RangeFuncNested
import Derived.RangeFuncBound
import Derived.RangeFuncCalls
import Derived.RangeFuncLeaves
import Derived.OwnWalkIn
import Derived.TacticsInMore
import Derived.LoopNIn
import Derived.LoopIn
import Derived.Test.YtibhlcfligfhdaaGreatCDLg
namespace Go.Proofs.YtibhlcfligfhdaaGreat
set_option maxHeartbeats 8000000
open Go.RowKit Go.WideShapes Go.Shelf
set_option maxRecDepth 100000
attribute [local go_sem] Oper.semAt_some
abbrev encZ (x:Fz):Array Value:=#[.agg (fzA x)]
def Kz (B:Nat) (ao:Option Addr) (L:List (Nat × Nat)) (Bc:Nat) (W W':World):Prop:=Fr B W W'∧(CRd W ao L Bc→CRd W' ao L Bc)
theorem Kz_t {B:Nat} {ao:Option Addr} {L:List (Nat × Nat)} {Bc:Nat} {a b c:World} (h:Kz B ao L Bc a b) (k:Kz B ao L Bc b c):Kz B ao L Bc a c:=⟨h.1.trans k.1,fun x=>k.2 (h.2 x)⟩
theorem heap_putz {W:World} {l b:Nat} {o o':Obj} {cs:Array Value} {t:Nat} {fr:Nat × Nat} (h:W.heap[l]?=some o) (hc:o.isCells=false) (hb:W.heap[b]?=some (.cells cs t fr)):(W.putObj l o').heap[b]?=some (.cells cs t fr):=by
 refine ((grownBy_putObj' W l o').block b (Array.getElem?_eq_some_iff.1 hb).1 ?_).trans hb
 intro e
 cases e
 rw [hb] at h
 cases h
 cases hc
theorem cellv_of {w W:World} (h:∀ (i:Nat) (cs:Array Value) (t:TypeId) (fr:Nat × Nat),w.heap[i]?=some (.cells cs t fr)→W.heap[i]?=some (.cells cs t fr)) {p:Addr} {v:Value} (hv:w.cell? p=some v):W.cell? p=some v:=by
 have hv0:=hv
 unfold World.cell? at hv
 split at hv
 · rename_i cs t fr ho
   exact (World.cell?_of_block ((h _ cs t fr ho).trans ho.symm)).trans hv0
 · cases hv
theorem crd_of {w W:World} (h:∀ (i:Nat) (cs:Array Value) (t:TypeId) (fr:Nat × Nat),w.heap[i]?=some (.cells cs t fr)→W.heap[i]?=some (.cells cs t fr)) {ao:Option Addr} {L:List (Nat × Nat)} {B:Nat} (hr:CRd w ao L B):CRd W ao L B:=fun hl=>by
 obtain ⟨b,off,e,hb,hx⟩:=hr hl
 exact ⟨b,off,e,hb,fun j hj=>⟨cellv_of h (hx j hj).1,cellv_of h (hx j hj).2⟩⟩
theorem Kz_b {B:Nat} {ao:Option Addr} {L:List (Nat × Nat)} {Bc:Nat} {w:World} (W:World) (l:Nat) (o o':Obj) (_:w.heap.size≤l) (h:W.heap[l]?=some o) (hc:o.isCells=false) (_:o.isWalk=false):Kz B ao L Bc W (W.putObj l o'):=
 ⟨⟨by simp,fun _ _ _ _ _ q=>heap_putz h hc q⟩,crd_of (fun _ _ _ _ q=>heap_putz h hc q)⟩
def thsV (L:List (Nat × Nat)) (at_:Nat):List Fz:=thS L.length L at_
theorem thS_step (n:Nat) (p:Nat × Nat) (R:List (Nat × Nat)) (at_:Nat) (h:erV p.1 p.2=0):thS (n+1) (p :: R) at_=bst (p :: R) at_ 15 :: thS n ((p :: R).drop (bst (p :: R) at_ 15).len) (at_+(bst (p :: R) at_ 15).len):=if_pos h
theorem thS_no (n:Nat) (p:Nat × Nat) (R:List (Nat × Nat)) (at_:Nat) (h:¬ erV p.1 p.2=0):thS n (p :: R) at_=[]:=by
 cases n with
 |zero=>rfl
 |succ n=>exact if_neg h
theorem thS_nil (n:Nat) (at_:Nat):thS n [] at_=[]:=by cases n <;> rfl
structure ThS (L:List (Nat × Nat)) (at_ cap:Nat) (ao:Option Addr) (Bc B:Nat) (w1:World) (T:Nat) (cs:Array Value) (p:Nat) (a:Option Addr) (pre:List Fz) (W:World):Prop where
 pl:p≤L.length
 pa:p<L.length→∃ b off,ao=some ⟨b,off,none⟩∧a=some ⟨b,off+p*2,none⟩
 rest:∃ f,pre ++ thS f (L.drop p) (at_+p)=thsV L at_∧L.length≤p+f
 np:pre.length≤p
 fr:Fr B w1 W
 rd:CRd W ao L Bc
 tb:W.heap[T]?=some (.cells cs 52)
 hz:B≤W.heap.size∧B≤T∧Bc≤W.heap.size
theorem wpListIn_store_rowZ {F:Fence} {n:Nat} {P:Program} {ops:Array Oper} {Q:Exit→Act→World→Prop} {rest:List Oper} {o:Oper} {a:Act} {w:World} (hg:o.guard=none) (t:TypeId) (p q:Operand) (ho:o.op=.store t p q)
   (b:Nat) (cs cs':Array Value) (h0:a.eval p=.pointer (some ⟨b,0,none⟩)) (h1:a.eval q=.agg cs') (hb:w.heap[b]?=some (.cells cs t)) (hi:(P.info? t).map (·.size)=some cs'.size) (hs:cs.size=cs'.size) (h2:cs'.all (·.oneCell')=true)
   (h:wpListIn F n P ops Q rest (a.put o.dst undef) (w.setRow b cs')):wpListIn F n P ops Q (o :: rest) a w:=by
 refine wpListIn_plain hg fun _ hK=>?_
 have:=run_storeVar_row (P:=P) w b t t cs cs' hb hi hs h2
 have hr:(execOp a.eval o).run P w=.ok .skip (w.setRow b cs'):=by
   simp only [execOp,ho,h0,h1,Instr.storeAt,Instr.sureAddr,Sem.run_bind,Sem.run_pure,Result.andThen,this]
 refine ⟨fun f hf=>?_,?_⟩
 · simp [Oper.about,ho] at hf
 · have hs:(o.semAt F.round a.eval).run P w=.ok .skip (w.setRow b cs'):=by
     rw [←hr];congr 1;simp [Oper.semAt,ho,execOp]
   rw [hs]
   exact hK _ _ h
theorem all_one {cs:Array Value} (hs:cs.size=16) (h:∀ k,k<16→(cs.getD k .nilFunc).oneCell'=true):cs.all (·.oneCell')=true:=by
 rw [Array.all_eq_true]
 intro i hi
 have:=h i (by omega)
 rw [Array.getD_eq_getD_getElem?,Array.getElem?_eq_getElem hi] at this
 simpa using this
def nil16:Array Value:=#[.nilFunc,.nilFunc,.nilFunc,.nilFunc,.nilFunc,.nilFunc,.nilFunc,.nilFunc,.nilFunc,.nilFunc,.nilFunc,.nilFunc,.nilFunc,.nilFunc,.nilFunc,.nilFunc]
theorem ths_start {L:List (Nat × Nat)} {at_ cap Bc B:Nat} {ao:Option Addr} {W w1:World} {cs:Array Value} (hB:B≤W.heap.size) (hb:Below W.heap.size W w1) (hr:CRd W ao L Bc) (hBc:Bc≤W.heap.size) :
   ThS L at_ cap ao Bc B w1 w1.heap.size cs 0 ao [] ((w1.alloc (.cells nil16 52)).setRow w1.heap.size cs):=by
 have hk:=KpSetRow (S:=fun k=>k=w1.heap.size) (w1.alloc (.cells nil16 52)) w1.heap.size cs rfl
 have hb2:Below w1.heap.size w1 ((w1.alloc (.cells nil16 52)).setRow w1.heap.size cs):=(bel1 w1 _).trans (hk.below (by simp) (fun i e=>by omega))
 have hb3:=hb.trans (hb2.mono hb.size)
 refine ⟨Nat.zero_le _,fun h=>?_,⟨L.length,rfl,by omega⟩,Nat.le_refl _,Fr.of hb2,hr.below (hb3.mono hBc),setRow_heap _ _ _ _ _ _ (heap_alloc_new w1 _),by have:=hb3.size;omega,by have:=hb.size;omega,by have:=hb3.size;omega⟩
 obtain ⟨b,off,e,_⟩:=hr h
 exact ⟨b,off,e,by simp [e]⟩
theorem boxed_belz {W V:World} {b t:Nat} {v:Value} (h:Boxed W b t v) (hb:Below W.heap.size W V):Boxed V b t v:=(hb.block b h.lt).trans h
theorem ThS.drew {L:List (Nat × Nat)} {at_ cap p T Bc B:Nat} {ao a:Option Addr} {w1 W:World} {cs:Array Value} {pre:List Fz} (h:ThS L at_ cap ao Bc B w1 T cs p a pre W):ThS L at_ cap ao Bc B w1 T cs p a pre W.drew:=
 ⟨h.pl,h.pa,h.rest,h.np,h.fr,h.rd,h.tb,h.hz⟩
theorem ThS.below {L:List (Nat × Nat)} {at_ cap p T Bc B:Nat} {ao a:Option Addr} {w1 W W':World} {cs:Array Value} {pre:List Fz} (h:ThS L at_ cap ao Bc B w1 T cs p a pre W) (hb:Below W.heap.size W W'):ThS L at_ cap ao Bc B w1 T cs p a pre W':=
 ⟨h.pl,h.pa,h.rest,h.np,h.fr.trans (Fr.of hb),h.rd.below (hb.mono h.hz.2.2),(hb.block T (Array.getElem?_eq_some_iff.1 h.tb).1).trans h.tb,Nat.le_trans h.hz.1 hb.size,h.hz.2.1,Nat.le_trans h.hz.2.2 hb.size⟩
theorem ThS.left {L:List (Nat × Nat)} {at_ cap p T Bc B:Nat} {ao a:Option Addr} {w1 W:World} {cs:Array Value} {pre:List Fz} (h:ThS L at_ cap ao Bc B w1 T cs p a pre W):CRd W a (L.drop p) Bc:=by
 intro hl
 rw [List.length_drop] at hl
 obtain ⟨b,off,e,ea⟩:=h.pa (by omega)
 have hr:=h.rd
 subst e
 subst ea
 exact crd_drop hr p (by rw [List.length_drop];exact hl)
structure InZ (V W:World) (R:List (Nat × Nat)) (beg k:Nat):Prop where
 bl:Below V.heap.size V W
 lg:W.heap[V.heap.size]?=some (.cells (fzA (bst R beg (k-1))) 28)
theorem InZ.th {V W W2:World} {R:List (Nat × Nat)} {beg k:Nat} (h:InZ V W R beg k) (hb:Below W.heap.size W W2) (f:Fz) :
   let W3:=(W2.alloc (.cells #[.int .u32 0,.int .u32 0,.int .u8 0,.int .u8 0,.int .u32 0,.int .u32 0] 28)).setRow W2.heap.size (fzA f)
   Below V.heap.size V W3∧W3.heap[V.heap.size]?=some (.cells (fzA (bst R beg (k-1))) 28)∧W3.heap[W2.heap.size]?=some (.cells (fzA f) 28)∧V.heap.size≠W2.heap.size:=by
 have hk:=KpSetRow (S:=fun k=>k=W2.heap.size) (W2.alloc (.cells #[.int .u32 0,.int .u32 0,.int .u8 0,.int .u8 0,.int .u32 0,.int .u32 0] 28)) W2.heap.size (fzA f) rfl
 have hl:V.heap.size<W.heap.size:=(Array.getElem?_eq_some_iff.1 h.lg).1
 have hs:=hb.size
 have hb2:Below W2.heap.size W2 ((W2.alloc (.cells #[.int .u32 0,.int .u32 0,.int .u8 0,.int .u8 0,.int .u32 0,.int .u32 0] 28)).setRow W2.heap.size (fzA f)):=(bel1 W2 _).trans (hk.below (by simp) (fun i e=>by omega))
 exact ⟨(h.bl.trans (hb.mono h.bl.size)).trans (hb2.mono (by omega)),((hb2.block _ (by omega)).trans (hb.block _ hl)).trans h.lg,setRow_heap _ _ _ _ _ _ (heap_alloc_new W2 _),by omega⟩
theorem InZ.make {V W:World} {R:List (Nat × Nat)} {beg k:Nat} {f:Fz} (h1:Below V.heap.size V W) (h2:W.heap[V.heap.size]?=some (.cells (fzA f) 28)) (hq:bst R beg k=f):InZ V W R beg (k+1):=⟨h1,by rw [Nat.add_sub_cancel,hq];exact h2⟩
theorem InZ.put {V W:World} {R:List (Nat × Nat)} {beg k:Nat} {f g:Fz} (h1:Below V.heap.size V W) (h2:W.heap[V.heap.size]?=some (.cells (fzA g) 28)) (hq:bst R beg k=f):InZ V (W.setRow V.heap.size (fzA f)) R beg (k+1):=
 InZ.make (h1.trans ((KpSetRow (S:=fun i=>i=V.heap.size) _ _ _ rfl).below h1.size (fun i e=>by omega))) (setRow_heap _ _ _ _ _ _ h2) hq
theorem bst_yes {R:List (Nat × Nat)} {beg k:Nat} {f:Fz} {b:Bool} (hk:1≤k) (h:fkV R beg k=(f,b)) (hlt:(bst R beg (k-1)).len<f.len):bst R beg k=f:=by
 obtain ⟨k,rfl⟩:∃ j,k=j+1:=⟨k-1,by omega⟩
 rw [Nat.add_sub_cancel] at hlt
 unfold bst
 rw [h,if_pos hlt]
theorem bst_not {R:List (Nat × Nat)} {beg k:Nat} {f:Fz} {b:Bool} (hk:1≤k) (h:fkV R beg k=(f,b)) (hlt:¬ (bst R beg (k-1)).len<f.len):bst R beg k=bst R beg (k-1):=by
 obtain ⟨k,rfl⟩:∃ j,k=j+1:=⟨k-1,by omega⟩
 rw [Nat.add_sub_cancel] at hlt
 have h2:bst R beg (k+1)=if (bst R beg k).len<(fkV R beg (k+1)).1.len then (fkV R beg (k+1)).1 else bst R beg k:=rfl
 rw [h2,h,if_neg hlt,Nat.add_sub_cancel]
theorem thS_none {R:List (Nat × Nat)} {beg:Nat} {f:Fz} (h0:0<R.length) (h:fkV R beg 1=(f,false)) (n at_:Nat):thS n R at_=[]:=by
 match R,h0 with
 | q :: R,_=>
   rw [fkV_one] at h
   by_cases he:erV q.1 q.2=0
   · rw [if_pos he] at h;cases h
   · exact thS_no n q R at_ he
theorem thS_some {R:List (Nat × Nat)} {beg:Nat} {f:Fz} (h0:0<R.length) (h:fkV R beg 1=(f,true)):1≤(bst R beg 15).len∧∀ n,thS (n+1) R beg=bst R beg 15 :: thS n (R.drop (bst R beg 15).len) (beg+(bst R beg 15).len):=by
 match R,h0 with
 | q :: R,_=>
   rw [fkV_one] at h
   by_cases he:erV q.1 q.2=0
   · exact ⟨bst_pos he beg 14,fun n=>thS_step n q R beg he⟩
   · rw [if_neg he] at h;cases h
theorem ThS.cut {L:List (Nat × Nat)} {at_ cap p T Bc B:Nat} {ao a:Option Addr} {w1 W:World} {cs:Array Value} {pre:List Fz} (h:ThS L at_ cap ao Bc B w1 T cs p a pre W) (hwf:Wfc L) (hp:p<L.length) {f:Fz} (h1:fkV (L.drop p) (at_+p) 1=(f,true)) :
   1≤(bst (L.drop p) (at_+p) 15).len∧p+(bst (L.drop p) (at_+p) 15).len≤L.length∧pre ++ [bst (L.drop p) (at_+p) 15] <+: thsV L at_∧(∃ f',pre ++ [bst (L.drop p) (at_+p) 15] ++ thS f' (L.drop (p+(bst (L.drop p) (at_+p) 15).len)) (at_+(p+(bst (L.drop p) (at_+p) 15).len))=thsV L at_∧L.length≤p+(bst (L.drop p) (at_+p) 15).len+f'):=by
 obtain ⟨hp1,hst⟩:=thS_some (by rw [List.length_drop];omega) h1
 have hle:=bst_le (wfc_drop hwf p) (at_+p) 15
 rw [List.length_drop] at hle
 obtain ⟨f',hf,hfl⟩:=h.rest
 obtain ⟨f',rfl⟩:∃ g,f'=g+1:=⟨f'-1,by omega⟩
 rw [hst f',List.drop_drop,Nat.add_assoc] at hf
 refine ⟨hp1,by omega,⟨_,by rw [List.append_assoc];exact hf⟩,f',by rw [List.append_assoc];exact hf,by omega⟩
def sizeOf_ (v:Value):Nat:=match v with | .slice _ n _=>n|_=>0
theorem th1_in (n : Nat) (hn1:1≤n) (l b1 b2 Bc:Nat) (ao:Option Addr) (cap at_:Nat) (L:List (Nat × Nat)) (J Jx:List Fz→World→Prop) (W:World) (hJ:AbidesFrom W.heap.size J) (B:Nat) (hB:B≤W.heap.size)
   (hcap:L.length≤cap) (hlen:at_+L.length<4294967296) (hwf:Wfc L)
   (hY:∀ pre x W1,J pre W1→pre.length<4294967296→YieldAt Fence.wide (n-1) Tryz.prog l (encZ x) W1 fun e W'=>
     (e=.returned (.bool true)∧J (pre ++ [x]) W'∧Kz B ao L Bc W1 W')∨(e=.returned (.bool false)∧Jx (pre ++ [x]) W'))
   (h1:Boxed W b1 23 (.int .u32 (at_:Int))) (h2:Boxed W b2 22 (.slice ao L.length cap)) (hr:CRd W ao L Bc) (hBc:Bc≤W.heap.size) (h0:J [] W) :
   CallsIn Fence.wide n Tryz.prog 48 #[.func (.yield l) #[] #[],.pointer (some ⟨b1,0,none⟩),.pointer (some ⟨b2,0,none⟩)] W fun e W'=>(∃ v,e=.returned v) ∧
     ((∃ ys,ys=thsV L at_∧J ys W')∨(∃ pre,pre <+: thsV L at_∧Jx pre W')):=by
 refine callsIn_of_wp Tryz.func48 rfl trivial ?_ rfl
 simp only [Tryz.ntmps48,List.size_toArray,List.length_cons,List.length_nil,Nat.reduceAdd,Nat.reduceSub,Array.replicate_succ,Array.replicate_zero,List.push_toArray,List.append_toArray,List.nil_append,List.cons_append]
 have HS:=dhid (shapes_any W)
 gi_step
 refine wpIn_wide.2 (wp_scope_straight ((wpIn_wide (n:=n)).1 ?_))
 gi_wp2_with (first
   |((first|refine ⟨trivial,fun _=>by omega,?_⟩|refine ⟨trivial,?_⟩);gi_at_call 19;refine ((callsIn_wide (n:=n-1)).2 HS.out).mono ?_;rintro e w1 ⟨cs,rfl,hcs,hsh,hone,hb1⟩)
   | (refine wpListIn_store_rowZ rfl _ _ _ rfl w1.heap.size nil16 cs rfl rfl (heap_alloc_new w1 _) (by rw [sizeSh,hcs]) hcs.symm (all_one hcs hone) ?_
      have H0:Hid (ThS L at_ cap ao Bc B w1 w1.heap.size cs 0 ao [] ((w1.alloc (Obj.cells #[.nilFunc,.nilFunc,.nilFunc,.nilFunc,.nilFunc,.nilFunc,.nilFunc,.nilFunc,.nilFunc,.nilFunc,.nilFunc,.nilFunc,.nilFunc,.nilFunc,.nilFunc,.nilFunc] 52)).setRow w1.heap.size cs)):=dhid (ths_start hB hb1 hr hBc)
      have hb3:Below W.heap.size W ((w1.alloc (Obj.cells #[.nilFunc,.nilFunc,.nilFunc,.nilFunc,.nilFunc,.nilFunc,.nilFunc,.nilFunc,.nilFunc,.nilFunc,.nilFunc,.nilFunc,.nilFunc,.nilFunc,.nilFunc,.nilFunc] 52)).setRow w1.heap.size cs):=(hb1.trans ((bel1 w1 _).mono hb1.size)).trans ((KpSetRow (S:=fun k=>k=w1.heap.size) _ _ cs rfl).below (by have:=hb1.size;simp;omega) (fun i e=>by have:=hb1.size;omega))
      generalize hV0:(w1.alloc (Obj.cells #[.nilFunc,.nilFunc,.nilFunc,.nilFunc,.nilFunc,.nilFunc,.nilFunc,.nilFunc,.nilFunc,.nilFunc,.nilFunc,.nilFunc,.nilFunc,.nilFunc,.nilFunc,.nilFunc] 52)).setRow w1.heap.size cs=V0 at *
      clear hV0
      have c1:=(boxed_belz h1 hb3).cell
      have c2:=(boxed_belz h2 hb3).cell
      have HJ0:=dhid (hJ [] W V0 none h0 (grown_of_below hb3) (fun r e=>by cases e))
      have HSH:=dhid hsh
      have HONE:=dhid hone
      have HCS:=dhid hcs
      have HB1:=dhid hb1
      clear h1 h2 hr HS hb3 hsh hone hcs hb1))
 simp only [Act.put]
 gi_region
 have H1:=dhid H0.out.drew
 have HJ1:=dhid (hJ [] V0 V0.drew none HJ0.out (grown_of_below (show Below V0.heap.size V0 V0.drew from ⟨rfl,rfl,rfl,Nat.le_refl _,fun _ _=>rfl⟩)) (fun r e=>by cases e))
 clear HJ0 H0 c1 c2
 generalize V0.drew=V1 at *
 gi_wp2
 refine wpIn_label ?_
 gi_wp2
 gi_loopw [5,6] (fun u v wr=>∃ (p beg:Nat) (a:Option Addr) (pre:List Fz),Hid (beg=at_+p)∧u=.int .u32 (beg:Int)∧v=.slice a (L.length-p) (cap-p)∧Hid (ThS L at_ cap ao Bc B w1 w1.heap.size cs p a pre wr)∧Hid (J pre wr)) (fun _ v _=>sizeOf_ v)
 case atStart=>exact ⟨0,at_,ao,[],dhid rfl,rfl,rfl,H1,HJ1⟩
 case round=>
   clear H1 HJ1
   obtain ⟨p,beg,a,pre,HBG,rfl,rfl,H,HJ⟩:=hrel
   rename World=>V
   by_cases hpl:p<L.length
   · have hplI : (0:Int)<((L.length-p:Nat):Int):=by omega
     obtain ⟨R,hR⟩:∃ R,R=L.drop p:=⟨_,rfl⟩
     have hRl:R.length=L.length-p:=by rw [hR,List.length_drop]
     have HW:=dhid (show Wfc R by rw [hR];exact wfc_drop hwf p)
     have HRl:=dhid hRl
     gi_wp2
     have HI0:Hid (InZ V (V.alloc (.cells #[.int .u32 0,.int .u32 0,.int .u8 0,.int .u8 0,.int .u32 0,.int .u32 0] 28)) R beg 1):=dhid ⟨bel1 _ _,heap_alloc_new _ _⟩
     have hrs:=H.out.hz
     have hplN:0<L.length-p:=by omega
     simp only [decide_eq_true hplN]
     gi_loopw [8] (fun u w2=>∃ k:Nat,u=.int .u8 (k:Int)∧1≤k∧k≤16∧Hid (InZ V w2 R beg k)∧Hid (2≤k→∃ f,fkV R beg 1=(f,true))) (fun u _=>16-(intOf u).toNat)
     case atStart=>exact ⟨1,rfl,Nat.le_refl _,by decide,HI0,dhid (fun h=>absurd h (by decide))⟩
     case round =>
       rename World=>w2
       clear HI0
       obtain ⟨k,rfl,hk1,hk2,HI,HP⟩:=hrel
       by_cases hk:k≤15
       · have hkI : (k:Int)≤15:=by omega
         have hkI':(k:Int)<16:=by omega
         obtain ⟨fv,hfv⟩:∃ fv,fv=cs.getD k .nilFunc:=⟨_,rfl⟩
         have cT:w2.cell? ⟨w1.heap.size,k,none⟩=some fv:=by
           rw [obj_cell (H.out.below HI.out.bl).tb k,hfv]
           have hkc:k<cs.size:=by rw [HCS.out];omega
           rw [Array.getD_eq_getD_getElem?,Array.getElem?_eq_getElem hkc]
           rfl
         have HFT:Hid (Calls Tryz.prog 18 #[fv,.int .u8 (k:Int),.slice a (L.length-p) (cap-p),.int .u32 (beg:Int)] w2 fun e w'=>e=.returned (.tuple #[.agg (fzA (fkV R beg k).1),.bool (fkV R beg k).2])∧Below w2.heap.size w2 w'):=dhid (by
           have hT:=H.out.below HI.out.bl
           have:=fit_any (B:=W.heap.size+1) fv (shK k) k beg a (cap-p) R w2 w1 (hfv▸HSH.out k hk1 hk) (hT.fr.weak (by omega)) (by omega) (by omega) (by omega) HW.out (by rw [hR];exact hT.left.mono hT.hz.2.2)
           rw [hRl] at this
           exact this)
         have HFK:=dhid (show fkV R beg k=fkV R beg k from rfl)
         generalize hfk:fkV R beg k=fk at HFT
         obtain ⟨f,ok⟩:=fk
         simp only at HFT
         have HL:=dhid (fun (w3:World) (hb:Below w2.heap.size w2 w3)=>((hb.block V.heap.size (Array.getElem?_eq_some_iff.1 HI.out.lg).1).trans HI.out.lg))
         have HBV:=dhid (fun (w3:World) (hb:Below w2.heap.size w2 w3)=>HI.out.bl.trans (hb.mono HI.out.bl.size))
         have hVl:V.heap.size<w2.heap.size:=(Array.getElem?_eq_some_iff.1 HI.out.lg).1
         have HFK2:=dhid hfk
         have HR:=dhid hR
         have HC:=dhid (fun (w3:World) (hb:Below w2.heap.size w2 w3)=>InZ.th HI.out hb f)
         clear hRl hR hfv hfk HFK hY HSH HCS HONE hwf HL HBV
         gi_wp2_with fail
         refine ⟨trivial,?_⟩
         refine ((callsIn_wide (n:=n-1)).2 HFT.out).mono ?_
         rintro e w3 ⟨rfl,hb3⟩
         clear HFT cT
         by_cases hk0:k=1
         · cases ok with
           | false=>
             have hE:=dhid (fun n at_=>thS_none (R:=R) (by rw [HRl.out];omega) (hk0▸HFK2.out) n at_)
             have HB3:=dhid (HC.out w3 hb3).1
             subst hk0
             clear HC
             gi_wp2_with (refine wpListIn_store_rowZ rfl _ _ _ rfl w3.heap.size (fzA fz0) (fzA f) rfl rfl (heap_alloc_new w3 _) (by rw [sizeFz];rfl) rfl (by simp [fzA,Value.oneCell']) ?_)
             rw [Exit.noGoto_normal]
             go_end0
             refine ⟨⟨_,rfl⟩,.inl ⟨pre,?_,hJ pre V _ none HJ.out (grown_of_below HB3.out) (fun r e=>by cases e)⟩⟩
             obtain ⟨f',hf,hfl⟩:=H.out.rest
             rw [←HR.out,hE.out,List.append_nil] at hf
             exact hf
           | true =>
             subst hk0
             have HP1:Hid (2≤2→∃ f,fkV R beg 1=(f,true)):=dhid (fun _=>⟨_,HFK2.out⟩)
             by_cases hlt:(bst R beg (1-1)).len<f.len
             · have HQ:=dhid (show bst R beg 1=f from bst_yes (by omega) HFK2.out hlt)
               have hltI:((bst R beg (1-1)).len:Int)<(f.len:Int):=by omega
               gi_wp2_with (first
                | (
                  refine wpListIn_store_rowZ rfl _ _ _ rfl w3.heap.size (fzA fz0) (fzA f) rfl rfl (heap_alloc_new w3 _) (by rw [sizeFz];rfl) rfl (by simp [fzA,Value.oneCell']) ?_
                  have HX:=dhid (HC.out w3 hb3)
                  generalize (w3.alloc (Obj.cells #[.int .u32 0,.int .u32 0,.int .u8 0,.int .u8 0,.int .u32 0,.int .u32 0] 28)).setRow w3.heap.size (fzA f)=W3 at *
                  obtain ⟨x0,x1,x2,x3,x4,x5⟩:=fz_cells HX.out.2.2.1
                  have y1:=(fz_cells HX.out.2.1).2.1
                  clear HC)
                |(refine wpListIn_store_rowZ rfl _ _ _ rfl V.heap.size (fzA (bst R beg (1-1))) (fzA f) rfl rfl HX.out.2.1 (by rw [sizeFz];rfl) rfl (by simp [fzA,Value.oneCell']) ?_))
               go_roundw
               case rel=>exact ⟨2,by go_num,by omega,by omega,dhid (InZ.put HX.out.1 HX.out.2.1 HQ.out),HP1⟩
               case measure=>first|(simp [intOf];done)|(simp [intOf];omega)
             · have HQ:=dhid (show bst R beg 1=bst R beg (1-1) from bst_not (by omega) HFK2.out hlt)
               have hltI:¬ ((bst R beg (1-1)).len:Int)<(f.len:Int):=by omega
               gi_wp2_with (
                  refine wpListIn_store_rowZ rfl _ _ _ rfl w3.heap.size (fzA fz0) (fzA f) rfl rfl (heap_alloc_new w3 _) (by rw [sizeFz];rfl) rfl (by simp [fzA,Value.oneCell']) ?_
                  have HX:=dhid (HC.out w3 hb3)
                  generalize (w3.alloc (Obj.cells #[.int .u32 0,.int .u32 0,.int .u8 0,.int .u8 0,.int .u32 0,.int .u32 0] 28)).setRow w3.heap.size (fzA f)=W3 at *
                  obtain ⟨x0,x1,x2,x3,x4,x5⟩:=fz_cells HX.out.2.2.1
                  have y1:=(fz_cells HX.out.2.1).2.1
                  clear HC)
               go_roundw
               case rel=>exact ⟨2,by go_num,by omega,by omega,dhid (InZ.make HX.out.1 HX.out.2.1 HQ.out),HP1⟩
               case measure=>first|(simp [intOf];done)|(simp [intOf];omega)
         · have hk0I:¬ (k:Int)=1:=by omega
           have HP1:Hid (2≤k+1→∃ f,fkV R beg 1=(f,true)):=dhid (fun _=>HP.out (by omega))
           by_cases hlt:(bst R beg (k-1)).len<f.len
           · have HQ:=dhid (show bst R beg k=f from bst_yes (by omega) HFK2.out hlt)
             have hltI:((bst R beg (k-1)).len:Int)<(f.len:Int):=by omega
             gi_wp2_with (first
              | (
                refine wpListIn_store_rowZ rfl _ _ _ rfl w3.heap.size (fzA fz0) (fzA f) rfl rfl (heap_alloc_new w3 _) (by rw [sizeFz];rfl) rfl (by simp [fzA,Value.oneCell']) ?_
                have HX:=dhid (HC.out w3 hb3)
                generalize (w3.alloc (Obj.cells #[.int .u32 0,.int .u32 0,.int .u8 0,.int .u8 0,.int .u32 0,.int .u32 0] 28)).setRow w3.heap.size (fzA f)=W3 at *
                obtain ⟨x0,x1,x2,x3,x4,x5⟩:=fz_cells HX.out.2.2.1
                have y1:=(fz_cells HX.out.2.1).2.1
                clear HC)
              |(refine wpListIn_store_rowZ rfl _ _ _ rfl V.heap.size (fzA (bst R beg (k-1))) (fzA f) rfl rfl HX.out.2.1 (by rw [sizeFz];rfl) rfl (by simp [fzA,Value.oneCell']) ?_))
             go_roundw
             case rel=>exact ⟨k+1,by go_num,by omega,by omega,dhid (InZ.put HX.out.1 HX.out.2.1 HQ.out),HP1⟩
             case measure=>first|(simp [intOf];done)|(simp [intOf];omega)
           · have HQ:=dhid (show bst R beg k=bst R beg (k-1) from bst_not (by omega) HFK2.out hlt)
             have hltI:¬ ((bst R beg (k-1)).len:Int)<(f.len:Int):=by omega
             gi_wp2_with (
                refine wpListIn_store_rowZ rfl _ _ _ rfl w3.heap.size (fzA fz0) (fzA f) rfl rfl (heap_alloc_new w3 _) (by rw [sizeFz];rfl) rfl (by simp [fzA,Value.oneCell']) ?_
                have HX:=dhid (HC.out w3 hb3)
                generalize (w3.alloc (Obj.cells #[.int .u32 0,.int .u32 0,.int .u8 0,.int .u8 0,.int .u32 0,.int .u32 0] 28)).setRow w3.heap.size (fzA f)=W3 at *
                obtain ⟨x0,x1,x2,x3,x4,x5⟩:=fz_cells HX.out.2.2.1
                have y1:=(fz_cells HX.out.2.1).2.1
                clear HC)
             go_roundw
             case rel=>exact ⟨k+1,by go_num,by omega,by omega,dhid (InZ.make HX.out.1 HX.out.2.1 HQ.out),HP1⟩
             case measure=>first|(simp [intOf];done)|(simp [intOf];omega)
       · have hkI:¬ (k:Int)≤15:=by omega
         have hk16:k=16:=by omega
         subst hk16
         have lg:w2.heap[V.heap.size]?=some (.cells (fzA (bst R beg 15)) 28):=HI.out.lg
         have hFI:Hid (∃ f,fkV R beg 1=(f,true)):=dhid (HP.out (by decide))
         obtain ⟨f,hf1⟩:=hFI.out
         have HCU:=dhid (H.out.cut hwf hpl (f:=f) (by rw [←hR,←HBG.out];exact hf1))
         rw [←hR,←HBG.out] at HCU
         generalize bst R beg 15=g at lg HCU
         have hB2:=HI.out.bl
         have hJ2:=hJ pre V w2 none HJ.out (grown_of_below hB2) (fun r e=>by cases e)
         obtain ⟨fn,tmps,assign,body,hy,hRR⟩:=hY pre g w2 hJ2 (by have:=H.out.np;omega)
         have HVB:Hid (B≤V.heap.size∧B≤w1.heap.size∧Bc≤V.heap.size):=dhid ⟨H.out.hz.1,H.out.hz.2.1,H.out.hz.2.2⟩
         have H2:=dhid (H.out.below hB2)
         obtain ⟨c0,c1,c2,c3,c4,c5⟩:=fz_cells lg
         have hy':(Instr.yield l #[.agg #[.int .u32 g.at_,.int .u32 g.len,.int .u8 g.kind,.int .u8 g.op,.int .u32 g.a,.int .u32 g.b]]).run Tryz.prog w2=.ok (.round l fn tmps assign body) w2:=hy
         have LG:=dhid lg
         have HWF:=dhid hwf
         have HR:=dhid hR
         clear hy hY HI HP hFI hf1 hJ2 hB2 HSH HONE HCS hwf hR hRl lg
         gi_wp2
         refine hRR.mono ?_
         clear hRR hy' c0 c1 c2 c3 c4 c5
         rintro e W3 (⟨rfl,hJ3,hk3⟩|⟨rfl,hJx3⟩)
         · have lg3:=hk3.1.2 _ _ _ _ HVB.out.1 LG.out
           have c1:=(fz_cells lg3).2.1
           have hg1:=HCU.out.1
           have hg2:=HCU.out.2.1
           have hbe:beg+g.len<4294967296:=by have:=HBG.out;omega
           have hwb:IntKind.u32.wrap ((beg:Int)+(g.len:Int))=(beg:Int)+(g.len:Int):=by rw [IntKind.wrap_u32];omega
           have hle1:(g.len:Int)≤((cap-p:Nat):Int):=by omega
           have hle2:g.len≤cap-p:=by omega
           have hle3:g.len≤L.length-p:=by omega
           obtain ⟨b,off,ea0,rfl⟩:=H2.out.pa hpl
           have HEA:=dhid ea0
           have H3:=dhid (show ∀ a':Option Addr,(p+g.len<L.length→a'=some ⟨b,off+(p+g.len)*2,none⟩)→ThS L at_ cap ao Bc B w1 w1.heap.size cs (p+g.len) a' (pre ++ [g]) W3 from fun a' ha'=>by
             obtain ⟨f',hf,hfl⟩:=HCU.out.2.2.2
             have hn:=H2.out.np
             have hz:=hk3.1.1
             have hz2:=H2.out.hz
             exact ⟨hg2,fun h=>⟨b,off,HEA.out,ha' h⟩,⟨f',hf,hfl⟩,by simp;omega,H2.out.fr.trans hk3.1,hk3.2 H2.out.rd,hk3.1.2 _ _ _ _ HVB.out.2.1 H2.out.tb,by omega,HVB.out.2.1,by omega⟩)
           have HBE:=dhid (show beg+g.len=at_+(p+g.len) by have:=HBG.out;omega)
           have hle4:(g.len:Int)≤((L.length-p:Nat):Int):=by omega
           clear ea0 hk3 lg3 hg2 hbe
           by_cases hcq:g.len=cap-p
           · have e1:cap-p=g.len:=hcq.symm
             have e2:L.length-p=g.len:=by omega
             have E1:=dhid (And.intro e1 e2)
             clear hle1 hle2 hle3 hle4 hplN hplI
             rw [e1,e2]
             clear hcq e1 e2
             gi_wp2
             go_roundw
             case rel=>exact ⟨p+g.len,beg+g.len,some ⟨b,off+p*2,none⟩,pre ++ [g],HBE,by go_num,by rw [←Nat.sub_sub,←Nat.sub_sub,E1.out.1,E1.out.2,Nat.sub_self],dhid (H3.out _ (fun h=>by have:=E1.out.2;omega)),dhid hJ3⟩
             case measure=>simp [sizeOf_];omega
           · have hcq2:¬ cap-p=g.len:=fun e=>hcq e.symm
             gi_wp2
             go_roundw
             case rel=>exact ⟨p+g.len,beg+g.len,some ⟨b,off+p*2+g.len*2,none⟩,pre ++ [g],HBE,by go_num,by rw [Nat.sub_sub,Nat.sub_sub],dhid (H3.out _ (fun _=>by rw [Nat.add_mul,Nat.add_assoc])),dhid hJ3⟩
             case measure=>simp [sizeOf_];omega
         · gi_wp2
           rw [Exit.noGoto_normal]
           go_end0
           exact ⟨⟨_,rfl⟩,.inr ⟨_,HCU.out.2.2.1,hJx3⟩⟩
   · have hpq:¬ (0:Int)<((L.length-p:Nat):Int):=by omega
     gi_wp2
     go_end0
     refine ⟨⟨_,rfl⟩,.inl ⟨pre,?_,HJ.out⟩⟩
     obtain ⟨f',hf,hfl⟩:=H.out.rest
     rw [List.drop_eq_nil_of_le (by omega),thS_nil,List.append_nil] at hf
     exact hf
attribute [local go_sem] Oper.semAt_some
theorem things_in (n:Nat) (ao:Option Addr) (len cap at_:Nat) (w:World) :
   CallsIn Fence.wide n Tryz.prog 24 #[.slice ao len cap,.int .u32 (at_:Int)] w fun e w'=>e=.returned (.func (.func 48) #[] #[.pointer (some ⟨w.heap.size+1,0,none⟩),.pointer (some ⟨w.heap.size,0,none⟩)])∧w'=(w.alloc (.cells #[.slice ao len cap] 22)).alloc (.cells #[.int .u32 (at_:Int)] 23):=by
 refine callsIn_of_wp Tryz.func24 rfl trivial ?_ rfl
 simp only [Tryz.ntmps24,List.size_toArray,List.length_cons,List.length_nil,Nat.reduceAdd,Nat.reduceSub,Array.replicate_succ,Array.replicate_zero,List.push_toArray,List.append_toArray,List.nil_append,List.cons_append]
 gi_wp2
 go_ret
 exact ⟨rfl,rfl⟩
theorem ths_stops (n:Nat) (hn1:1≤n) (b1 b2 Bc:Nat) (ao:Option Addr) (cap at_:Nat) (L:List (Nat × Nat)) (w:World) 
   (hcap:L.length≤cap) (hlen:at_+L.length<4294967296) (hwf:Wfc L)
   (h1:Boxed w b1 23 (.int .u32 (at_:Int))) (h2:Boxed w b2 22 (.slice ao L.length cap)) (hr:CRd w ao L Bc) (hBc:Bc≤w.heap.size) :
   SeqStopsK Fence.wide n Tryz.prog 48 #[.pointer (some ⟨b1,0,none⟩),.pointer (some ⟨b2,0,none⟩)] encZ (Kz w.heap.size ao L Bc) (fun ys=>ys=thsV L at_) (fun pre=>pre <+: thsV L at_) 4294967296 w:=
 fun l J Jx W hW hJ _ hY h0=>th1_in n hn1 l b1 b2 Bc ao cap at_ L J Jx W hJ w.heap.size hW.size hcap hlen hwf hY ((hW.block b1 h1.lt).trans h1) ((hW.block b2 h2.lt).trans h2) (hr.below (hW.mono hBc)) (Nat.le_trans hBc hW.size) h0
attribute [local go_sem] Oper.semAt_some
theorem fl_bad {L:List (Nat × Nat)} {a e:Nat} (h:¬ flE L a e=0):flV L a e=fz0:=if_neg h
theorem crd_takeZ {w:World} {ao:Option Addr} {L:List (Nat × Nat)} {B:Nat} (h:CRd w ao L B) (k:Nat):CRd w ao (L.take k) B:=by
 intro hl
 rw [List.length_take] at hl
 obtain ⟨b,off,e,hlt,hc⟩:=h (by omega)
 refine ⟨b,off,e,hlt,fun j hj=>?_⟩
 rw [List.length_take] at hj
 have e1:(L.take k).getD j (0,0)=L.getD j (0,0):=by rw [List.getD_eq_getElem?_getD,List.getElem?_take_of_lt (by omega),List.getD_eq_getElem?_getD]
 rw [e1]
 exact hc j (by omega)
theorem wfc_takeZ {L:List (Nat × Nat)} (h:Wfc L) (k:Nat):Wfc (L.take k):=fun p hp=>h p (List.mem_of_mem_take hp)
theorem getD_td (L:List (Nat × Nat)) (a e:Nat) (h:a<e):((L.drop a).take (e-a)).getD 0 (0,0)=L.getD a (0,0):=by
 rw [List.getD_eq_getElem?_getD,List.getElem?_take_of_lt (by omega),List.getElem?_drop,List.getD_eq_getElem?_getD,Nat.add_zero]
theorem row_stepz {A B:World} {row:Option Nat} {b t:Nat} {cs:Array Value} (h:A.heap[b]?=some (.cells cs t)) (hg:A.grownBy B row) (hr:∀ r,row=some r→∃ o:Obj,A.heap[r]?=some o∧o.isCells=false):B.heap[b]?=some (.cells cs t):=by
 refine (hg.block b (Array.getElem?_eq_some_iff.1 h).1 (fun e=>?_)).trans h
 obtain ⟨o,ho,hc⟩:=hr b e.symm
 rw [h] at ho
 cases ho
 cases hc
theorem liB_no {n a e:Nat} (h:¬ (a<e∧e≤n)):liB n a e=false:=decide_eq_false h
theorem flongest_any (ao:Option Addr) (cap a e:Nat) (L:List (Nat × Nat)) (w:World) (hn:L.length≤9223372036854775807) (hcap:L.length≤cap) (ha:a<4294967296) (he:e<4294967296) (hwf:Wfc L) (hr:CRd w ao L w.heap.size) :
   Calls Tryz.prog 10 #[.slice ao L.length cap,.int .u32 (a:Int),.int .u32 (e:Int)] w fun en w'=>en=.returned (.tuple #[.agg (fzA (flV L a e)),.int .i64 (flE L a e:Nat)])∧Below w.heap.size w w':=by
 have HL:=dhid (fun W=>lies_any ao cap L.length a e W hn ha he)
 refine (callsIn_wide (n:=9)).1 ?_
 refine callsIn_of_wp_marks Tryz.func10 rfl trivial ?_ rfl
 simp only [Tryz.ntmps10,List.size_toArray,List.length_cons,List.length_nil,Nat.reduceAdd,Nat.reduceSub,Array.replicate_succ,Array.replicate_zero,List.push_toArray,List.append_toArray,List.nil_append,List.cons_append]
 by_cases hl:a<e∧e≤L.length
 · have hB : liB L.length a e=true:=decide_eq_true hl
   rw [hB] at HL
   have hr':=hr
   obtain ⟨b,off,rfl,hbl,hc⟩:=hr (by omega)
   obtain ⟨hop,harg⟩:=hwf.at (show a<L.length by omega)
   have X0:=dhid (fun (W:World) (hW:Below w.heap.size w W)=>(hW.cell (p:=⟨b,off+a*2,none⟩) hbl).trans (hc a (by omega)).1)
   have X1:=dhid (fun (W:World) (hW:Below w.heap.size w W)=>(hW.cell (p:=⟨b,off+a*2+1,none⟩) hbl).trans (hc a (by omega)).2)
   have hE:flE L a e=erV (L.getD a (0,0)).1 (L.getD a (0,0)).2:=if_pos hl
   have HPP:=dhid (show ∃ pp,L.getD a (0,0)=pp from ⟨_,rfl⟩)
   generalize hpp:L.getD a (0,0)=pp at X0 X1 hE hop harg
   obtain ⟨op,arg⟩:=pp
   simp only at X0 X1 hE hop harg
   have HCK:=dhid (fun W=>(callsIn_wide (n:=8)).2 (fcheck_any op arg W hop))
   have haI:(a:Int)<(L.length:Int):=by omega
   have y0:=X0.out _ (bel1 w (.cells #[.int .u32 0,.int .u32 0,.int .u8 0,.int .u8 0,.int .u32 0,.int .u32 0] 28))
   have y1:=X1.out _ (bel1 w (.cells #[.int .u32 0,.int .u32 0,.int .u8 0,.int .u8 0,.int .u32 0,.int .u32 0] 28))
   by_cases her:erV op arg=0
   · have hd:((erV op arg:Int) != 0)=false:=by rw [her];rfl
     have hd':(erV op arg:Int)=0:=by omega
     obtain ⟨S,hS⟩:∃ S,S=(L.drop a).take (e-a):=⟨_,rfl⟩
     have hSl:S.length=e-a:=by rw [hS,List.length_take,List.length_drop];omega
     have hV:flV L a e=bst S a 15:=by rw [hS];exact if_pos (hE.trans her)
     rw [hV,hE,her]
     have HSR:=dhid (show ∀ W,Below w.heap.size w W→CRd W (some ⟨b,off+a*2,none⟩) S w.heap.size from fun W hW=>by rw [hS];exact crd_takeZ (crd_drop (hr'.below hW) a) _)
     have HWS:=dhid (show Wfc S by rw [hS];exact wfc_takeZ (wfc_drop hwf a) _)
     have HSA:=dhid (show S.getD 0 (0,0)=(op,arg)∧0<S.length from ⟨by rw [←hpp,hS];exact getD_td L a e hl.1,by omega⟩)
     have hac:¬ a=cap:=by omega
     have hac':¬ cap=a:=by omega
     have haeI:(a:Int)≤(e:Int):=by omega
     have hecI:(e:Int)≤(cap:Int):=by omega
     have HSL:=dhid hSl
     clear hE hpp hc hwf hB hS hV hSl
     gi_wp2_with (first
       |((first|refine ⟨trivial,fun _=>by omega,?_⟩|refine ⟨trivial,?_⟩);gi_at_call 17;refine ((callsIn_wide (n:=8)).2 (HL.out _)).mono ?_;rintro en w1 ⟨rfl,hw1⟩;subst hw1)
       |((first|refine ⟨trivial,fun _=>by omega,?_⟩|refine ⟨trivial,?_⟩);gi_at_call 23;refine (HCK.out _).mono ?_;rintro en w2 ⟨rfl,hb2⟩)
       |((first|refine ⟨trivial,fun _=>by omega,?_⟩|refine ⟨trivial,?_⟩);gi_at_call 24;refine (things_in _ _ _ _ _ _).mono ?_;rintro en wq ⟨rfl,hq⟩;subst wq))
     obtain ⟨W0,hW0⟩:∃ W0,(((w2.alloc (Obj.cells #[.int .u32 0,.int .u32 0,.int .u8 0,.int .u8 0,.int .u32 0,.int .u32 0] 28)).alloc (Obj.cells #[.slice (some ⟨b,off+a*2,none⟩) (e-a) (cap-a)] 22)).alloc (Obj.cells #[.int .u32 (a:Int)] 23))=W0:=⟨_,rfl⟩
     have hb20:Below w2.heap.size w2 W0:=by rw [←hW0];exact ((bel1 w2 _).alloc (by simp) _).alloc (by simp;omega) _
     have b1:Boxed W0 (w2.heap.size+1+1) 23 (.int .u32 (a:Int)):=by
       rw [←hW0];simpa using Boxed.new ((w2.alloc (Obj.cells #[.int .u32 0,.int .u32 0,.int .u8 0,.int .u8 0,.int .u32 0,.int .u32 0] 28)).alloc (Obj.cells #[.slice (some ⟨b,off+a*2,none⟩) (e-a) (cap-a)] 22)) 23 (.int .u32 (a:Int))
     have b2:Boxed W0 (w2.heap.size+1) 22 (.slice (some ⟨b,off+a*2,none⟩) S.length (cap-a)):=by
       rw [←hW0,HSL.out];simpa using (Boxed.new (w2.alloc (Obj.cells #[.int .u32 0,.int .u32 0,.int .u8 0,.int .u8 0,.int .u32 0,.int .u32 0] 28)) 22 (.slice (some ⟨b,off+a*2,none⟩) (e-a) (cap-a))).alloc (Obj.cells #[.int .u32 (a:Int)] 23)
     have b0:W0.heap[w2.heap.size]?=some (.cells (fzA fz0) 28):=by
       rw [←hW0];exact (Below.heap_alloc _ _ _ (by simp;omega)).trans ((Below.heap_alloc _ _ _ (by simp)).trans (heap_alloc_new w2 _))
     have hB1:Below w.heap.size w w2:=(bel1 w _).trans (hb2.mono (by simp))
     have hz2:w.heap.size<w2.heap.size:=by have:=hb2.size;simp at this;omega
     have r0:W0.heap[w.heap.size]?=some (.cells (fzA fz0) 28):=(hb20.block _ hz2).trans ((hb2.block w.heap.size (by simp)).trans (heap_alloc_new w _))
     have hB0:Below w.heap.size w W0:=hB1.trans (hb20.mono (by omega))
     have hsz:W0.heap.size=w2.heap.size+3:=by rw [←hW0];simp
     have hW0':=hW0
     rw [hW0]
     clear hW0 hW0'
     refine wpIn_rangeFunc_ownH (F:=Fence.wide) rfl (by decide) (gf:=48) (lb:=#[.pointer (some ⟨w2.heap.size+1+1,0,none⟩),.pointer (some ⟨w2.heap.size+1,0,none⟩)]) rfl trivial (enters_of Tryz.func48 (by kernel_rfl) rfl)
       (ths_stops (9-1) (by decide) (w2.heap.size+1+1) (w2.heap.size+1) w.heap.size _ (cap-a) a S W0 (by rw [HSL.out];omega) (by rw [HSL.out];omega) HWS.out b1 b2 (HSR.out W0 hB0) (by omega)) Kz_t (Kz_b (w:=W0)) (Below.refl _ _) (fun _=>rfl)
       (fun pre W=>(pre=[]∧(∃ y,W.heap[w2.heap.size]?=some (.cells (fzA y) 28))∧W.heap[w.heap.size]?=some (.cells (fzA fz0) 28))∧Below w.heap.size w W)
       (fun c pre W=>(c=.exit 0∧∃ x,pre=[x]∧W.heap[w2.heap.size]?=some (.cells (fzA x) 28)∧W.heap[w.heap.size]?=some (.cells (fzA fz0) 28))∧Below w.heap.size w W)
       (OwnFrom.and (Own.from (fun t A B row h hg hr=>⟨h.1,⟨_,row_stepz h.2.1.choose_spec hg hr⟩,row_stepz h.2.2 hg hr⟩) _) (ownFrom_below (Nat.le_refl _) (by omega)))
       (fun c=>OwnFrom.and (Own.from (fun t A B row h hg hr=>by
         obtain ⟨h1,x,h2,h3,h4⟩:=h
         exact ⟨h1,x,h2,row_stepz h3 hg hr,row_stepz h4 hg hr⟩) _) (ownFrom_below (Nat.le_refl _) (by omega)))
       ⟨⟨rfl,⟨_,b0⟩,r0⟩,hB0⟩
       (fun x a' W=>W.heap[w2.heap.size]?=some (.cells (fzA x) 28)∧a'={ tmps:=#[.slice (some ⟨b,off,none⟩) L.length cap,.int .u32 (a:Int),.int .u32 (e:Int),undef,undef,undef,.pointer (some ⟨w.heap.size,0,none⟩),.int .i64 0,.int .i64 0,.pointer (some ⟨w2.heap.size,0,none⟩),.slice (some ⟨b,off,none⟩) L.length cap,.int .u32 (a:Int),.int .u32 (e:Int),.bool true,.bool false,undef,.slice (some ⟨b,off,none⟩) L.length cap,.int .u32 (a:Int),.pointer (some ⟨b,off+a*2,none⟩),.agg #[.int .u8 (op:Int),.int .u32 (arg:Int)],.int .i64 0,.int .i64 0,.bool false,undef,undef,.slice (some ⟨b,off,none⟩) L.length cap,.int .u32 (a:Int),.int .u32 (e:Int),.slice (some ⟨b,off+a*2,none⟩) (e-a) (cap-a),.int .u32 (a:Int),.func (.func 48) #[] #[.pointer (some ⟨w2.heap.size+1+1,0,none⟩),.pointer (some ⟨w2.heap.size+1,0,none⟩)],.agg (fzA x),undef],defers:=[] })
       (fun x a'=>Own.from (fun t A B row h hg hr=>⟨row_stepz h.1 hg hr,h.2⟩) _)
       ?assign ?body ?done ?stop
     case assign=>
       intro l pre x W K hI hK
       obtain ⟨⟨hp,⟨y,h0⟩,h1⟩,hB⟩:=hI
       conv=>arg 6;simp [encZ]
       have hk:=KpSetRow (S:=fun i=>i=w2.heap.size) W w2.heap.size (fzA x) rfl
       have hbl:=hk.below (B:=w.heap.size) hB.size (fun i e=>by omega)
       have hlt1:w.heap.size<W.heap.size:=(Array.getElem?_eq_some_iff.1 h1).1
       have HK:=dhid (hK { tmps:=#[.slice (some ⟨b,off,none⟩) L.length cap,.int .u32 (a:Int),.int .u32 (e:Int),undef,undef,undef,.pointer (some ⟨w.heap.size,0,none⟩),.int .i64 0,.int .i64 0,.pointer (some ⟨w2.heap.size,0,none⟩),.slice (some ⟨b,off,none⟩) L.length cap,.int .u32 (a:Int),.int .u32 (e:Int),.bool true,.bool false,undef,.slice (some ⟨b,off,none⟩) L.length cap,.int .u32 (a:Int),.pointer (some ⟨b,off+a*2,none⟩),.agg #[.int .u8 (op:Int),.int .u32 (arg:Int)],.int .i64 0,.int .i64 0,.bool false,undef,undef,.slice (some ⟨b,off,none⟩) L.length cap,.int .u32 (a:Int),.int .u32 (e:Int),.slice (some ⟨b,off+a*2,none⟩) (e-a) (cap-a),.int .u32 (a:Int),.func (.func 48) #[] #[.pointer (some ⟨w2.heap.size+1+1,0,none⟩),.pointer (some ⟨w2.heap.size+1,0,none⟩)],.agg (fzA x),undef],defers:=[] } _ ⟨hk.size,fun k o q1 q2 _=>(hk.block k (Array.getElem?_eq_some_iff.1 q2).1 (by omega)).trans q2⟩
         ⟨⟨hk.size,fun i cs t fr q1 q2=>(hk.block i (Array.getElem?_eq_some_iff.1 q2).1 (by omega)).trans q2⟩,fun hc=>hc.below hbl⟩
         ⟨⟨hp,⟨_,setRow_heap _ _ _ _ _ _ h0⟩,(hk.block _ hlt1 (by omega)).trans h1⟩,hB.trans hbl⟩ ⟨setRow_heap _ _ _ _ _ _ h0,rfl⟩)
       clear hK
       gi_wp2_with (refine wpListIn_store_rowZ rfl _ _ _ rfl w2.heap.size (fzA y) (fzA x) rfl rfl h0 (by rw [sizeFz];rfl) rfl (by simp [fzA,Value.oneCell']) ?_)
       exact HK.out
     case body=>
       rintro l pre x a' W hl hrec ⟨⟨rfl,_,h1⟩,hB⟩ ⟨h0,rfl⟩ hlen
       gi_wp2
       exact ⟨KeepsFrom.refl _ _,⟨rfl,x,rfl,h0,h1⟩,hB⟩
     case done=>
       rintro D ys W hD hys ⟨⟨rfl,_,_⟩,hB⟩ hK
       exfalso
       obtain ⟨hq,hS0⟩:=HSA.out
       match S,hq,hS0,hys with
       | q :: R,hq,_,hys=>
         have:q=(op,arg):=hq
         subst this
         unfold thsV at hys
         rw [List.length_cons,thS_step _ _ _ _ her] at hys
         cases hys
     case stop=>
       rintro D c pre W hD hpre ⟨⟨rfl,x,rfl,h0,h1⟩,hB⟩ hK
       obtain ⟨c0,c1,c2,c3,c4,c5⟩:=fz_cells h0
       have hx:bst S a 15=x:=by
         obtain ⟨hq,hS0⟩:=HSA.out
         match S,hq,hS0,hpre with
         | q :: R,hq,_,hpre=>
           have:q=(op,arg):=hq
           subst this
           unfold thsV at hpre
           rw [List.length_cons,thS_step _ _ _ _ her] at hpre
           obtain ⟨r,hr⟩:=hpre
           injection hr with h1 _
           exact h1.symm
       have HXX:=dhid hx
       clear hx hpre
       gi_wp2_with (refine wpListIn_store_rowZ rfl _ _ _ rfl w.heap.size (fzA fz0) (fzA x) rfl rfl h1 (by rw [sizeFz];rfl) rfl (by simp [fzA,Value.oneCell']) ?_)
       have hk:=KpSetRow (S:=fun i=>i=w.heap.size) W w.heap.size (fzA x) rfl
       have hbl:=hk.below (B:=w.heap.size) hB.size (fun i e=>by omega)
       have hK':=(hk.block D (Array.getElem?_eq_some_iff.1 hK).1 (by omega)).trans hK
       have hR:=setRow_heap W w.heap.size _ (fzA x) _ _ h1
       have hR2:=row_stepz hR (grownBy_putObj' _ D (.deferred none)) (fun r e=>by cases e;exact ⟨_,hK',rfl⟩)
       refine ⟨by simp,.inl ⟨_,_,rfl,run_takeDeferred hK',?_⟩⟩
       refine ⟨_,resFzB (p:=6) (u:=7) (by kernel_rfl) _ _ w.heap.size _ rfl hR2 _ rfl rfl,by rw [HXX.out];rfl,(hB.trans hbl).trans (belowK_b (w:=w) (Nat.le_refl _) _ D _ _ (by omega) hK' rfl rfl)⟩
   · rw [fl_bad (by rw [hE];exact her),hE]
     have hd:((erV op arg:Int) != 0)=true:=by simp;omega
     have hd':¬ (erV op arg:Int)=0:=by omega
     have HE:=dhid hE
     clear hE hpp hc hr hr' hwf hB
     gi_wp2_with (first
       |((first|refine ⟨trivial,fun _=>by omega,?_⟩|refine ⟨trivial,?_⟩);gi_at_call 17;refine ((callsIn_wide (n:=8)).2 (HL.out _)).mono ?_;rintro en w1 ⟨rfl,hw1⟩;subst hw1)
       |((first|refine ⟨trivial,fun _=>by omega,?_⟩|refine ⟨trivial,?_⟩);gi_at_call 23;refine (HCK.out _).mono ?_;rintro en w2 ⟨rfl,hb2⟩)
       |(refine wpListIn_store_rowZ rfl _ _ _ rfl w.heap.size (fzA fz0) (fzA fz0) rfl rfl ((hb2.block w.heap.size (by simp)).trans (heap_alloc_new w _)) (by rw [sizeFz];rfl) rfl (by simp [fzA,Value.oneCell']) ?_))
     have hS:=setRow_heap w2 w.heap.size _ (fzA fz0) _ _ ((hb2.block w.heap.size (by simp)).trans (heap_alloc_new w _))
     exact ⟨_,resFzB (p:=6) (u:=7) (by kernel_rfl) _ _ w.heap.size _ rfl hS _ rfl rfl,rfl,((bel1 w _).trans (hb2.mono (by simp))).trans ((KpSetRow (S:=fun i=>i=w.heap.size) _ _ _ rfl).below (by have:=hb2.size;simp at this;omega) (fun i e=>by omega))⟩
 · have hE:flE L a e=2:=if_neg hl
   rw [fl_bad (by rw [hE];decide),hE]
   have hB:=liB_no hl
   rw [hB] at HL
   gi_wp2_with (first
     |((first|refine ⟨trivial,fun _=>by omega,?_⟩|refine ⟨trivial,?_⟩);gi_at_call 17;refine ((callsIn_wide (n:=8)).2 (HL.out _)).mono ?_;rintro en w1 ⟨rfl,hw1⟩;subst hw1)
     |(refine wpListIn_store_rowZ rfl _ _ _ rfl w.heap.size (fzA fz0) (fzA fz0) rfl rfl (heap_alloc_new w _) (by rw [sizeFz];rfl) rfl (by simp [fzA,Value.oneCell']) ?_))
   have hS:=setRow_heap (w.alloc (.cells (fzA fz0) 28)) w.heap.size _ (fzA fz0) _ _ (heap_alloc_new w _)
   exact ⟨_,resFzB (p:=6) (u:=7) (by kernel_rfl) _ _ w.heap.size _ rfl hS _ rfl rfl,rfl,(bel1 w _).trans ((KpSetRow (S:=fun i=>i=w.heap.size) _ _ _ rfl).below (by simp) (fun i e=>by omega))⟩
def ftV (L:List (Nat × Nat)) (a e k:Nat):Fz × Bool:=if (a<e∧e≤L.length)∧1≤k∧k≤15 then fkV ((L.drop a).take (e-a)) a k else (fz0,false)
def dBin (op:Nat):Bool:=isOp op && decide (opKi op=1) && decide (opTa op=2) && decide (opGi op=1)
def dBra (op:Nat):Bool:=isOp op && decide (opKi op=2)
def dLoa (op:Nat):Bool:=decide (op=29) || decide (op=30) || decide (op=31)
def dSto (op:Nat):Bool:=decide (op=32) || decide (op=33) || decide (op=34)
theorem dBin_eq:∀ op,op<256→dBin op=(decide (39≤op) && decide (op≤57) && decide (opTa op=2)):=by decide +kernel
theorem dBra_eq:∀ op,op<256→dBra op=(decide (13≤op) && decide (op≤28)):=by decide +kernel
theorem dLoa_eq:∀ op,op<256→dLoa op=(decide (29≤op) && decide (op≤31)):=by decide +kernel
theorem dSto_eq:∀ op,op<256→dSto op=(decide (32≤op) && decide (op≤34)):=by decide +kernel
theorem dload_any (op:Nat) (w:World):Calls Tryz.prog 63 #[.int .u8 (op:Int)] w fun e w'=>e=.returned (.bool (dLoa op))∧w'=w:=by
 unfold dLoa
 by_cases h1:op=29
 · subst h1;go_enter Tryz.func63,Tryz.ntmps63;go_wp2;go_ret;exact ⟨rfl,rfl⟩
 by_cases h2:op=30
 · subst h2;go_enter Tryz.func63,Tryz.ntmps63;go_wp2;go_ret;exact ⟨rfl,rfl⟩
 have g1:((op:Int) == 29)=false:=by rw [beq_eq_false_iff_ne];omega
 have g2:((op:Int) == 30)=false:=by rw [beq_eq_false_iff_ne];omega
 by_cases h3:op=31
 · subst h3;go_enter Tryz.func63,Tryz.ntmps63;go_wp2;go_ret;exact ⟨rfl,rfl⟩
 have g3:((op:Int) == 31)=false:=by rw [beq_eq_false_iff_ne];omega
 rw [decide_eq_false h1,decide_eq_false h2,decide_eq_false h3]
 clear h1 h2 h3
 go_enter Tryz.func63,Tryz.ntmps63
 go_wp2
 go_ret
 exact ⟨rfl,rfl⟩
theorem dstore_any (op:Nat) (w:World):Calls Tryz.prog 64 #[.int .u8 (op:Int)] w fun e w'=>e=.returned (.bool (dSto op))∧w'=w:=by
 unfold dSto
 by_cases h1:op=32
 · subst h1;go_enter Tryz.func64,Tryz.ntmps64;go_wp2;go_ret;exact ⟨rfl,rfl⟩
 by_cases h2:op=33
 · subst h2;go_enter Tryz.func64,Tryz.ntmps64;go_wp2;go_ret;exact ⟨rfl,rfl⟩
 have g1:((op:Int) == 32)=false:=by rw [beq_eq_false_iff_ne];omega
 have g2:((op:Int) == 33)=false:=by rw [beq_eq_false_iff_ne];omega
 by_cases h3:op=34
 · subst h3;go_enter Tryz.func64,Tryz.ntmps64;go_wp2;go_ret;exact ⟨rfl,rfl⟩
 have g3:((op:Int) == 34)=false:=by rw [beq_eq_false_iff_ne];omega
 rw [decide_eq_false h1,decide_eq_false h2,decide_eq_false h3]
 clear h1 h2 h3
 go_enter Tryz.func64,Tryz.ntmps64
 go_wp2
 go_ret
 exact ⟨rfl,rfl⟩
def mayD (L:List (Nat × Nat)) (a e:Nat):Bool:=((L.drop a).take (e-a)).all fun p=>decide (erV p.1 p.2=0)
theorem mayD_end (L:List (Nat × Nat)) (a e:Nat) (h:e≤a):mayD L a e=true:=by simp [mayD,show e-a=0 by omega]
theorem mayD_step (L:List (Nat × Nat)) (a e:Nat) (h:a<e) (hl:a<L.length):mayD L a e=(decide (erV (L.getD a (0,0)).1 (L.getD a (0,0)).2=0) && mayD L (a+1) e):=by
 unfold mayD
 rw [List.drop_eq_getElem_cons hl,show e-a=(e-(a+1))+1 by omega,List.take_succ_cons,List.all_cons,List.getD_eq_getElem?_getD,List.getElem?_eq_getElem hl]
 rfl
theorem dmay_any (ao:Option Addr) (cap a e:Nat) (L:List (Nat × Nat)) (w:World) (hL:L.length≤9223372036854775807) (he:e≤L.length) (hwf:Wfc L) (hr:CRd w ao L w.heap.size) :
   Calls Tryz.prog 44 #[.slice ao L.length cap,.int .i64 (a:Int),.int .i64 (e:Int)] w fun x w'=>x=.returned (.bool (mayD L a e))∧Below w.heap.size w w':=by
 have HR:=dhid hr
 have HLL:=dhid hL
 clear hr
 go_enter Tryz.func44,Tryz.ntmps44
 go_wp2
 go_loopw [7] (fun u wr=>∃ k:Nat,u=.int .i64 (k:Int)∧Hid (mayD L k e=mayD L a e)∧Hid (Below w.heap.size w wr)) (fun u _=>L.length-(intOf u).toNat)
 case atStart=>exact ⟨a,rfl,dhid rfl,dhid (Below.refl _ _)⟩
 case round=>
   obtain ⟨k,rfl,HM,HB⟩:=hrel
   by_cases hk:k<e
   · have hkI:(k:Int)<(e:Int):=by omega
     have hlt:k<L.length:=by omega
     have hltI:(k:Int)<(L.length:Int):=by omega
     have hst:=mayD_step L k e hk hlt
     obtain ⟨b,off,rfl,hbl,hc⟩:=HR.out (by omega)
     have y0:=(HB.out.cell (p:=⟨b,off+k*2,none⟩) hbl).trans (hc k hlt).1
     have y1:=(HB.out.cell (p:=⟨b,off+k*2+1,none⟩) hbl).trans (hc k hlt).2
     obtain ⟨hop,harg⟩:=hwf.at hlt
     generalize L.getD k (0,0)=pp at y0 y1 hst hop harg
     obtain ⟨op,arg⟩:=pp
     simp only at y0 y1 hst hop harg
     have HCK:=dhid (fun W=>rcheck_any op arg W hop)
     by_cases her:erV op arg=0
     · have hd:((erV op arg:Int) != 0)=false:=by rw [her];rfl
       have hd':(erV op arg:Int)=0:=by omega
       have HM2:=dhid (show mayD L (k+1) e=mayD L a e by rw [←HM.out,hst,her];simp)
       clear hst hc hwf her
       go_wp2_with (go_at_call 25;refine (HCK.out _).mono ?_;rintro en w2 ⟨rfl,hb2⟩)
       go_roundw
       case rel=>exact ⟨k+1,by go_num,HM2,dhid (HB.out.trans (hb2.mono HB.out.size))⟩
       case measure=>simp [intOf];omega
     · have hd:((erV op arg:Int) != 0)=true:=by simp;omega
       have hd':¬ (erV op arg:Int)=0:=by omega
       have HM2:=dhid (show mayD L a e=false by rw [←HM.out,hst,decide_eq_false her];rfl)
       clear hst hc hwf her
       go_wp2_with (go_at_call 25;refine (HCK.out _).mono ?_;rintro en w2 ⟨rfl,hb2⟩)
       go_ret
       exact ⟨by rw [HM2.out];rfl,HB.out.trans (hb2.mono HB.out.size)⟩
   · have hkI:¬ (k:Int)<(e:Int):=by omega
     have HM2:=dhid (show mayD L a e=true by rw [←HM.out,mayD_end L k e (by omega)])
     go_wp2
     go_ret
     exact ⟨by rw [HM2.out];rfl,HB.out⟩
theorem beqN (n k:Nat):((n:Int) == (k:Int))=decide (n=k):=by
 by_cases h:n=k
 · subst h;simp
 · rw [decide_eq_false h,beq_eq_false_iff_ne];omega
theorem dbin_any (op:Nat) (w:World) (hop:op<256):Calls Tryz.prog 61 #[.int .u8 (op:Int)] w fun e w'=>e=.returned (.bool (dBin op))∧Below w.heap.size w w':=by
 have HI:=dhid (fun W=>rinfo_any op W hop)
 unfold dBin
 generalize isOp op=ok at HI ⊢
 generalize opWd op=wd at HI
 generalize opWi op=wi at HI
 generalize opMo op=mo at HI
 generalize opKi op=ki at HI ⊢
 generalize opTa op=ta at HI ⊢
 generalize opGi op=gi at HI ⊢
 clear hop
 have h1:=trivial
 cases ok with
 | false=>
   simp only [Bool.false_and]
   clear h1
   go_enter Tryz.func61,Tryz.ntmps61
   go_wp2_with (go_at_call 49;refine (HI.out _).mono ?_;rintro en w2 ⟨rfl,hb2⟩)
   go_ret
   exact ⟨rfl,hb2.trans ((bel1 w2 _).mono hb2.size)⟩
 | true=>
   simp only [Bool.true_and]
   by_cases q1:ki=1
   · subst q1
     by_cases q2:ta=2
     · subst q2
       by_cases q3:gi=1
       · subst q3
         clear h1
         go_enter Tryz.func61,Tryz.ntmps61
         go_wp2_with (go_at_call 49;refine (HI.out _).mono ?_;rintro en w2 ⟨rfl,hb2⟩)
         go_ret
         exact ⟨rfl,hb2.trans ((bel1 w2 _).mono hb2.size)⟩
       · have g3:((gi:Int) == 1)=false:=by rw [beq_eq_false_iff_ne];omega
         rw [decide_eq_false q3]
         clear q3
         clear h1
         go_enter Tryz.func61,Tryz.ntmps61
         go_wp2_with (go_at_call 49;refine (HI.out _).mono ?_;rintro en w2 ⟨rfl,hb2⟩)
         go_ret
         exact ⟨rfl,hb2.trans ((bel1 w2 _).mono hb2.size)⟩
     · have g2:((ta:Int) == 2)=false:=by rw [beq_eq_false_iff_ne];omega
       rw [decide_eq_false q2]
       clear q2
       clear h1
       go_enter Tryz.func61,Tryz.ntmps61
       go_wp2_with (go_at_call 49;refine (HI.out _).mono ?_;rintro en w2 ⟨rfl,hb2⟩)
       go_ret
       exact ⟨rfl,hb2.trans ((bel1 w2 _).mono hb2.size)⟩
   · have g1:((ki:Int) == 1)=false:=by rw [beq_eq_false_iff_ne];omega
     rw [decide_eq_false q1]
     clear q1
     clear h1
     go_enter Tryz.func61,Tryz.ntmps61
     go_wp2_with (go_at_call 49;refine (HI.out _).mono ?_;rintro en w2 ⟨rfl,hb2⟩)
     go_ret
     exact ⟨rfl,hb2.trans ((bel1 w2 _).mono hb2.size)⟩
theorem dbra_any (op:Nat) (w:World) (hop:op<256):Calls Tryz.prog 62 #[.int .u8 (op:Int)] w fun e w'=>e=.returned (.bool (dBra op))∧Below w.heap.size w w':=by
 have HI:=dhid (fun W=>rinfo_any op W hop)
 unfold dBra
 generalize isOp op=ok at HI ⊢
 generalize opWd op=wd at HI
 generalize opWi op=wi at HI
 generalize opMo op=mo at HI
 generalize opKi op=ki at HI ⊢
 generalize opTa op=ta at HI
 generalize opGi op=gi at HI
 clear hop
 have h1:=trivial
 cases ok with
 | false=>
   simp only [Bool.false_and]
   clear h1
   go_enter Tryz.func62,Tryz.ntmps62
   go_wp2_with (go_at_call 49;refine (HI.out _).mono ?_;rintro en w2 ⟨rfl,hb2⟩)
   go_ret
   exact ⟨rfl,hb2.trans ((bel1 w2 _).mono hb2.size)⟩
 | true=>
   simp only [Bool.true_and]
   by_cases q1:ki=2
   · subst q1
     clear h1
     go_enter Tryz.func62,Tryz.ntmps62
     go_wp2_with (go_at_call 49;refine (HI.out _).mono ?_;rintro en w2 ⟨rfl,hb2⟩)
     go_ret
     exact ⟨rfl,hb2.trans ((bel1 w2 _).mono hb2.size)⟩
   · have g1:((ki:Int) == 2)=false:=by rw [beq_eq_false_iff_ne];omega
     rw [decide_eq_false q1]
     clear q1
     clear h1
     go_enter Tryz.func62,Tryz.ntmps62
     go_wp2_with (go_at_call 49;refine (HI.out _).mono ?_;rintro en w2 ⟨rfl,hb2⟩)
     go_ret
     exact ⟨rfl,hb2.trans ((bel1 w2 _).mono hb2.size)⟩
end Go.Proofs.YtibhlcfligfhdaaGreat
