import Derived.Test.YtibhlcfligfhdaaGreatCZTh
import Derived.Test.YtibhlcfligfhdaaGreatCDLg
import Derived.Test.YtibhlcfligfhdaaGreatCZTo
import Derived.Test.YtibhlcfligfhdaaGreatCZCl
import Derived.Sort.QuietIn
import Derived.OwnWalkIn
import Derived.Test.YtibhlcfligfhdaaGreatProg
namespace Go.Proofs.YtibhlcfligfhdaaGreat
set_option maxHeartbeats 4000000
open Go.RowKit Go.WideShapes Go.Shelf
set_option maxRecDepth 100000

attribute [local go_sem] Oper.semAt_some
def lnS:List Fz→Nat
 | []=>0
 |f :: r=>f.len+lnS r
theorem thS_end:∀ (n:Nat) (R:List (Nat × Nat)) (at_:Nat),Wfc R→R.length≤n→lnS (thS n R at_)≤R.length∧(lnS (thS n R at_)<R.length→¬ erV (R.getD (lnS (thS n R at_)) (0,0)).1 (R.getD (lnS (thS n R at_)) (0,0)).2=0)∧(thS n R at_).length≤lnS (thS n R at_)
 | 0,R,_,_,h=>by
   have:R=[]:=List.eq_nil_of_length_eq_zero (by omega)
   subst this
   simp [thS,lnS]
 |n+1,[],_,_,_=>by simp [thS,lnS]
 | n + 1,p :: R,at_,hwf,h=>by
   by_cases he:erV p.1 p.2=0
   · rw [thS_step n p R at_ he]
     have hp:=bst_pos (R:=R) he at_ 14
     have hl:=bst_le hwf at_ 15
     change 1≤(bst (p :: R) at_ 15).len at hp
     generalize bst (p :: R) at_ 15=f at *
     have hlen:((p :: R).drop f.len).length=(p :: R).length-f.len:=List.length_drop
     obtain ⟨h1,h2,h3⟩:=thS_end n ((p :: R).drop f.len) (at_+f.len) (wfc_drop hwf _) (by rw [hlen];simp only [List.length_cons] at h ⊢;omega)
     generalize thS n ((p :: R).drop f.len) (at_+f.len)=ys at *
     rw [hlen] at h1 h2
     refine ⟨by simp only [lnS];omega,fun q=>?_,by simp only [lnS,List.length_cons];omega⟩
     simp only [lnS] at q ⊢
     have:=h2 (by omega)
     rwa [List.getD_eq_getElem?_getD,List.getElem?_drop,←List.getD_eq_getElem?_getD] at this
   · rw [thS_no (n+1) p R at_ he]
     refine ⟨Nat.zero_le _,fun _=>?_,Nat.le_refl _⟩
     exact he
theorem nilcmpZ (b c:Nat) (w:World):(binOp .eql 42 (.func (.func 48) #[] #[.pointer (some ⟨b,0,none⟩),.pointer (some ⟨c,0,none⟩)]) .nilFunc).run Tryz.prog w=.ok (.bool false) w:=by kernel_rfl
theorem infoI2o:(Tryz.prog.info? 37).map (·.size)=some 2:=by kernel_rfl
theorem undI2o:∃ fs,Tryz.prog.underlying 37=some (.struct fs):=by
 have h:(match Tryz.prog.underlying 37 with|some (.struct _)=>true|_=>false)=true:=by kernel_rfl
 split at h
 · exact ⟨_,by assumption⟩
 · cases h
def Blk (w:World) (g t m:Nat):Prop:=∃ cs:Array Value,w.heap[g]?=some (.cells cs t (0,0))∧m≤cs.size
theorem Blk.set {w:World} {g t m i:Nat} (h:Blk w g t m) (v:Value):Blk (w.setCell ⟨g,i,none⟩ v) g t m:=by
 obtain ⟨cs,h1,h2⟩:=h
 exact ⟨_,heap_setCell_same w g i cs t v h1,by simpa using h2⟩
theorem Blk.cell {w:World} {g t m i:Nat} (h:Blk w g t m) (hi:i<m):(∃ v,w.cell? ⟨g,i,none⟩=some v)∧w.frozen? ⟨g,i,none⟩=false:=by
 obtain ⟨cs,h1,h2⟩:=h
 exact ⟨⟨cs[i],by rw [obj_cell h1,Array.getElem?_eq_getElem (by omega)]⟩,obj_frozen h1 i⟩
theorem markcm_any (k:Nat) (w:World) (hk:k≤4611686018427387904) :
   Calls Tryz.prog 16 #[.int .i64 (-1),.int .i64 k] w fun e w'=>e=.returned (.agg #[.int .u8 199,.int .u32 ((k:Int) % 4294967296)])∧w'=w.alloc (.cells #[.int .u8 199,.int .u32 ((k:Int) % 4294967296)] 37):=by
 go_enter Tryz.func16,Tryz.ntmps16
 go_wp2
 obtain ⟨fs,hu⟩:=undI2o
 exact bodyPost_ret (results_cell_row (p:=4) (ty:=37) (by kernel_rfl) _ _ w.heap.size 37 #[.int .u8 199,.int .u32 ((k:Int) % 4294967296)] (0,0) _ rfl (heap_alloc_last w _) hu rfl (by rw [infoI2o];rfl)) rfl ⟨rfl,rfl⟩
theorem Blk.alloc {w:World} {g t m:Nat} (h:Blk w g t m) (o:Obj):Blk (w.alloc o) g t m:=by
 obtain ⟨cs,h1,h2⟩:=h
 exact ⟨cs,(Below.heap_alloc w o g (Array.getElem?_eq_some_iff.1 h1).1).trans h1,h2⟩
theorem overc_any (g n cap:Nat) (w:World) (hn:n≤4611686018427387904) (h:Blk w g 37 (n*2)) :
   Calls Tryz.prog 14 #[.slice (some ⟨g,0,none⟩) n cap] w fun e w'=>(∃ v,e=.returned v)∧Kp (fun k=>k=g) w w':=by
 go_enter Tryz.func14,Tryz.ntmps14
 go_wp2
 go_loopw [2] (fun i wr=>∃ k:Nat,k≤n∧i=.int .i64 k∧Blk wr g 37 (n*2)∧Kp (fun k=>k=g) w wr)
   (fun i _=>n-(intOf i).toNat)
 case atStart=>exact ⟨0,Nat.zero_le _,rfl,h,Kp.refl _ _⟩
 case round=>
   obtain ⟨k,hk,rfl,hB,hK⟩:=hrel
   by_cases hlt:k<n
   · have hB2:=hB.alloc (.cells #[.int .u8 199,.int .u32 ((k:Int) % 4294967296)] 37)
     obtain ⟨⟨v0,c0⟩,f0⟩:=hB2.cell (i:=k*2) (by omega)
     obtain ⟨⟨v1,c1⟩,f1⟩:=hB2.cell (i:=k*2+1) (by omega)
     have hltI:(k:Int)<(n:Int):=by omega
     have hM:=markcm_any k wr (by omega)
     have HB:=hid_of hB2
     clear hB hB2
     go_wp2_with (go_at_call 16;with_reducible refine hM.mono ?_;rintro e wq ⟨rfl,hq⟩;subst wq)
     go_roundw
     case rel=>exact ⟨k+1,by omega,by go_num,(HB.out.set _).set _,((hK.trans (Kp.alloc (S:=fun k=>k=g) _ _) (fun _ _ q=>q)).trans (Kp.setCell (S:=fun k=>k=g) _ _ _ rfl) (fun _ _ q=>q)).trans (Kp.setCell (S:=fun k=>k=g) _ _ _ rfl) (fun _ _ q=>q)⟩
     case measure=>simp [intOf];omega
   · have hltI:¬ (k:Int)<(n:Int):=by omega
     go_wp2
     go_end0
     exact ⟨⟨_,rfl⟩,hK⟩
def noDefer (o:Oper):Bool:=match o.op with | .defer _=>false|_=>true
theorem noDefer_spec {o:Oper} (h:noDefer o=true):∀ c,o.op ≠ .defer c:=by
 intro c e
 simp [noDefer,e] at h
theorem op_plain {F:Fence} {n:Nat} {P:Program} {o:Oper} {a:Act} {w:World} {K:Act→World→Prop} {Q:Exit→Act→World→Prop} (hd:noDefer o=true) (h:o.wpIn F.plain n P a w K Q):o.wpIn F n P a w K Q:=by
 unfold Oper.wpIn at *
 rw [Oper.semAt_plain F.plain _ o (noDefer_spec hd)] at h
 rw [Oper.semAt_plain F _ o (noDefer_spec hd)]
 exact h
theorem any_plain {F:Fence} {n:Nat} {P:Program} {md:Region.Mode} {ops:Array Oper} {Q:Exit→Act→World→Prop} (hd:∀ (i:Nat) (o:Oper),ops[i]?=some o→noDefer o=true) :
   ∀ (fuel:Nat) (listed:Array Bool) (a:Act) (w:World),wpAnyIn F.plain n P md ops Q fuel listed a w→wpAnyIn F n P md ops Q fuel listed a w
 |0,_,_,_,h=>h
 | fuel+1,_,_,_,h=>⟨h.1,fun i hi=>by
   have:=wpOpIn_mono (fun a w=>any_plain hd fuel _ a w) (h.2 i hi)
   unfold wpOpIn at this ⊢
   split
   · rename_i ho;simp only [ho] at this;exact this
   · rename_i o ho
     simp only [ho] at this
     split
     · rename_i hw;simp only [hw,if_true] at this;exact op_plain (hd i o ho) this
     · rename_i hw;simp only [hw] at this;exact this⟩
theorem region_quiet_r {F:Fence} {n:Nat} {P:Program} {id:Nat} {Q:Exit→Act→World→Prop} {a:Act} {w:World} {l:List Oper} (hd:l.all noDefer=true) (hm:P.follows .mixedOrders=true) (hB:Region.lexB .any l.toArray=true)
   (h:wpQuietIn F.plain n P l.toArray (fun w'=>∃ n,w'=w.drewN n) (fun a'=>∀ w',(∃ n,w'=w.drewN n)→Q .normal a' w') l a):(Code.region id l.toArray true).wpIn F n P Q a w:=by
 simp only [Region.lexB,Bool.and_eq_true] at hB
 have hd':∀ (i:Nat) (o:Oper),l.toArray[i]?=some o→noDefer o=true:=fun i o ho=>List.all_eq_true.1 hd o (List.mem_of_getElem? (by simpa using ho))
 refine wpIn_region_any hm (any_plain hd' _ _ _ _ (wpAnyIn_of_quiet (F:=F.plain) (C:=fun w'=>∃ n,w'=w.drewN n) (Q:=fun a'=>∀ w',(∃ n,w'=w.drewN n)→Q .normal a' w') rfl (fun _ w' hw' h=>h w' hw') _ _ _ _ ⟨1,rfl⟩ ?_))
 have:=wpAnyQIn_lex (F:=F.plain) (n:=n) (C:=fun w'=>∃ n,w'=w.drewN n) (md:=.any) hB.1 l 0 (Array.replicate l.toArray.size false) a (by simp) (by simpa using hB.2) h
 simpa using this
attribute [local go_sem] Oper.semAt_some
def Agree (A:World) (k:Nat) (V:World):Prop:=A.heap.size≤V.heap.size∧∀ j o,j≠k→A.heap[j]?=some o→o.isCells=true→V.heap[j]?=some o
theorem Agree.refl (A:World) (k:Nat):Agree A k A:=⟨Nat.le_refl _,fun _ _ _ h _=>h⟩
theorem Agree.alloc {A V:World} {k:Nat} (h:Agree A k V) (o:Obj):Agree A k (V.alloc o):=
 ⟨by simp;exact Nat.le_succ_of_le h.1,fun j o' hj ho hc=>by have:=h.2 j o' hj ho hc;exact (Below.heap_alloc _ _ _ (Array.getElem?_eq_some_iff.1 this).1).trans this⟩
theorem Agree.set {A V:World} {k:Nat} (h:Agree A k V) (v:Value):Agree A k (V.setCell ⟨k,0,none⟩ v):=
 ⟨by simp;exact h.1,fun j o hj ho hc=>(Below.heap_setCell _ _ _ _ hj).trans (h.2 j o hj ho hc)⟩
theorem Agree.step {A V C:World} {k:Nat} {row:Option Nat} (h:Agree A k V) (hg:V.grownBy C row) (hr:∀ r,row=some r→∃ o:Obj,V.heap[r]?=some o∧o.isCells=false):Agree A k C:=by
 refine ⟨Nat.le_trans h.1 hg.size,fun j o hj ho hc=>?_⟩
 have h1:=h.2 j o hj ho hc
 refine (hg.block j (Array.getElem?_eq_some_iff.1 h1).1 (fun e=>?_)).trans h1
 obtain ⟨o2,h2,h3⟩:=hr j e.symm
 rw [h1] at h2
 cases h2
 rw [hc] at h3
 cases h3
theorem Agree.put {A V:World} {k l:Nat} {o o':Obj} (h:Agree A k V) (hl:V.heap[l]?=some o) (hc:o.isCells=false):Agree A k (V.putObj l o'):=h.step (grownBy_putObj' V l o') (fun r e=>by cases e;exact ⟨o,hl,hc⟩)
theorem Agree.box {A V:World} {k b t:Nat} {v:Value} (h:Agree A k V) (hb:Boxed A b t v) (hk:b≠k):Boxed V b t v:=h.2 b _ hk hb rfl
theorem Agree.cell {A V:World} {k:Nat} {p:Addr} {v:Value} (h:Agree A k V) (hp:A.cell? p=some v) (hk:p.block≠k):V.cell? p=some v:=by
 cases ho:A.heap[p.block]? with
 |none=>simp [World.cell?,ho] at hp
 | some o=>
   have hc:o.isCells=true:=by cases o <;> simp_all [World.cell?,Obj.isCells]
   exact (World.cell?_of_block ((h.2 _ o hk ho hc).trans ho.symm)).trans hp
theorem with_tmps {F:Fence} {n:Nat} {P:Program} {c:Code} {Q:Exit→Act→World→Prop} {ts:Array Value} {ds:List Deferred} {w:World} (h:∀ T,T=ts→c.wpIn F n P Q { tmps:=T,defers:=ds } w):c.wpIn F n P Q { tmps:=ts,defers:=ds } w:=h _ rfl
theorem Upon.drewN (B:Nat) (W:World) (n:Nat):Upon B W (W.drewN n):=⟨Nat.le_refl _,fun _ _ _ h _=>h⟩
theorem Agree.drewN {A V:World} {k:Nat} (h:Agree A k V) (n:Nat):Agree A k (V.drewN n):=h
theorem Boxed.drewN {V:World} {b t:Nat} {v:Value} (h:Boxed V b t v) (n:Nat):Boxed (V.drewN n) b t v:=h
theorem calls_wide {n m l0:Nat} {P:Program} {f:FuncId} {args:Array Value} {w:World} {R:Ending→World→Prop} (h:CallsIn Fence.wide n P f args w R):CallsIn (Fence.wide.inRound l0) m P f args w R:=
 ⟨trivial,fun cs _=>h.2 cs (fun _ hd=>by cases hd)⟩
theorem seq_wide {α:Type} {n m l0:Nat} {P:Program} {g:Nat} {lb:Array Value} {encs:α→Array Value} {Kp:World→World→Prop} {S Sp:List α→Prop} {N:Nat} {w:World} (h:SeqOwn Fence.wide n P g lb encs Kp S Sp N w):SeqOwn (Fence.wide.inRound l0) m P g lb encs Kp S Sp N w:=by
 intro l J Jx W hW hJ hJx hY h0
 refine calls_wide (h l J Jx W hW hJ hJx (fun pre x W1 hj hl hs=>?_) h0)
 obtain ⟨fn,tmps,assign,body,hy,hR⟩:=hY pre x W1 hj hl hs
 exact ⟨fn,tmps,assign,body,hy,trivial,fun c cs _=>hR.2 c cs (fun _ hd=>by cases hd)⟩
theorem range_inner_break {α:Type} {F:Fence} {n:Nat} {P:Program} {g:Operand} {ps:Array Tmp} {assign body:Code} {id:Nat} {Q:Exit→Act→World→Prop} {a:Act} {w:World} {l0:Nat} {q0:Loop} (hro:F.round=some l0) (hq0:w.heap[l0]?=some (.loop q0)) (h1:1≤n) {gf:Nat} {lb:Array Value} (hg:a.eval g=.func (.func gf) #[] lb) (hFg:F.fn gf) (eg:∀ args w,(callFunc gf args).run P w=.ok (.enter gf args) w)
   {encs:α→Array Value} {Kp:World→World→Prop} {S Sp:List α→Prop} {N:Nat} {w0:World} (hseq:SeqOwn F (n-1) P gf lb encs Kp S Sp N w0)
   (hKt:∀ {A B C:World},Kp A B→Kp B C→Kp A C) (hKb:∀ (W:World) (l:Nat) (o o':Obj),w.heap.size≤l→W.heap[l]?=some o→o.isCells=false→o.isWalk=false→Kp W (W.putObj l o')) (hb0:Below w0.heap.size w0 w) (hps:∀ x,(encs x).size=ps.size)
   (I:List α→World→Prop) (Ib:List α→World→Prop) (hI:OwnFrom w.heap.size I) (hIb:OwnFrom w.heap.size Ib) (h0:I [] w) (Ax:α→Act→World→Prop) (hAx:∀ x a',OwnFrom w.heap.size (fun (_:Unit) W=>Ax x a' W))
   (hassign:∀ (l:Nat) (pre:List α) (x:α) (W:World) (K:Act→World→Prop),I pre W→(∀ a' W',Upon w.heap.size W W'→Kp W W'→I pre W'→Ax x a' W'→K a' W') →
     assign.wpIn (F.inRound l) (n-1-1) P (Exit.then K (fun _ _ _=>False)) { tmps:=(ps.zip (encs x)).foldl (fun t (p,v)=>t.setIfInBounds p v) a.tmps,defers:=[] } W)
   (hbody:∀ (l:Nat) (pre:List α) (x:α) (a':Act) (W:World),w.heap.size≤l→(∃ r,W.heap[l]?=some (.loop r))→I pre W→Ax x a' W→pre.length<N→Sp (pre ++ [x])→body.wpIn (F.inRound l) (n-1-1) P (uponPost w.heap.size Kp I (fun c pre W=>c=.exit id∧Ib pre W) (pre ++ [x]) W) a' W)
   (hend:∀ (pre:List α) (W:World),((S pre∧I pre W)∨(Sp pre∧Ib pre W))→Q .normal a W) :
   (Code.rangeFunc g ps assign body).wpIn F n P (Exit.inBlock id Q) a w:=
 range_inner hro hq0 h1 hg hFg eg hseq hKt hKb hb0 hps I (fun c pre W=>c=.exit id∧Ib pre W) hI (fun c s A C row h hg hr=>⟨h.1,hIb s A C row h.2 hg hr⟩) h0 Ax hAx hassign hbody
   (fun xs W hS hi=>hend xs W (.inl ⟨hS,hi⟩))
   (fun c pre W hS hi=>by
     obtain ⟨rfl,hi⟩:=hi
     refine wpIn_exit ?_
     simp only [Exit.inBlock,if_true]
     exact hend pre W (.inr ⟨hS,hi⟩))
theorem ret_intP {k:IntKind} {a b:Int} (h:a=b):Ending.returned (.int k a)=.returned (.int k b):=by rw [h]
theorem pick_any (x n:Int) (w:World) (hx0 : -9223372036854775808≤x) (hx1:x≤9223372036854775807) (h1:1≤n) (h2:n≤4611686018427387904) :
   Calls Tryz.prog 15 #[.int .i64 x,.int .i64 n] w fun e w'=>e=.returned (.int .i64 (x % n))∧w'=w:=by
 have hm:x.tmod n=if 0≤x∨n ∣ x then x % n else x % n-n:=by
   have:=Int.tmod_eq_emod (a:=x) (b:=n)
   rw [this]
   have hn:(n.natAbs:Int)=n:=by omega
   by_cases hc:0≤x∨n ∣ x
   · simp [hc]
   · simp [hc,hn]
 have he0:=Int.emod_nonneg x (show n≠0 by omega)
 have he1:=Int.emod_lt_of_pos x (show 0<n by omega)
 by_cases hx:0≤x
 · clear hm
   go_enter Tryz.func15,Tryz.ntmps15
   go_wp2
   go_ret
   exact ⟨rfl,rfl⟩
 · have h0:x.tmod n=0∧x % n=0∨x.tmod n<0∧x.tmod n+n=x % n ∧ -n<x.tmod n:=by
     by_cases hc:n ∣ x
     · left
       rw [hm,if_pos (.inr hc)]
       exact ⟨Int.emod_eq_zero_of_dvd hc,Int.emod_eq_zero_of_dvd hc⟩
     · right
       have hne:x % n≠0:=fun h=>hc (Int.dvd_of_emod_eq_zero h)
       rw [hm,if_neg (by omega)]
       omega
   clear hm
   rcases h0 with ⟨h3,h4⟩|⟨h3,h4,h5⟩
   · have H4:Hid (x % n=0):=h4
     clear h4
     go_enter Tryz.func15,Tryz.ntmps15
     go_wp2
     go_ret
     exact ⟨ret_intP (by rw [H4.out]),rfl⟩
   · have H4:Hid (x.tmod n+n=x % n):=h4
     clear h4
     go_enter Tryz.func15,Tryz.ntmps15
     go_wp2
     go_ret
     exact ⟨ret_intP (by rw [H4.out]),rfl⟩
attribute [local go_sem] Oper.semAt_some
theorem zclone_own (b off cap:Nat) (L:List (Nat × Nat)) (w:World) (hn:L.length*8≤140737488355328) (hr:CRd w (some ⟨b,off,none⟩) L w.heap.size) :
   Calls Tryz.prog 26 #[.slice (some ⟨b,off,none⟩) L.length cap] w fun e w'=>∃ a c,e=.returned (.slice a L.length c)∧L.length≤c∧CRd w' a L w'.heap.size∧Below w.heap.size w w'∧(∀ q,a=some q→w.heap.size≤q.block):=by
 have hq:=nil_eqZ (some ⟨b,off,none⟩) L.length cap w
 simp only [Option.isNone_some] at hq
 have own0:=World.ownsRow_lit (size:=2) (base:=w.heap.size) (e:=37) w #[] 0 (Nat.le_refl _) (by decide) rfl
 have hb0:Below w.heap.size w (w.alloc (.cells #[] 37)):=(Below.refl w.heap.size w).alloc (Nat.le_refl _) _
 have HR:=dhid ((hr.below hb0).mono hb0.size)
 clear hr
 go_enter Tryz.func26,Tryz.ntmps26
 go_wp2_with (at_builtin;refine append_crdB rfl _ _ rfl w.heap.size _ [] rfl own0 (some ⟨b,off,none⟩) cap L rfl (fun e=>by cases e) HR.out (by simp;omega) hb0.size ?_)
 intro v' w1 own1 hg1
 obtain ⟨a,c,rfl,hc,hcr⟩:=own_crdD own1
 have R2:Below w.heap.size w w1:=hb0.grown hg1 (by simp) (fun k e=>by simp [Value.ownBlock] at e;omega)
 have HC:=dhid hcr
 have HQ:=dhid (fun (q:Addr) (e:a=some q)=>(own1.lt q.block (by rw [e];rfl)).1)
 clear own0 hb0 HR own1 hg1 hcr
 go_wp2
 go_ret
 exact ⟨_,_,rfl,hc,HC.out,R2,HQ.out⟩
structure RowT (w:World) (S:List (Nat × Nat)) (at_:Nat) (v:Value) (w':World):Prop where
 ex:∃ b1 b2 ao cap,v=.func (.func 48) #[] #[.pointer (some ⟨b1,0,none⟩),.pointer (some ⟨b2,0,none⟩)]∧S.length≤cap∧Boxed w' b1 23 (.int .u32 (at_:Int))∧Boxed w' b2 22 (.slice ao S.length cap)∧CRd w' ao S w'.heap.size∧w.heap.size≤b1∧w.heap.size≤b2∧(∀ q,ao=some q→w.heap.size≤q.block)
 bl:Below w.heap.size w w'
theorem frow_own (ao:Option Addr) (cap a e:Nat) (L:List (Nat × Nat)) (w:World) (hn:L.length*8≤140737488355328) (hcap:L.length≤cap) (ha:a<4294967296) (he:e<4294967296) (hr:CRd w ao L w.heap.size) :
   Calls Tryz.prog 13 #[.slice ao L.length cap,.int .u32 (a:Int),.int .u32 (e:Int)] w fun en w'=>∃ v,en=.returned v∧RowT w (rwS L a e) a v w':=by
 have HL:=dhid (fun W=>lies_any ao cap L.length a e W (by omega) ha he)
 have HT:=dhid (fun (n:Nat) (ao:Option Addr) (len cap:Nat) (W:World)=>(callsIn_wide (n:=9)).1 (things_in 9 ao len cap a W))
 by_cases hl:a<e∧e≤L.length
 · rw [show liB L.length a e=true from decide_eq_true hl] at HL
   rw [show rwS L a e=(L.drop a).take (e-a) from if_pos hl]
   obtain ⟨S,hS⟩:∃ S,S=(L.drop a).take (e-a):=⟨_,rfl⟩
   have hSl:S.length=e-a:=by rw [hS,List.length_take,List.length_drop];omega
   rw [←hS]
   have hr':=hr
   obtain ⟨b,off,rfl,hbl,-⟩:=hr (by omega)
   have HSR:=dhid (show CRd w (some ⟨b,off+a*2,none⟩) S w.heap.size by rw [hS];exact crd_takeZ (crd_drop hr' a) _)
   have HC:=dhid (zclone_own b (off+a*2) (cap-a) S w (by rw [hSl];omega) HSR.out)
   rw [hSl] at HC
   have HSL:=dhid hSl
   have hac:¬ a=cap:=by omega
   have hac':¬ cap=a:=by omega
   have haeI:(a:Int)≤(e:Int):=by omega
   have hecI:(e:Int)≤(cap:Int):=by omega
   clear hS hSl hr' hr
   go_enter Tryz.func13,Tryz.ntmps13
   go_wp2_with (first
     |(go_at_call 17;refine (HL.out _).mono ?_;rintro en w1 ⟨rfl,hw1⟩;subst hw1)
     |(go_at_call 26;refine HC.out.mono ?_;rintro en w2 ⟨a2,c2,rfl,hc2,hr2,hb2,hq2⟩)
     |(go_at_call 24;refine (HT.out 0 _ _ _ _).mono ?_;rintro en wq ⟨rfl,hq⟩;subst wq))
   go_ret
   have hz:=hb2.size
   refine ⟨_,rfl,⟨w2.heap.size+1,w2.heap.size,a2,c2,rfl,by rw [HSL.out];exact hc2,?_,?_,?_,by omega,by omega,hq2⟩,(hb2.alloc hz _).alloc (by simp;omega) _⟩
   · simpa using Boxed.new (w2.alloc (.cells #[.slice a2 (e-a) c2] 22)) 23 (.int .u32 (a:Int))
   · rw [HSL.out];exact (Boxed.new w2 22 (.slice a2 (e-a) c2)).alloc _
   · exact (hr2.below ((bel1 w2 _).alloc (by simp) _)).mono (by simp;omega)
 · rw [show liB L.length a e=false from decide_eq_false hl] at HL
   rw [show rwS L a e=[] from if_neg hl]
   go_enter Tryz.func13,Tryz.ntmps13
   go_wp2_with (first
     |(go_at_call 17;refine (HL.out _).mono ?_;rintro en w1 ⟨rfl,hw1⟩;subst hw1)
     |(go_at_call 24;refine (HT.out 0 _ _ _ _).mono ?_;rintro en wq ⟨rfl,hq⟩;subst wq))
   go_ret
   refine ⟨_,rfl,⟨_,_,none,0,rfl,Nat.le_refl _,?_,?_,fun h=>absurd h (by simp),by simp,by simp,fun q e=>by cases e⟩,(bel1 _ _).alloc (by simp) _⟩
   · simpa using Boxed.new (w1.alloc (.cells #[.slice none 0 0] 22)) 23 (.int .u32 (a:Int))
   · exact (Boxed.new w1 22 (.slice none 0 0)).alloc _
end Go.Proofs.YtibhlcfligfhdaaGreat
