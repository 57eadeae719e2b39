import Derived.Test.YtibhlcfligfhdaaGreatCZDq
import Derived.Test.YtibhlcfligfhdaaGreatCZTh
import Derived.RangeFuncNested
import Derived.RangeFuncBound
import Derived.RangeFuncCalls
import Derived.Test.YtibhlcfligfhdaaGreatProg
namespace Go.Proofs.YtibhlcfligfhdaaGreat
open Go.RowKit Go.WideShapes
set_option maxRecDepth 100000
theorem append_crdB {w:World} {ops:Array Oper} {rest:List Oper} {o:Oper} {a:Act} {Q:Exit→Act→World→Prop} (hgd:o.guard=none) (s x:Operand)
   (ho:o.op=.call { callee:=.builtin .append,args:=#[s,x],argTypes:=#[22,22] })
   (base:Nat) (v:Value) (A:List (Nat × Nat)) (hs:a.eval s=v) (hown:w.ownsRow base 37 2 v A.length (cv A))
   (ao:Option Addr) (cap:Nat) (L:List (Nat × Nat)) (hx:a.eval x=.slice ao L.length cap) (hn:ao=none→cap=0) (hr:CRd w ao L w.heap.size)
   (hb:(A.length+L.length)*8≤140737488355328) (hbase:base≤w.heap.size)
   (h:∀ v' w',w'.ownsRow base 37 2 v' (A ++ L).length (cv (A ++ L))→w.grownBy w' v.ownBlock→wpList Tryz.prog ops Q rest (a.put o.dst v') w'):wpList Tryz.prog ops Q (o :: rest) a w:=by
 obtain ⟨i,hi,hz0,hz1,hz2⟩:=infoDI
 cases ao with
 | none=>
   have hL:L=[]:=by
     cases L with
     |nil=>rfl
     |cons p L=>obtain ⟨b,off,e,_⟩:=hr (by simp);cases e
   subst hL
   rw [hn rfl] at hx
   refine wpList_append_own_none hgd s x 22 ho base 37 i 2 Tryz.underlying22 hi v A.length (cv A) hs hown hx ?_
   exact h v w (by simpa using hown) (World.grownBy.refl _ _)
 | some ad=>
   refine wpList_append_own w hgd s x 22 ho base 37 i (.agg #[.int .u8 0,.int .u32 0]) 2 8 Tryz.underlying22 hi hz0 hz1 hz2 rfl (by decide) v A.length (cv A) hs hown ad L.length cap (cv L) hx (cv_len L) ?_ (cvD_one L) (by unfold maxLen;omega) (by omega) hbase (fun v' w' h1 h2 _=>h v' w' (by rw [List.length_append,cv_append];exact h1) h2)
   intro j u hj
   have hjl:j<L.length*2:=by
     have:=(List.getElem?_eq_some_iff.1 hj).1
     rwa [cv_len] at this
   obtain ⟨b,off,e,hlt,hc⟩:=hr (by omega)
   cases e
   have hd:=hc (j / 2) (by omega)
   have hg:=cvD_get L (j / 2) (by omega)
   rw [show w.cell? ((⟨b,off,none⟩:Addr).add j)=w.cell? ⟨b,off+j,none⟩ by rw [Go.WideShapes.add_plain]]
   rcases Nat.mod_two_eq_zero_or_one j with hm|hm
   · rw [show (cv L)[j]?=(cv L)[j / 2*2]? from congrArg (fun k=>(cv L)[k]?) (by omega),hg.1] at hj
     cases hj
     rw [show off+j=off+j / 2*2 by omega]
     exact hd.1
   · rw [show (cv L)[j]?=(cv L)[j / 2*2+1]? from congrArg (fun k=>(cv L)[k]?) (by omega),hg.2] at hj
     cases hj
     rw [show off+j=off+j / 2*2+1 by omega]
     exact hd.2
theorem nil_eqZ (a:Option Addr) (n c:Nat) (w:World):(binOp .eql 22 (.slice a n c) (.slice none 0 0)).run Tryz.prog w=.ok (.bool a.isNone) w:=by
 have e:binOp .eql 22 (.slice a n c) (.slice none 0 0)=(do pure (.bool (←Op.equal 22 (.slice a n c) (.slice none 0 0)))):=rfl
 rw [e,Sem.run_bind,run_equal_slice_nil w _ _ a n c Tryz.underlying22]
 rfl
open Go.Shelf
attribute [local go_sem] Oper.semAt_some
def rwS (L:List (Nat × Nat)) (a e:Nat):List (Nat × Nat):=if a<e∧e≤L.length then (L.drop a).take (e-a) else []
theorem infoDF:∃ i:TypeInfo,Tryz.prog.info? 28=some i∧i.zero=some (.agg #[.int .u32 0,.int .u32 0,.int .u8 0,.int .u8 0,.int .u32 0,.int .u32 0])∧i.size=6∧i.bytes=20:=by
 have h:(Tryz.prog.info? 28).map (fun i=>(i.zero,i.size,i.bytes))=some (some (.agg #[.int .u32 0,.int .u32 0,.int .u8 0,.int .u8 0,.int .u32 0,.int .u32 0]),6,20):=by kernel_rfl
 cases hi:Tryz.prog.info? 28 with
 |none=>rw [hi] at h;simp at h
 | some i=>
   rw [hi] at h
   simp only [Option.map_some,Option.some.injEq,Prod.mk.injEq] at h
   exact ⟨i,rfl,h.1,h.2.1,h.2.2⟩
def fcv:List Fz→List Value
 | []=>[]
 |f :: r=>.int .u32 (f.at_:Int) :: .int .u32 (f.len:Int) :: .int .u8 (f.kind:Int) :: .int .u8 (f.op:Int) :: .int .u32 (f.a:Int) :: .int .u32 (f.b:Int) :: fcv r
theorem fcv_append:∀ (A B:List Fz),fcv (A ++ B)=fcv A ++ fcv B
 | [],_=>rfl
 |f :: r,B=>by simp [fcv,fcv_append r B]
theorem thS_fuel:∀ (m n:Nat) (R:List (Nat × Nat)) (at_:Nat),R.length≤m→R.length≤n→thS m R at_=thS n R at_
 |_,_,[],_,_,_=>by rw [thS_nil,thS_nil]
 | m + 1,n+1,p :: R,at_,h1,h2=>by
   by_cases he:erV p.1 p.2=0
   · rw [thS_step _ _ _ _ he,thS_step _ _ _ _ he]
     have hb:1≤(bst (p :: R) at_ 15).len:=bst_pos (R:=R) he at_ 14
     rw [thS_fuel m n _ _ (by rw [List.length_drop];simp only [List.length_cons] at h1 ⊢;omega) (by rw [List.length_drop];simp only [List.length_cons] at h2 ⊢;omega)]
   · rw [thS_no _ _ _ _ he,thS_no _ _ _ _ he]
 |0,_,p :: R,_,h,_=>by simp at h
 |_+1,0,p :: R,_,_,h=>by simp at h
def rwL (L:List (Nat × Nat)) (k e:Nat):List Fz:=thsV ((L.drop k).take (e-k)) k
theorem rwL_end (L:List (Nat × Nat)) (k e:Nat) (h:e≤k):rwL L k e=[]:=by
 unfold rwL
 rw [show e-k=0 by omega,List.take_zero];rfl
theorem sub_cons {L:List (Nat × Nat)} {k e:Nat} (h:k<e) (he:e≤L.length):(L.drop k).take (e-k)=L.getD k (0,0) :: (L.drop (k+1)).take (e-(k+1)):=by
 rw [List.drop_eq_getElem_cons (show k<L.length by omega),show e-k=(e-(k+1))+1 by omega,List.take_succ_cons,List.getD_eq_getElem?_getD,List.getElem?_eq_getElem (show k<L.length by omega)]
 rfl
theorem rwL_bad {L:List (Nat × Nat)} {k e:Nat} (h:k<e) (he:e≤L.length) (hf:¬ flE L k e=0):rwL L k e=[]:=by
 have hE:flE L k e=erV (L.getD k (0,0)).1 (L.getD k (0,0)).2:=if_pos ⟨h,he⟩
 rw [hE] at hf
 unfold rwL thsV
 rw [sub_cons h he,thS_no _ _ _ _ hf]
theorem rwL_step {L:List (Nat × Nat)} (hwf:Wfc L) {k e:Nat} (h:k<e) (he:e≤L.length) (hf:flE L k e=0) :
   1≤(flV L k e).len∧k+(flV L k e).len≤e∧rwL L k e=flV L k e :: rwL L (k+(flV L k e).len) e:=by
 have hE:flE L k e=erV (L.getD k (0,0)).1 (L.getD k (0,0)).2:=if_pos ⟨h,he⟩
 have hV:flV L k e=bst ((L.drop k).take (e-k)) k 15:=if_pos hf
 have hf':=hE.symm.trans hf
 have hle:=bst_le (wfc_sub hwf k (e-k)) k 15
 rw [sub_len he,←hV] at hle
 have hpos:1≤(flV L k e).len:=by
   rw [hV,sub_cons h he]
   exact bst_pos hf' k 14
 refine ⟨hpos,by omega,?_⟩
 unfold rwL thsV
 have hs:=sub_cons h he
 have hl:=sub_len (L:=L) (a:=k) he
 rw [hl,show e-k=(e-k-1)+1 by omega]
 rw [show (e-k-1)+1=e-k by omega,hs]
 rw [show e-k=(e-k-1)+1 by omega,thS_step _ _ _ _ hf',←hs,←hV]
 congr 1
 rw [List.drop_take,List.drop_drop,show e-k-(flV L k e).len=e-(k+(flV L k e).len) by omega]
 exact thS_fuel _ _ _ _ (by rw [sub_len he];omega) (Nat.le_refl _)
def RwP (w:World) (L:List (Nat × Nat)) (a e:Nat) (en:Ending) (w':World):Prop:=∃ v D,en=.returned v∧D=(if a<e∧e≤L.length then rwL L a e else [])∧w'.ownsRow w.heap.size 28 6 v D.length (fcv D)∧Below w.heap.size w w'
structure RwI (w wr:World) (D:List Fz) (v:Value):Prop where
 own:wr.ownsRow w.heap.size 28 6 v D.length (fcv D)
 bel:Below w.heap.size w wr
theorem RwI.next {w wr w':World} {D:List Fz} {v:Value} (h:RwI w wr D v) (hb:Below wr.heap.size wr w'):RwI w w' D v:=
 ⟨(Kp.ofBelow (S:=fun _=>False) hb).own h.own (fun _ _ e=>e),h.bel.trans (hb.mono h.bel.size)⟩
set_option maxHeartbeats 8000000 in
theorem drow_any (ao:Option Addr) (cap a e:Nat) (L:List (Nat × Nat)) (w:World) (hL:L.length≤140737488355328) (ha32:a<4294967296) (he32:e<4294967296) (hwf:Wfc L) (hr:CRd w ao L w.heap.size) :
   Calls Tryz.prog 12 #[.slice ao L.length cap,.int .u32 (a:Int),.int .u32 (e:Int)] w fun en w'=>RwP w L a e en w':=by
 obtain ⟨i0,hi,hz0,hz1,hz2⟩:=infoDF
 have HL:=dhid (fun W=>dlies_any ao cap L.length a e W (by omega) ha32 he32)
 by_cases hl:a<e∧e≤L.length
 · rw [show liB L.length a e=true from decide_eq_true hl] at HL
   have HG:=dhid (fun k W (hk:k<4294967296) (hW:Below w.heap.size w W)=>dlong_any ao cap k e L W hL hk he32 hwf ((hr.below hW).mono hW.size))
   have HS:=dhid (fun k (h:k<e) (hf:flE L k e=0)=>rwL_step hwf h hl.2 hf)
   have HB:=dhid (fun k (h:k<e) (hf:¬ flE L k e=0)=>rwL_bad h hl.2 hf)
   have HE:=dhid (fun k (h:e≤k)=>rwL_end L k e h)
   unfold FlD at HG
   have HP:Hid (∀ v D w',D=rwL L a e→w'.ownsRow w.heap.size 28 6 v D.length (fcv D)→Below w.heap.size w w'→RwP w L a e (.returned v) w'):=dhid (fun v D w' h1 h2 h3=>⟨v,D,rfl,by rw [if_pos hl];exact h1,h2,h3⟩)
   generalize RwP w L a e=PP at HP ⊢
   generalize hV:flV L=fv at HG HS
   generalize hE2:flE L=fe at HG HS HB
   generalize hR:rwL L=rw' at HS HB HE HP
   have hE32:Hid (e<4294967296):=dhid he32
   have hae:a≤e:=by omega
   clear hL hwf hr hl ha32 he32 hV hE2 hR
   go_enter Tryz.func12,Tryz.ntmps12
   go_wp2_with (go_at_call 20;refine (HL.out _).mono ?_;rintro en w1 ⟨rfl,hw1⟩;subst w1)
   go_loopw [1,7] (fun u v wr=>∃ (k:Nat) (D:List Fz),u=.int .u32 (k:Int)∧k≤e∧D.length≤k∧Hid (D ++ rw' k e=rw' a e)∧Hid (RwI w wr D v)) (fun u _ _=>e-(intOf u).toNat)
   case atStart=>exact ⟨a,[],rfl,hae,Nat.zero_le _,dhid rfl,dhid ⟨World.ownsRow_nil _ _ _ _,Below.refl _ _⟩⟩
   case round=>
     obtain ⟨k,D,rfl,hk,hDk,HD,HX⟩:=hrel
     by_cases hlt:k<e
     · have hltI:(k:Int)<(e:Int):=by omega
       have HGk:=dhid (HG.out k wr (by have:=hE32.out;omega) HX.out.bel)
       by_cases hf:fe k e=0
       · obtain ⟨s1,s2,s3⟩:=HS.out k hlt hf
         rw [hf] at HGk
         have HD2:Hid ((D ++ [fv k e]) ++ rw' (k+(fv k e).len) e=rw' a e):=dhid (by rw [←HD.out,s3,List.append_assoc];rfl)
         have HLe:Hid ((D ++ [fv k e]).length=D.length+1):=dhid (by simp)
         have HC:Hid (fcv (D ++ [fv k e])=fcv D ++ fcv [fv k e]):=dhid (fcv_append _ _)
         generalize fv k e=f at HGk s1 s2 HD2 HLe HC
         obtain ⟨f0,f1,f2,f3,f4,f5⟩:=f
         simp only [fzA,fcv] at HGk s1 s2 HD2 HC
         obtain ⟨p,hp⟩:∃ p,Hid (p=k+f1):=⟨_,dhid rfl⟩
         rw [←hp.out] at HD2 s2
         have hpk:k<p:=by have:=hp.out;omega
         have q1:(k:Int)+(f1:Int)=(p:Int):=by have:=hp.out;omega
         clear s3 hf HG HS HB HE HD
         go_wp2_with fail
         refine HGk.out.mono ?_
         rintro en w3 ⟨rfl,hb3⟩
         have X3:=dhid (HX.out.next hb3)
         have X4:=dhid (X3.out.next (bel1 w3 (.cells #[.int .u32 (f0:Int),.int .u32 (f1:Int),.int .u8 (f2:Int),.int .u8 (f3:Int),.int .u32 (f4:Int),.int .u32 (f5:Int)] 28)))
         have z3:=X3.out.bel.size
         clear hb3 HGk HX
         go_wp2_with (at_builtin;refine wpList_append_own _ rfl _ _ 39 rfl w.heap.size 28 i0 (.agg #[.int .u32 0,.int .u32 0,.int .u8 0,.int .u8 0,.int .u32 0,.int .u32 0]) 6 20 Tryz.underlying39 hi hz0 hz1 hz2 rfl (by decide) _ _ _ rfl (X4.out.own.alloc _) ⟨_,0,none⟩ 1 1 [.int .u32 (f0:Int),.int .u32 (f1:Int),.int .u8 (f2:Int),.int .u8 (f3:Int),.int .u32 (f4:Int),.int .u32 (f5:Int)] rfl rfl ?c1 ?c2 ?c3 ?c4 ?c5 ?_)
         case c1=>
           intro j u hj
           match j,hj with
           |0,hj=>simp at hj;subst hj;simp [Addr.add]
           |1,hj=>simp at hj;subst hj;simp [Addr.add]
           |2,hj=>simp at hj;subst hj;simp [Addr.add]
           |3,hj=>simp at hj;subst hj;simp [Addr.add]
           |4,hj=>simp at hj;subst hj;simp [Addr.add]
           |5,hj=>simp at hj;subst hj;simp [Addr.add]
         case c2=>intro u hu;simp at hu;rcases hu with rfl|rfl|rfl|rfl|rfl|rfl <;> rfl
         case c3=>have:=hE32.out;unfold maxLen;omega
         case c4=>have:=hE32.out;omega
         case c5=>simp;omega
         intro v' w5 hown' hgrow _
         have p5:w5.heap[w3.heap.size]?=some (.cells #[.int .u32 (f0:Int),.int .u32 (f1:Int),.int .u8 (f2:Int),.int .u8 (f3:Int),.int .u32 (f4:Int),.int .u32 (f5:Int)] 28):=(hgrow.block w3.heap.size (by simp;omega) (fun q=>by have:=(X3.out.own.lt _ q.symm).2;omega)).trans ((Below.heap_alloc (w3.alloc (.cells #[.int .u32 (f0:Int),.int .u32 (f1:Int),.int .u8 (f2:Int),.int .u8 (f3:Int),.int .u32 (f4:Int),.int .u32 (f5:Int)] 28)) _ w3.heap.size (by simp)).trans (heap_alloc_new w3 (.cells #[.int .u32 (f0:Int),.int .u32 (f1:Int),.int .u8 (f2:Int),.int .u8 (f3:Int),.int .u32 (f4:Int),.int .u32 (f5:Int)] 28)))
         have d1:w5.cell? ⟨w3.heap.size,1,none⟩=some (.int .u32 (f1:Int)):=obj_cell p5 1
         have X5:Hid (RwI w w5 (D ++ [⟨f0,f1,f2,f3,f4,f5⟩]) v'):=dhid ⟨by rw [HLe.out,HC.out];exact hown',grown_below X4.out.bel X4.out.bel.size X4.out.own hgrow⟩
         have w1':IntKind.u32.wrap (p:Int)=(p:Int):=by have:=hE32.out;rw [IntKind.wrap_u32];omega
         have w2':(p:Int) % 4294967296=(p:Int):=by have:=hE32.out;omega
         clear hown' hgrow X3 X4 p5 HC
         go_wp2_with fail
         go_roundw
         case rel=>exact ⟨p,_,rfl,s2,by rw [HLe.out];omega,HD2,X5⟩
         case measure=>clear w1' w2' q1;simp [intOf];omega
       · have HDD:Hid (D=rw' a e):=dhid (by rw [←HD.out,HB.out k hlt hf,List.append_nil])
         have hd:((fe k e:Int) != 0)=true:=by simp;omega
         generalize fe k e=er at HGk hd
         generalize fv k e=f at HGk
         obtain ⟨f0,f1,f2,f3,f4,f5⟩:=f
         simp only [fzA] at HGk
         clear hf HG HS HB HE HD
         go_wp2_with fail
         refine HGk.out.mono ?_
         rintro en w3 ⟨rfl,hb3⟩
         have X4:=dhid ((HX.out.next hb3).next (bel1 w3 (.cells #[.int .u32 (f0:Int),.int .u32 (f1:Int),.int .u8 (f2:Int),.int .u8 (f3:Int),.int .u32 (f4:Int),.int .u32 (f5:Int)] 28)))
         clear hb3 HGk HX
         go_wp2_with fail
         exact HP.out _ _ _ HDD.out X4.out.own X4.out.bel
     · have hltI:¬ (k:Int)<(e:Int):=by omega
       have HDD:Hid (D=rw' a e):=dhid (by rw [←HD.out,HE.out k (by omega),List.append_nil])
       clear HG HS HB HE HD
       go_wp2_with fail
       exact HP.out _ _ _ HDD.out HX.out.own HX.out.bel
 · rw [show liB L.length a e=false from decide_eq_false hl] at HL
   have HP:Hid (∀ w',w'=w→RwP w L a e (.returned (.slice none 0 0)) w'):=dhid (by rintro w' rfl;exact ⟨_,[],rfl,by rw [if_neg hl],World.ownsRow_nil _ _ _ _,Below.refl _ _⟩)
   generalize RwP w L a e=PP at HP ⊢
   clear hL ha32 he32 hl hr hwf
   go_enter Tryz.func12,Tryz.ntmps12
   go_wp2_with (go_at_call 20;refine (HL.out _).mono ?_;rintro en w1 ⟨rfl,hw1⟩;subst w1)
   exact HP.out _ rfl
structure Upon (B:Nat) (W W':World):Prop where
 size:W.heap.size≤W'.heap.size
 same:∀ (k:Nat) (o:Obj),B≤k→W.heap[k]?=some o→o.isCells=false→W'.heap[k]?=some o
theorem Upon.refl (B:Nat) (W:World):Upon B W W:=⟨Nat.le_refl _,fun _ _ _ h _=>h⟩
theorem Upon.trans {B:Nat} {W X Y:World} (h:Upon B W X) (h':Upon B X Y):Upon B W Y:=⟨Nat.le_trans h.size h'.size,fun k o hB hk hc=>h'.same k o hB (h.same k o hB hk hc) hc⟩
theorem Upon.mono {B C:Nat} {W W':World} (h:Upon B W W') (hBC:B≤C):Upon C W W':=⟨h.size,fun k o hC hk hc=>h.same k o (Nat.le_trans hBC hC) hk hc⟩
theorem Upon.of_below {B:Nat} {W W':World} (h:Below W.heap.size W W'):Upon B W W':=⟨h.size,fun k _ _ hk _=>(h.block k (Array.getElem?_eq_some_iff.1 hk).1).trans hk⟩
theorem Upon.alloc (B:Nat) (W:World) (o:Obj):Upon B W (W.alloc o):=⟨by simp,fun k _ _ hk _=>(Below.heap_alloc W o k (Array.getElem?_eq_some_iff.1 hk).1).trans hk⟩
theorem Upon.putObj {B l:Nat} (W:World) (o:Obj) (h:l<B):Upon B W (W.putObj l o):=⟨by simp,fun k _ hB hk _=>(World.putObj_heap_other (by omega)).trans hk⟩
theorem Upon.setCell {B:Nat} (W:World) (a:Addr) (v:Value):Upon B W (W.setCell a v):=⟨(KeepsWalks.setCell W a v).size,fun k o _ hk hc=>(KeepsOthers.setCell W a v).same k o hk hc⟩
theorem Upon.at {B l:Nat} {W W':World} {o:Obj} (h:Upon B W W') (hB:B≤l) (hl:W.heap[l]?=some o) (hc:o.isCells=false:=by rfl):W'.heap[l]?=some o:=h.same l o hB hl hc
theorem Upon.from {B:Nat} {W W':World} (h:Upon B W W'):KeepsFrom B W W':=⟨h.size,fun _ _ hB hk hc=>h.at hB hk hc⟩
def uponPost {α:Type} (B:Nat) (Kp:World→World→Prop) (I:List α→World→Prop) (Ix:Code→List α→World→Prop) (xs:List α) (W:World):Exit→Act→World→Prop
 | .normal,_,W'=>Upon B W W'∧Kp W W'∧I xs W'
 | .ret,_,W'=>Upon B W W'∧Ix .ret xs W'
 | .exit id,_,W'=>Upon B W W'∧Ix (.exit id) xs W'
 | .goto t,_,W'=>Upon B W W'∧Ix (.goto t) xs W'
 | .panic _,_,_=>False
 | .outgrown,_,_=>False
def SeqOwn {α:Type} (F:Fence) (n:Nat) (P:Program) (g:Nat) (lb:Array Value) (encs:α→Array Value) (Kp:World→World→Prop) (S Sp:List α→Prop) (N:Nat) (w:World):Prop:=
 ∀ (l:Nat) (J Jx:List α→World→Prop) (W:World),Below w.heap.size w W→OwnFrom W.heap.size J→OwnFrom W.heap.size Jx →
   (∀ pre x W1,J pre W1→pre.length<N→Sp (pre ++ [x])→YieldAt F (n-1) P l (encs x) W1 fun e W'=>
     (e=.returned (.bool true)∧J (pre ++ [x]) W'∧Kp W1 W'∧Upon W.heap.size W1 W')∨(e=.returned (.bool false)∧Jx (pre ++ [x]) W'∧Upon W.heap.size W1 W')) →
   J [] W →
   CallsIn F n P g (#[.func (.yield l) #[] #[]] ++ lb) W fun e W'=>(∃ v,e=.returned v)∧((∃ xs,S xs∧J xs W')∨(∃ pre,Sp pre∧Jx pre W'))
theorem low_kept {A C:World} {row:Option Nat} {B l:Nat} {o:Obj} (h:A.heap[l]?=some o) (hl:l<B) (hg:A.grownBy C row) (hr:∀ r,row=some r→B≤r∧∃ o:Obj,A.heap[r]?=some o∧o.isCells=false):C.heap[l]?=some o:=
 (hg.block l (Array.getElem?_eq_some_iff.1 h).1 (fun e=>by have:=(hr l e.symm).1;omega)).trans h
theorem seq_core {α:Type} {F:Fence} {m:Nat} {P:Program} {gf:Nat} {lb:Array Value} {encs:α→Array Value} {Kp:World→World→Prop} {S Sp:List α→Prop} {N:Nat} {w0 W1:World} (hseq:SeqOwn F m P gf lb encs Kp S Sp N w0)
   (hKt:∀ {A B C:World},Kp A B→Kp B C→Kp A C) {B l:Nat} (hKb:∀ (W:World) (o o':Obj),W.heap[l]?=some o→o.isCells=false→o.isWalk=false→Kp W (W.putObj l o')) (hb1:Below w0.heap.size w0 W1)
   (r0:Loop) (hst:r0.state=.ready) (hpe:r0.pending=none) (hfn:F.fn r0.fn) (hps:∀ x,(encs x).size=r0.params.size) (hL:W1.heap[l]?=some (.loop r0)) (hB:B≤l)
   (I:List α→World→Prop) (Ix:Code→List α→World→Prop) (hI:OwnFrom B I) (hIx:∀ c,OwnFrom B (Ix c)) (h0:I [] W1) (Ax:α→Act→World→Prop) (hAx:∀ x a',OwnFrom B (fun (_:Unit) W=>Ax x a' W))
   (hassign:∀ (pre:List α) (x:α) (W:World) (K:Act→World→Prop),I pre W→(∀ a' W',Upon B W W'→Kp W W'→I pre W'→Ax x a' W'→K a' W') →
     r0.assign.wpIn (F.inRound l) (m-1) P (Exit.then K (fun _ _ _=>False)) { tmps:=(r0.params.zip (encs x)).foldl (fun t (p,v)=>t.setIfInBounds p v) r0.tmps,defers:=[] } W)
   (hbody:∀ (pre:List α) (x:α) (a':Act) (W:World),(∃ r,W.heap[l]?=some (.loop r))→I pre W→Ax x a' W→pre.length<N→Sp (pre ++ [x])→r0.body.wpIn (F.inRound l) (m-1) P (uponPost B Kp I Ix (pre ++ [x]) W) a' W)
   (X:World→Prop) (hX0:X W1) (hXo:OwnFrom W1.heap.size (fun (_:Unit) W=>X W)) (hXp:∀ W o',X W→X (W.putObj l o')) (hXk:∀ W W',Upon B W W'→X W→X W') :
   CallsIn F m P gf (#[.func (.yield l) #[] #[]] ++ lb) W1 fun e W2=>(∃ v,e=.returned v) ∧
     ((∃ xs,S xs∧I xs W2∧W2.heap[l]?=some (.loop r0)∧X W2)∨(∃ pre c,Sp pre∧Ix c pre W2∧W2.heap[l]?=some (.loop { r0 with state:=.done,pending:=some c })∧X W2)):=by
 have hlW:l<W1.heap.size:=(Array.getElem?_eq_some_iff.1 hL).1
 have up:∀ {A:World} {row:Option Nat},(∀ r,row=some r→W1.heap.size≤r∧∃ o:Obj,A.heap[r]?=some o∧o.isCells=false)→(∀ r,row=some r→B≤r∧∃ o:Obj,A.heap[r]?=some o∧o.isCells=false):=fun h r e=>⟨by have:=(h r e).1;omega,(h r e).2⟩
 refine (hseq l (fun pre W=>I pre W∧W.heap[l]?=some (.loop r0)∧X W) (fun pre W=>∃ c,Ix c pre W∧W.heap[l]?=some (.loop { r0 with state:=.done,pending:=some c })∧X W) W1 hb1
   (fun s A C row hs hg hr=>⟨hI s A C row hs.1 hg (up hr),low_kept hs.2.1 hlW hg hr,hXo () A C row hs.2.2 hg hr⟩)
   (fun s A C row ⟨c,hs1,hs2,hs3⟩ hg hr=>⟨c,hIx c s A C row hs1 hg (up hr),low_kept hs2 hlW hg hr,hXo () A C row hs3 hg hr⟩) ?_ ⟨h0,hL,hX0⟩).mono ?_
 · rintro pre x W ⟨hi,hl,hx⟩ hlen hsp
   refine ⟨r0.fn,_,r0.assign,r0.body,run_yield hl (hps x),roundIn_of_wpIn hfn (hassign pre x W _ hi ?_)⟩
   intro a' Wa hkf hkp hia hax
   have hla:=hkf.at hB hl
   have hxa:=hXk _ _ hkf hx
   have hll:l<Wa.heap.size:=(Array.getElem?_eq_some_iff.1 hla).1
   refine ⟨_,run_beginRound hla hst,?_⟩
   have hlb:(Wa.putObj l (.loop { r0 with state:=.busy })).heap[l]?=some (.loop { r0 with state:=.busy }):=World.putObj_heap_same hll
   refine wpIn_mono (hbody pre x a' _ ⟨_,hlb⟩ (hI.putObj _ hia hB hla rfl) ((hAx x a').putObj (s:=()) _ hax hB hla rfl) hlen hsp) ?_
   have hkb:Kp W (Wa.putObj l (.loop { r0 with state:=.busy })):=hKt hkp (hKb _ _ _ hla rfl rfl)
   have upA:∀ (W3:World) (o:Obj),Upon B (Wa.putObj l (.loop { r0 with state:=.busy })) W3→Upon W1.heap.size W (W3.putObj l o):=fun W3 o hk3=>(((hkf.mono (by omega)).trans (Upon.putObj _ _ hlW)).trans (hk3.mono (by omega))).trans (Upon.putObj _ _ hlW)
   have leave:∀ (W3:World) (c:Code),Upon B (Wa.putObj l (.loop { r0 with state:=.busy })) W3→Ix c (pre ++ [x]) W3 →
       ∃ v W4,(Instr.endRound l (some c)).run P W3=.ok v W4∧((Ending.returned v=.returned (.bool true)∧(I (pre ++ [x]) W4∧W4.heap[l]?=some (.loop r0)∧X W4)∧Kp W W4∧Upon W1.heap.size W W4)∨(Ending.returned v=.returned (.bool false)∧(∃ c',Ix c' (pre ++ [x]) W4∧W4.heap[l]?=some (.loop { r0 with state:=.done,pending:=some c' })∧X W4)∧Upon W1.heap.size W W4)):=fun W3 c hk3 hi3=>by
     have hl3:=hk3.at hB hlb
     exact ⟨_,_,run_endRound (some c) hl3,.inr ⟨rfl,⟨c,(hIx c).putObj _ hi3 hB hl3 rfl,World.putObj_heap_same (Array.getElem?_eq_some_iff.1 hl3).1,hXp _ _ (hXk _ _ hk3 (hXp _ _ hxa))⟩,upA _ _ hk3⟩⟩
   rintro e a3 W3 hp
   cases e with
   | normal=>
     obtain ⟨hk3,hkp3,hi3⟩:=hp
     have hl3:=hk3.at hB hlb
     have he:=run_endRound (P:=P) none hl3
     have hre:({ ({ r0 with state:=.busy }:Loop) with state:=if (none:Option Code).isNone then .ready else .done,pending:=none }:Loop)=r0:=by
       cases r0
       simp only at hst hpe
       subst hst hpe
       rfl
     rw [hre] at he
     exact ⟨_,_,he,.inl ⟨rfl,⟨hI.putObj _ hi3 hB hl3 rfl,World.putObj_heap_same (Array.getElem?_eq_some_iff.1 hl3).1,hXp _ _ (hXk _ _ hk3 (hXp _ _ hxa))⟩,hKt (hKt hkb hkp3) (hKb _ _ _ hl3 rfl rfl),upA _ _ hk3⟩⟩
   |ret=>exact leave W3 .ret hp.1 hp.2
   |exit id=>exact leave W3 (.exit id) hp.1 hp.2
   |goto t=>exact leave W3 (.goto t) hp.1 hp.2
   |panic ch=>exact hp.elim
   |outgrown=>exact hp.elim
 · rintro e W2 ⟨hv,⟨xs,hS,hi,hl,hx⟩|⟨pre,hSp,c,hi,hl,hx⟩⟩
   · exact ⟨hv,.inl ⟨xs,hS,hi,hl,hx⟩⟩
   · exact ⟨hv,.inr ⟨pre,c,hSp,hi,hl,hx⟩⟩
theorem range_outer {α:Type} {F:Fence} {n:Nat} {P:Program} {g:Operand} {ps:Array Tmp} {assign body:Code} {Q:Exit→Act→World→Prop} {a:Act} {w:World} (hro:F.round=none) (h1:1≤n) {gf:Nat} {lb:Array Value} (hg:a.eval g=.func (.func gf) #[] lb) (hFg:F.fn gf) (eg:∀ args w,(callFunc gf args).run P w=.ok (.enter gf args) w)
   {encs:α→Array Value} {Kp:World→World→Prop} {S Sp:List α→Prop} {N:Nat} {w0:World} (hseq:SeqOwn F (n-1) P gf lb encs Kp S Sp N w0)
   (hKt:∀ {A B C:World},Kp A B→Kp B C→Kp A C) (hKb:∀ (W:World) (l:Nat) (o o':Obj),w.heap.size≤l→W.heap[l]?=some o→o.isCells=false→o.isWalk=false→Kp W (W.putObj l o')) (hb0:Below w0.heap.size w0 w) (hps:∀ x,(encs x).size=ps.size)
   (I:List α→World→Prop) (Ix:Code→List α→World→Prop) (hI:OwnFrom w.heap.size I) (hIx:∀ c,OwnFrom w.heap.size (Ix c)) (h0:I [] w) (Ax:α→Act→World→Prop) (hAx:∀ x a',OwnFrom w.heap.size (fun (_:Unit) W=>Ax x a' W))
   (hassign:∀ (l:Nat) (pre:List α) (x:α) (W:World) (K:Act→World→Prop),I pre W→(∀ a' W',Upon w.heap.size W W'→Kp W W'→I pre W'→Ax x a' W'→K a' W') →
     assign.wpIn (F.inRound l) (n-1-1) P (Exit.then K (fun _ _ _=>False)) { tmps:=(ps.zip (encs x)).foldl (fun t (p,v)=>t.setIfInBounds p v) a.tmps,defers:=[] } W)
   (hbody:∀ (l:Nat) (pre:List α) (x:α) (a':Act) (W:World),w.heap.size≤l→(∃ r,W.heap[l]?=some (.loop r))→I pre W→Ax x a' W→pre.length<N→Sp (pre ++ [x])→body.wpIn (F.inRound l) (n-1-1) P (uponPost w.heap.size Kp I Ix (pre ++ [x]) W) a' W)
   (hdone:∀ (D:Nat) (xs:List α) (W:World),w.heap.size≤D→S xs→I xs W→W.heap[D]?=some (.deferred (some []))→Q .normal { a with defers:={ target:=.collected D,args:=#[] } :: a.defers } W)
   (hstop:∀ (D:Nat) (c:Code) (pre:List α) (W:World),w.heap.size≤D→Sp pre→Ix c pre W→W.heap[D]?=some (.deferred (some []))→c.wpIn F n P Q { a with defers:={ target:=.collected D,args:=#[] } :: a.defers } W) :
   (Code.rangeFunc g ps assign body).wpIn F n P Q a w:=by
 refine wpIn_rangeFunc fun fn hfn=>?_
 rw [hro]
 obtain ⟨W1,hW1⟩:∃ W1,(w.alloc (.deferred (some []))).alloc (.loop { state:=.ready,pending:=none,fn,tmps:=a.tmps,params:=ps,assign,body,defers:=w.heap.size })=W1:=⟨_,rfl⟩
 have hsz:W1.heap.size=w.heap.size+1+1:=by rw [←hW1,World.size_alloc,World.size_alloc]
 have hL:W1.heap[w.heap.size+1]?=some (.loop { state:=.ready,pending:=none,fn,tmps:=a.tmps,params:=ps,assign,body,defers:=w.heap.size }):=by
   have:=World.alloc_heap_new (w.alloc (.deferred (some []))) (.loop { state:=.ready,pending:=none,fn,tmps:=a.tmps,params:=ps,assign,body,defers:=w.heap.size })
   rwa [World.size_alloc,hW1] at this
 have hD:W1.heap[w.heap.size]?=some (.deferred (some [])):=by
   rw [←hW1,Below.heap_alloc _ _ _ (by simp)]
   exact World.alloc_heap_new w _
 have hbW:Below w.heap.size w W1:=by
   rw [←hW1]
   exact ((Below.refl _ w).alloc (Nat.le_refl _) _).alloc (by simp) _
 refine ⟨_,_,W1,{ target:=.fn (.func gf) lb,args:=#[.func (.yield (w.heap.size+1)) #[] #[]] },W1,gf,#[.func (.yield (w.heap.size+1)) #[] #[]] ++ lb,W1,hW1▸run_enterLoop_outer _ _ _ _ _,?_,?_,?_,fun _=>h1,?_⟩
 · simp only [resolve,hg]
   simp [go_sem]
 · intro f' hf'
   simp [Target.leads] at hf'
   subst hf'
   exact hFg
 · simp [invoke,go_sem,eg]
 · refine (seq_core hseq (fun x y=>hKt x y) (B:=w.heap.size) (l:=w.heap.size+1) (fun W o o'=>hKb W _ o o' (by omega)) (hb0.trans (hbW.mono hb0.size)) _ rfl rfl hfn hps hL (by omega) I Ix hI hIx (by rw [←hW1];exact hI.alloc _ (hI.alloc _ h0)) Ax hAx
     (fun pre x W K=>hassign _ pre x W K) (fun pre x a' W=>hbody _ pre x a' W (by omega)) (fun W=>W.heap[w.heap.size]?=some (.deferred (some []))) hD (fun _ A C row hs hg' hr=>low_kept hs (by omega) hg' hr) (fun W o' h=>(World.putObj_heap_other (by omega)).trans h) (fun W W' hk h=>hk.at (Nat.le_refl _) h)).mono ?_
   rintro e W2 ⟨⟨v,rfl⟩,⟨xs,hS,hi,hl,hx⟩|⟨pre,c,hSp,hi,hl,hx⟩⟩
   · exact ⟨_,_,run_endLoop hl (by simp),hdone _ xs _ (Nat.le_refl _) hS (hI.putObj _ hi (by omega) hl rfl) ((World.putObj_heap_other (by omega)).trans hx)⟩
   · exact ⟨_,_,run_endLoop hl (by simp),hstop _ c pre _ (Nat.le_refl _) hSp ((hIx c).putObj _ hi (by omega) hl rfl) ((World.putObj_heap_other (by omega)).trans hx)⟩
theorem range_break {α:Type} {F:Fence} {n:Nat} {P:Program} {g:Operand} {ps:Array Tmp} {assign body:Code} {id:Nat} {Q:Exit→Act→World→Prop} {a:Act} {w:World} (hro:F.round=none) (h1:1≤n) {gf:Nat} {lb:Array Value} (hg:a.eval g=.func (.func gf) #[] lb) (hFg:F.fn gf) (eg:∀ args w,(callFunc gf args).run P w=.ok (.enter gf args) w)
   {encs:α→Array Value} {Kp:World→World→Prop} {S Sp:List α→Prop} {N:Nat} {w0:World} (hseq:SeqOwn F (n-1) P gf lb encs Kp S Sp N w0)
   (hKt:∀ {A B C:World},Kp A B→Kp B C→Kp A C) (hKb:∀ (W:World) (l:Nat) (o o':Obj),w.heap.size≤l→W.heap[l]?=some o→o.isCells=false→o.isWalk=false→Kp W (W.putObj l o')) (hb0:Below w0.heap.size w0 w) (hps:∀ x,(encs x).size=ps.size)
   (I Ib:List α→World→Prop) (hI:OwnFrom w.heap.size I) (hIb:OwnFrom w.heap.size Ib) (h0:I [] w) (Ax:α→Act→World→Prop) (hAx:∀ x a',OwnFrom w.heap.size (fun (_:Unit) W=>Ax x a' W))
   (hassign:∀ (l:Nat) (pre:List α) (x:α) (W:World) (K:Act→World→Prop),I pre W→(∀ a' W',Upon w.heap.size W W'→Kp W W'→I pre W'→Ax x a' W'→K a' W') →
     assign.wpIn (F.inRound l) (n-1-1) P (Exit.then K (fun _ _ _=>False)) { tmps:=(ps.zip (encs x)).foldl (fun t (p,v)=>t.setIfInBounds p v) a.tmps,defers:=[] } W)
   (hbody:∀ (l:Nat) (pre:List α) (x:α) (a':Act) (W:World),w.heap.size≤l→(∃ r,W.heap[l]?=some (.loop r))→I pre W→Ax x a' W→pre.length<N→Sp (pre ++ [x])→body.wpIn (F.inRound l) (n-1-1) P (uponPost w.heap.size Kp I (fun c pre W=>c=.exit id∧Ib pre W) (pre ++ [x]) W) a' W)
   (hend:∀ (D:Nat) (pre:List α) (W:World),w.heap.size≤D→((S pre∧I pre W)∨(Sp pre∧Ib pre W))→W.heap[D]?=some (.deferred (some []))→Q .normal { a with defers:={ target:=.collected D,args:=#[] } :: a.defers } W) :
   (Code.rangeFunc g ps assign body).wpIn F n P (Exit.inBlock id Q) a w:=
 range_outer hro h1 hg hFg eg hseq hKt hKb hb0 hps I (fun c pre W=>c=.exit id∧Ib pre W) hI (fun c s A C row h hg hr=>⟨h.1,hIb s A C row h.2 hg hr⟩) h0 Ax hAx hassign hbody
   (fun D xs W hD hS hi hd=>hend D xs W hD (.inl ⟨hS,hi⟩) hd)
   (fun D c pre W hD hS hi hd=>by
     obtain ⟨rfl,hi⟩:=hi
     refine wpIn_exit ?_
     simp only [Exit.inBlock,if_true]
     exact hend D pre W hD (.inr ⟨hS,hi⟩) hd)
theorem range_inner {α:Type} {F:Fence} {n:Nat} {P:Program} {g:Operand} {ps:Array Tmp} {assign body:Code} {Q:Exit→Act→World→Prop} {a:Act} {w:World} {l0:Nat} {q0:Loop} (hro:F.round=some l0) (hq0:w.heap[l0]?=some (.loop q0)) (h1:1≤n) {gf:Nat} {lb:Array Value} (hg:a.eval g=.func (.func gf) #[] lb) (hFg:F.fn gf) (eg:∀ args w,(callFunc gf args).run P w=.ok (.enter gf args) w)
   {encs:α→Array Value} {Kp:World→World→Prop} {S Sp:List α→Prop} {N:Nat} {w0:World} (hseq:SeqOwn F (n-1) P gf lb encs Kp S Sp N w0)
   (hKt:∀ {A B C:World},Kp A B→Kp B C→Kp A C) (hKb:∀ (W:World) (l:Nat) (o o':Obj),w.heap.size≤l→W.heap[l]?=some o→o.isCells=false→o.isWalk=false→Kp W (W.putObj l o')) (hb0:Below w0.heap.size w0 w) (hps:∀ x,(encs x).size=ps.size)
   (I:List α→World→Prop) (Ix:Code→List α→World→Prop) (hI:OwnFrom w.heap.size I) (hIx:∀ c,OwnFrom w.heap.size (Ix c)) (h0:I [] w) (Ax:α→Act→World→Prop) (hAx:∀ x a',OwnFrom w.heap.size (fun (_:Unit) W=>Ax x a' W))
   (hassign:∀ (l:Nat) (pre:List α) (x:α) (W:World) (K:Act→World→Prop),I pre W→(∀ a' W',Upon w.heap.size W W'→Kp W W'→I pre W'→Ax x a' W'→K a' W') →
     assign.wpIn (F.inRound l) (n-1-1) P (Exit.then K (fun _ _ _=>False)) { tmps:=(ps.zip (encs x)).foldl (fun t (p,v)=>t.setIfInBounds p v) a.tmps,defers:=[] } W)
   (hbody:∀ (l:Nat) (pre:List α) (x:α) (a':Act) (W:World),w.heap.size≤l→(∃ r,W.heap[l]?=some (.loop r))→I pre W→Ax x a' W→pre.length<N→Sp (pre ++ [x])→body.wpIn (F.inRound l) (n-1-1) P (uponPost w.heap.size Kp I Ix (pre ++ [x]) W) a' W)
   (hdone:∀ (xs:List α) (W:World),S xs→I xs W→Q .normal a W)
   (hstop:∀ (c:Code) (pre:List α) (W:World),Sp pre→Ix c pre W→c.wpIn F n P Q a W) :
   (Code.rangeFunc g ps assign body).wpIn F n P Q a w:=by
 refine wpIn_rangeFunc fun fn hfn=>?_
 rw [hro]
 obtain ⟨W1,hW1⟩:∃ W1,w.alloc (.loop { state:=.ready,pending:=none,fn,tmps:=a.tmps,params:=ps,assign,body,defers:=q0.defers })=W1:=⟨_,rfl⟩
 have hsz:W1.heap.size=w.heap.size+1:=by rw [←hW1,World.size_alloc]
 have hL:W1.heap[w.heap.size]?=some (.loop { state:=.ready,pending:=none,fn,tmps:=a.tmps,params:=ps,assign,body,defers:=q0.defers }):=by rw [←hW1];exact World.alloc_heap_new w _
 have hbW:Below w.heap.size w W1:=by rw [←hW1];exact (Below.refl _ w).alloc (Nat.le_refl _) _
 refine ⟨_,_,W1,{ target:=.fn (.func gf) lb,args:=#[.func (.yield w.heap.size) #[] #[]] },W1,gf,#[.func (.yield w.heap.size) #[] #[]] ++ lb,W1,hW1▸run_enterLoop_inner hq0 _ _ _ _ _,?_,?_,?_,fun _=>h1,?_⟩
 · simp only [resolve,hg]
   simp [go_sem]
 · intro f' hf'
   simp [Target.leads] at hf'
   subst hf'
   exact hFg
 · simp [invoke,go_sem,eg]
 · refine (seq_core hseq (fun x y=>hKt x y) (B:=w.heap.size) (l:=w.heap.size) (fun W o o'=>hKb W _ o o' (Nat.le_refl _)) (hb0.trans (hbW.mono hb0.size)) _ rfl rfl hfn hps hL (Nat.le_refl _) I Ix hI hIx (by rw [←hW1];exact hI.alloc _ h0) Ax hAx
     (fun pre x W K=>hassign _ pre x W K) (fun pre x a' W=>hbody _ pre x a' W (Nat.le_refl _)) (fun _=>True) trivial (fun _ _ _ _ _ _ _=>trivial) (fun _ _ _=>trivial) (fun _ _ _ _=>trivial)).mono ?_
   rintro e W2 ⟨⟨v,rfl⟩,⟨xs,hS,hi,hl,_⟩|⟨pre,c,hSp,hi,hl,_⟩⟩
   · exact ⟨_,_,run_endLoop hl (by simp),hdone xs _ hS (hI.putObj _ hi (Nat.le_refl _) hl rfl)⟩
   · exact ⟨_,_,run_endLoop hl (by simp),hstop c pre _ hSp ((hIx c).putObj _ hi (Nat.le_refl _) hl rfl)⟩
end Go.Proofs.YtibhlcfligfhdaaGreat
