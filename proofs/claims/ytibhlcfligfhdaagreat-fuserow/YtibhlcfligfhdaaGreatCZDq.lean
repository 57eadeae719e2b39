import Derived.Test.YtibhlcfligfhdaaGreatCZDp
import Derived.Test.YtibhlcfligfhdaaGreatCDLg
import Derived.Laws.AppendOwnNone
import Derived.Test.YtibhlcfligfhdaaGreatCIBas
import Derived.Test.YtibhlcfligfhdaaGreatCDOo
import Derived.Deep.RegionHeld3
import Derived.Test.YtibhlcfligfhdaaGreatCAHRx
import Derived.ProofKit
import Derived.OpenShut
import Derived.SizedLaws
import Derived.JoinedCond
namespace Go.Proofs.YtibhlcfligfhdaaGreat
set_option maxHeartbeats 8000000
open Go.RowKit Go.WideShapes Go.Shelf
set_option maxRecDepth 100000
theorem shd_k {L:List (Nat × Nat)} {a e k:Nat} {f:Fz} (h:ShD L a e k f):k=1∨5≤k∧k≤15:=by
 have h2:=h.2
 unfold ShC at h2
 split at h2
 · exact .inl (by assumption)
 · split at h2
   · rename_i q;exact .inr ⟨q.1,by omega⟩
   · split at h2
     · rename_i q;exact .inr ⟨by omega,q.2⟩
     · exact h2.elim
theorem ft_hit {L:List (Nat × Nat)} (hwf:Wfc L) {a e e' k:Nat} {f:Fz} (h:ShD L a e' k f) (h1:a<e') (h2:e'≤e) (h3:e≤L.length):ftV L a e k=(f,true):=by
 have hk:=shd_k h
 unfold ftV
 rw [if_pos ⟨⟨by omega,h3⟩,by omega,by omega⟩]
 exact shd_A hwf h h1 h2 h3
theorem ft_miss {L:List (Nat × Nat)} (hwf:Wfc L) {a e k:Nat} (hk:k≠2∧k≠3∧k≠4) (h:∀ e',a<e'→e'≤e→e'≤a+30→∀ g,¬ ShD L a e' k g):ftV L a e k=(fz0,false):=by
 unfold ftV
 split
 · rename_i q
   have hB:=fun f=>shd_B hwf (f:=f) q.1.1 q.1.2 (k:=k) (by omega)
   unfold fkV fitV at hB ⊢
   by_cases h0:(shK k ((L.drop a).take (e-a))).len=0
   · rw [if_pos h0]
   · exfalso
     obtain ⟨e',h1,h2,h3,h4⟩:=hB _ (if_neg h0)
     exact h e' h1 h2 h3 _ h4
 · rfl
def FtP (L:List (Nat × Nat)) (a e k:Nat) (en:Ending):Prop:=en=.returned (.tuple #[.agg (fzA (ftV L a e k).1),.bool (ftV L a e k).2])
theorem ftp_of {L:List (Nat × Nat)} {a e k:Nat} {f:Fz} {ok:Bool} (h:ftV L a e k=(f,ok)):FtP L a e k (.returned (.tuple #[.agg (fzA f),.bool ok])):=by unfold FtP;rw [h]
structure FtS (w wr:World):Prop where
 bw:Below w.heap.size w wr
 ob:wr.heap[w.heap.size]?=some (.cells (fzA fz0) 28)
theorem FtS.next {w wr w':World} (h:FtS w wr) (hb:Below wr.heap.size wr w'):FtS w w':=⟨h.bw.trans (hb.mono h.bw.size),(hb.block _ (Array.getElem?_eq_some_iff.1 h.ob).1).trans h.ob⟩
theorem FtS.new (w:World):FtS w (w.alloc (.cells (fzA fz0) 28)):=⟨bel1 w _,heap_alloc_new w _⟩
theorem FtS.put {w wr:World} (h:FtS w wr) (f:Fz):Below w.heap.size w (wr.setRow w.heap.size (fzA f)):=h.bw.trans ((KpSetRow (S:=fun i=>i=w.heap.size) _ _ _ rfl).below h.bw.size (fun i e=>by omega))
theorem dfitsN_any (ao:Option Addr) (cap a e k:Nat) (L:List (Nat × Nat)) (w:World) (hL:L.length≤140737488355328) (ha32:a<4294967296) (he32:e<4294967296) (hl:¬ (a<e∧e≤L.length)) :
   Calls Tryz.prog 8 #[.slice ao L.length cap,.int .u32 (a:Int),.int .u32 (e:Int),.int .u8 (k:Int)] w fun en w'=>FtP L a e k en∧Below w.heap.size w w':=by
 have HL:=dhid (fun W=>dlies_any ao cap L.length a e W (by omega) ha32 he32)
 rw [show liB L.length a e=false from decide_eq_false hl] at HL
 have HY:=dhid (ftp_of (L:=L) (a:=a) (e:=e) (k:=k) (if_neg (fun q=>hl q.1)))
 generalize FtP L a e k=PP at HY ⊢
 have HN:=dhid (FtS.new w)
 clear hL ha32 he32 hl
 go_enter Tryz.func8,Tryz.ntmps8
 go_wp2_with (first
   |(go_at_call 20;refine (HL.out _).mono ?_;rintro en w1 ⟨rfl,hw1⟩;subst hw1)
   |(refine wpList_storeF rfl _ _ rfl w.heap.size fz0 fz0 rfl rfl HN.out.ob ?_))
 exact bodyPost_ret (resFzB (p:=8) (u:=9) (by kernel_rfl) _ _ w.heap.size _ rfl (setRow_heap _ _ _ _ _ _ HN.out.ob) _ rfl rfl) rfl ⟨HY.out,HN.out.put _⟩
theorem dfits2_any (ao:Option Addr) (cap a e:Nat) (L:List (Nat × Nat)) (w:World) (hL:L.length≤140737488355328) (ha32:a<4294967296) (he32:e<4294967296) (hwf:Wfc L) (hr:CRd w ao L w.heap.size) (hl:a<e∧e≤L.length) :
   Calls Tryz.prog 8 #[.slice ao L.length cap,.int .u32 (a:Int),.int .u32 (e:Int),.int .u8 2] w fun en w'=>FtP L a e 2 en∧Below w.heap.size w w':=by
 have HL:=dhid (fun W=>dlies_any ao cap L.length a e W (by omega) ha32 he32)
 rw [show liB L.length a e=true from decide_eq_true hl] at HL
 have HF:=dhid (fun W (hW:Below w.heap.size w W)=>dfold_any ao cap a e 2 L W hL ha32 he32 hwf ((hr.below hW).mono hW.size))
 have HY:Hid (∀ x,FdP a 2 (lnE L a e) (lnP L a e) x→∃ f0 f1 f2 f3 f4 f5 ok,x=.returned (.tuple #[.agg (fzA ⟨f0,f1,f2,f3,f4,f5⟩),.bool ok])∧(ok=true→FtP L a e 2 (.returned (.tuple #[.agg (fzA ⟨f0,f1,f2,f3,f4,f5⟩),.bool true])))∧(ok=false→FtP L a e 2 (.returned (.tuple #[.agg (fzA fz0),.bool false])))):=dhid (by
   rintro x ⟨⟨f0,f1,f2,f3,f4,f5⟩,ok,rfl,hok,hf⟩
   refine ⟨f0,f1,f2,f3,f4,f5,ok,rfl,fun h=>ftp_of ?_,fun h=>ftp_of ?_⟩
   · rw [hf h]
     unfold ftV
     rw [if_pos ⟨hl,by decide,by decide⟩,fold_eq hwf hl (k:=2) (by omega),←hok,if_pos h]
   · unfold ftV
     rw [if_pos ⟨hl,by decide,by decide⟩,fold_eq hwf hl (k:=2) (by omega),←hok,if_neg (by rw [h];decide)])
 generalize FdP a 2 (lnE L a e) (lnP L a e)=LL at HF HY
 generalize FtP L a e 2=PP at HY ⊢
 have HN:=dhid (FtS.new w)
 have q4:IntKind.i64.wrap (a:Int)=(a:Int):=by rw [IntKind.wrap_i64];omega
 have q5:wrap64 (a:Int)=(a:Int):=by unfold wrap64;omega
 have q6:IntKind.i64.wrap (e:Int)=(e:Int):=by rw [IntKind.wrap_i64];omega
 have q7:wrap64 (e:Int)=(e:Int):=by unfold wrap64;omega
 clear hwf hr hl hL ha32 he32
 go_enter Tryz.func8,Tryz.ntmps8
 go_wp2_with (go_at_call 20;refine (HL.out _).mono ?_;rintro en w1 ⟨rfl,hw1⟩;subst hw1)
 refine (HF.out _ HN.out.bw).mono ?_
 rintro en w3 ⟨hls,hb3⟩
 obtain ⟨f0,f1,f2,f3,f4,f5,ok,rfl,HT,HU⟩:=HY.out _ hls
 replace HT:=dhid HT
 replace HU:=dhid HU
 have S3:=dhid (HN.out.next hb3)
 have S4:=dhid (fun o=>S3.out.next (bel1 w3 o))
 clear hls hb3 HF HY HN HL S3
 simp only [fzA]
 cases ok with
 | true=>
   go_wp2_with (refine wpList_storeF rfl _ _ rfl w.heap.size fz0 ⟨f0,f1,f2,f3,f4,f5⟩ rfl rfl (S4.out _).ob ?_)
   exact bodyPost_ret (resFzB (p:=8) (u:=9) (by kernel_rfl) _ _ w.heap.size _ rfl (setRow_heap _ _ _ _ _ _ (S4.out _).ob) _ rfl rfl) rfl ⟨(by first|exact HT.out rfl|exact HT.out trivial|exact HT.out),(S4.out _).put _⟩
 | false=>
   go_wp2_with (refine wpList_storeF rfl _ _ rfl w.heap.size fz0 fz0 rfl rfl (S4.out _).ob ?_)
   exact bodyPost_ret (resFzB (p:=8) (u:=9) (by kernel_rfl) _ _ w.heap.size _ rfl (setRow_heap _ _ _ _ _ _ (S4.out _).ob) _ rfl rfl) rfl ⟨(by first|exact HU.out rfl|exact HU.out trivial|exact HU.out),(S4.out _).put _⟩
theorem dfits3_any (ao:Option Addr) (cap a e:Nat) (L:List (Nat × Nat)) (w:World) (hL:L.length≤140737488355328) (ha32:a<4294967296) (he32:e<4294967296) (hwf:Wfc L) (hr:CRd w ao L w.heap.size) (hl:a<e∧e≤L.length) :
   Calls Tryz.prog 8 #[.slice ao L.length cap,.int .u32 (a:Int),.int .u32 (e:Int),.int .u8 3] w fun en w'=>FtP L a e 3 en∧Below w.heap.size w w':=by
 have HL:=dhid (fun W=>dlies_any ao cap L.length a e W (by omega) ha32 he32)
 rw [show liB L.length a e=true from decide_eq_true hl] at HL
 have HF:=dhid (fun W (hW:Below w.heap.size w W)=>dfold_any ao cap a e 3 L W hL ha32 he32 hwf ((hr.below hW).mono hW.size))
 have HY:Hid (∀ x,FdP a 3 (lnE L a e) (lnP L a e) x→∃ f0 f1 f2 f3 f4 f5 ok,x=.returned (.tuple #[.agg (fzA ⟨f0,f1,f2,f3,f4,f5⟩),.bool ok])∧(ok=true→FtP L a e 3 (.returned (.tuple #[.agg (fzA ⟨f0,f1,f2,f3,f4,f5⟩),.bool true])))∧(ok=false→FtP L a e 3 (.returned (.tuple #[.agg (fzA fz0),.bool false])))):=dhid (by
   rintro x ⟨⟨f0,f1,f2,f3,f4,f5⟩,ok,rfl,hok,hf⟩
   refine ⟨f0,f1,f2,f3,f4,f5,ok,rfl,fun h=>ftp_of ?_,fun h=>ftp_of ?_⟩
   · rw [hf h]
     unfold ftV
     rw [if_pos ⟨hl,by decide,by decide⟩,fold_eq hwf hl (k:=3) (by omega),←hok,if_pos h]
   · unfold ftV
     rw [if_pos ⟨hl,by decide,by decide⟩,fold_eq hwf hl (k:=3) (by omega),←hok,if_neg (by rw [h];decide)])
 generalize FdP a 3 (lnE L a e) (lnP L a e)=LL at HF HY
 generalize FtP L a e 3=PP at HY ⊢
 have HN:=dhid (FtS.new w)
 have q4:IntKind.i64.wrap (a:Int)=(a:Int):=by rw [IntKind.wrap_i64];omega
 have q5:wrap64 (a:Int)=(a:Int):=by unfold wrap64;omega
 have q6:IntKind.i64.wrap (e:Int)=(e:Int):=by rw [IntKind.wrap_i64];omega
 have q7:wrap64 (e:Int)=(e:Int):=by unfold wrap64;omega
 clear hwf hr hl hL ha32 he32
 go_enter Tryz.func8,Tryz.ntmps8
 go_wp2_with (go_at_call 20;refine (HL.out _).mono ?_;rintro en w1 ⟨rfl,hw1⟩;subst hw1)
 refine (HF.out _ HN.out.bw).mono ?_
 rintro en w3 ⟨hls,hb3⟩
 obtain ⟨f0,f1,f2,f3,f4,f5,ok,rfl,HT,HU⟩:=HY.out _ hls
 replace HT:=dhid HT
 replace HU:=dhid HU
 have S3:=dhid (HN.out.next hb3)
 have S4:=dhid (fun o=>S3.out.next (bel1 w3 o))
 clear hls hb3 HF HY HN HL S3
 simp only [fzA]
 cases ok with
 | true=>
   go_wp2_with (refine wpList_storeF rfl _ _ rfl w.heap.size fz0 ⟨f0,f1,f2,f3,f4,f5⟩ rfl rfl (S4.out _).ob ?_)
   exact bodyPost_ret (resFzB (p:=8) (u:=9) (by kernel_rfl) _ _ w.heap.size _ rfl (setRow_heap _ _ _ _ _ _ (S4.out _).ob) _ rfl rfl) rfl ⟨(by first|exact HT.out rfl|exact HT.out trivial|exact HT.out),(S4.out _).put _⟩
 | false=>
   go_wp2_with (refine wpList_storeF rfl _ _ rfl w.heap.size fz0 fz0 rfl rfl (S4.out _).ob ?_)
   exact bodyPost_ret (resFzB (p:=8) (u:=9) (by kernel_rfl) _ _ w.heap.size _ rfl (setRow_heap _ _ _ _ _ _ (S4.out _).ob) _ rfl rfl) rfl ⟨(by first|exact HU.out rfl|exact HU.out trivial|exact HU.out),(S4.out _).put _⟩
theorem dfits4_any (ao:Option Addr) (cap a e:Nat) (L:List (Nat × Nat)) (w:World) (hL:L.length≤140737488355328) (ha32:a<4294967296) (he32:e<4294967296) (hwf:Wfc L) (hr:CRd w ao L w.heap.size) (hl:a<e∧e≤L.length) :
   Calls Tryz.prog 8 #[.slice ao L.length cap,.int .u32 (a:Int),.int .u32 (e:Int),.int .u8 4] w fun en w'=>FtP L a e 4 en∧Below w.heap.size w w':=by
 have HL:=dhid (fun W=>dlies_any ao cap L.length a e W (by omega) ha32 he32)
 rw [show liB L.length a e=true from decide_eq_true hl] at HL
 have HF:=dhid (fun W (hW:Below w.heap.size w W)=>dfold_any ao cap a e 4 L W hL ha32 he32 hwf ((hr.below hW).mono hW.size))
 have HY:Hid (∀ x,FdP a 4 (lnE L a e) (lnP L a e) x→∃ f0 f1 f2 f3 f4 f5 ok,x=.returned (.tuple #[.agg (fzA ⟨f0,f1,f2,f3,f4,f5⟩),.bool ok])∧(ok=true→FtP L a e 4 (.returned (.tuple #[.agg (fzA ⟨f0,f1,f2,f3,f4,f5⟩),.bool true])))∧(ok=false→FtP L a e 4 (.returned (.tuple #[.agg (fzA fz0),.bool false])))):=dhid (by
   rintro x ⟨⟨f0,f1,f2,f3,f4,f5⟩,ok,rfl,hok,hf⟩
   refine ⟨f0,f1,f2,f3,f4,f5,ok,rfl,fun h=>ftp_of ?_,fun h=>ftp_of ?_⟩
   · rw [hf h]
     unfold ftV
     rw [if_pos ⟨hl,by decide,by decide⟩,fold_eq hwf hl (k:=4) (by omega),←hok,if_pos h]
   · unfold ftV
     rw [if_pos ⟨hl,by decide,by decide⟩,fold_eq hwf hl (k:=4) (by omega),←hok,if_neg (by rw [h];decide)])
 generalize FdP a 4 (lnE L a e) (lnP L a e)=LL at HF HY
 generalize FtP L a e 4=PP at HY ⊢
 have HN:=dhid (FtS.new w)
 have q4:IntKind.i64.wrap (a:Int)=(a:Int):=by rw [IntKind.wrap_i64];omega
 have q5:wrap64 (a:Int)=(a:Int):=by unfold wrap64;omega
 have q6:IntKind.i64.wrap (e:Int)=(e:Int):=by rw [IntKind.wrap_i64];omega
 have q7:wrap64 (e:Int)=(e:Int):=by unfold wrap64;omega
 clear hwf hr hl hL ha32 he32
 go_enter Tryz.func8,Tryz.ntmps8
 go_wp2_with (go_at_call 20;refine (HL.out _).mono ?_;rintro en w1 ⟨rfl,hw1⟩;subst hw1)
 refine (HF.out _ HN.out.bw).mono ?_
 rintro en w3 ⟨hls,hb3⟩
 obtain ⟨f0,f1,f2,f3,f4,f5,ok,rfl,HT,HU⟩:=HY.out _ hls
 replace HT:=dhid HT
 replace HU:=dhid HU
 have S3:=dhid (HN.out.next hb3)
 have S4:=dhid (fun o=>S3.out.next (bel1 w3 o))
 clear hls hb3 HF HY HN HL S3
 simp only [fzA]
 cases ok with
 | true=>
   go_wp2_with (refine wpList_storeF rfl _ _ rfl w.heap.size fz0 ⟨f0,f1,f2,f3,f4,f5⟩ rfl rfl (S4.out _).ob ?_)
   exact bodyPost_ret (resFzB (p:=8) (u:=9) (by kernel_rfl) _ _ w.heap.size _ rfl (setRow_heap _ _ _ _ _ _ (S4.out _).ob) _ rfl rfl) rfl ⟨(by first|exact HT.out rfl|exact HT.out trivial|exact HT.out),(S4.out _).put _⟩
 | false=>
   go_wp2_with (refine wpList_storeF rfl _ _ rfl w.heap.size fz0 fz0 rfl rfl (S4.out _).ob ?_)
   exact bodyPost_ret (resFzB (p:=8) (u:=9) (by kernel_rfl) _ _ w.heap.size _ rfl (setRow_heap _ _ _ _ _ _ (S4.out _).ob) _ rfl rfl) rfl ⟨(by first|exact HU.out rfl|exact HU.out trivial|exact HU.out),(S4.out _).put _⟩
theorem dfitsS_any (ao:Option Addr) (cap a e k:Nat) (L:List (Nat × Nat)) (w:World) (hL:L.length≤140737488355328) (ha32:a<4294967296) (he32:e<4294967296) (hwf:Wfc L) (hr:CRd w ao L w.heap.size) (hl:a<e∧e≤L.length) (hk:k≠2∧k≠3∧k≠4) :
   Calls Tryz.prog 8 #[.slice ao L.length cap,.int .u32 (a:Int),.int .u32 (e:Int),.int .u8 (k:Int)] w fun en w'=>FtP L a e k en∧Below w.heap.size w w':=by
 have HL:=dhid (fun W=>dlies_any ao cap L.length a e W (by omega) ha32 he32)
 rw [show liB L.length a e=true from decide_eq_true hl] at HL
 have HS:=dhid (fun j (h0:0<j) (hj:a+j≤e) W (hW:Below w.heap.size w W)=>dshape_any ao cap a (a+j) k L W hL (by omega) (by omega) (by omega) hwf ((hr.below hW).mono hW.size))
 have HH:=dhid (fun e' (f:Fz) (h:ShD L a e' k f) (h1:a<e') (h2:e'≤e)=>ftp_of (ft_hit hwf h h1 h2 hl.2))
 have HM:=dhid (fun (h:∀ e',a<e'→e'≤e→e'≤a+30→∀ g,¬ ShD L a e' k g)=>ftp_of (ft_miss hwf hk h))
 have g2:((k:Int) == 2)=false:=by rw [beq_eq_false_iff_ne];omega
 have g3:((k:Int) == 3)=false:=by rw [beq_eq_false_iff_ne];omega
 have g4:((k:Int) == 4)=false:=by rw [beq_eq_false_iff_ne];omega
 have g2':¬ (k:Int)=2:=by omega
 have g3':¬ (k:Int)=3:=by omega
 have g4':¬ (k:Int)=4:=by omega
 generalize FtP L a e k=PP at HH HM ⊢
 have HN:=dhid (FtS.new w)
 have hsub:(e:Int)-(a:Int)=((e-a:Nat):Int):=by omega
 have q0:((e-a:Nat):Int) % 4294967296=((e-a:Nat):Int):=by omega
 have q1:IntKind.u32.wrap ((e-a:Nat):Int)=((e-a:Nat):Int):=by rw [IntKind.wrap_u32];omega
 have q2:IntKind.i64.wrap ((e-a:Nat):Int)=((e-a:Nat):Int):=by rw [IntKind.wrap_i64];omega
 have q3:wrap64 ((e-a:Nat):Int)=((e-a:Nat):Int):=by unfold wrap64;omega
 have q4:IntKind.i64.wrap (a:Int)=(a:Int):=by rw [IntKind.wrap_i64];omega
 have q5:wrap64 (a:Int)=(a:Int):=by unfold wrap64;omega
 have hea:a+(e-a)=e:=by omega
 have hle:Hid (e<4294967296):=dhid he32
 have hn0:Hid (0<e-a):=dhid (Nat.sub_pos_of_lt hl.1)
 generalize hn:e-a=n at *
 clear hl hk hwf hr hL ha32 he32 hn
 by_cases h30:30<n
 · have g30:(30:Int)<(n:Int):=by omega
   go_enter Tryz.func8,Tryz.ntmps8
   go_wp2_with (go_at_call 20;refine (HL.out _).mono ?_;rintro en w1 ⟨rfl,hw1⟩;subst hw1)
   clear q0 q1 q2 q3 hsub
   go_loopw [12] (fun u wr=>∃ j:Nat,u=.int .i64 (j:Int)∧j≤30∧Hid (∀ e',a+j<e'→e'≤a+30→∀ g,¬ ShD L a e' k g)∧Hid (FtS w wr)) (fun u _=>(intOf u).toNat)
   case atStart=>exact ⟨30,rfl,Nat.le_refl _,dhid (fun e' h1 h2=>absurd h1 (by omega)),HN⟩
   case round=>
     obtain ⟨j,rfl,hj,HX,HB⟩:=hrel
     by_cases h0:0<j
     · have h0I:(0:Int)<(j:Int):=by omega
       have hjn:j≤n:=by omega
       have HSj:=dhid (HS.out j h0 (Nat.le_trans (Nat.add_le_add_left hjn a) (Nat.le_of_eq hea)) wr HB.out.bw)
       obtain ⟨p,hp⟩:∃ p,Hid (p=a+j):=⟨_,dhid rfl⟩
       have hpe:p≤e:=by rw [hp.out];exact Nat.le_trans (Nat.add_le_add_left hjn a) (Nat.le_of_eq hea)
       rw [←hp.out] at HSj
       have p1:(a:Int)+(j:Int)=(p:Int):=by have:=hp.out;omega
       have p2:IntKind.i64.wrap (p:Int)=(p:Int):=by have:=hle.out;rw [IntKind.wrap_i64];omega
       have p3:wrap64 (p:Int)=(p:Int):=by have:=hle.out;unfold wrap64;omega
       have p4:(j:Int)-1=((j-1:Nat):Int):=by omega
       have p5:IntKind.i64.wrap ((j-1:Nat):Int)=((j-1:Nat):Int):=by have:=hle.out;rw [IntKind.wrap_i64];omega
       have p6:wrap64 ((j-1:Nat):Int)=((j-1:Nat):Int):=by have:=hle.out;unfold wrap64;omega
       go_wp2_with fail
       refine HSj.out.mono ?_
       rintro en w3 ⟨⟨⟨f0,f1,f2,f3,f4,f5⟩,ok,rfl,hok⟩,hb3⟩
       have S3:=dhid (HB.out.next hb3)
       have S4:=dhid (fun o=>S3.out.next (bel1 w3 o))
       simp only [fzA]
       cases ok with
       | true=>
         have HZ:=dhid (HH.out p ⟨f0,f1,f2,f3,f4,f5⟩ (by simpa using hok) (by rw [hp.out];exact Nat.lt_add_of_pos_right h0) hpe)
         clear hok hb3 HS HH HM HX HB S3
         go_wp2_with (refine wpList_storeF rfl _ _ rfl w.heap.size fz0 ⟨f0,f1,f2,f3,f4,f5⟩ rfl rfl (S4.out _).ob ?_)
         exact bodyPost_ret (resFzB (p:=8) (u:=9) (by kernel_rfl) _ _ w.heap.size _ rfl (setRow_heap _ _ _ _ _ _ (S4.out _).ob) _ rfl rfl) rfl ⟨HZ.out,(S4.out _).put _⟩
       | false=>
         have HX2:Hid (∀ e',a+(j-1)<e'→e'≤a+30→∀ g,¬ ShD L a e' k g):=dhid (fun e' h1 h2=>by
           have hp':=hp.out
           by_cases h:e'=p
           · rw [h];simpa using hok
           · exact HX.out e' (by omega) h2)
         clear hok hb3 HX HB S3
         go_wp2_with fail
         go_roundw
         case rel=>exact ⟨j-1,by first|rfl|go_num,Nat.le_trans (Nat.sub_le j 1) hj,HX2,S4.out _⟩
         case measure=>clear p1 p2 p3 p4 p5 p6 q4 q5 hea;simp [intOf];omega
     · have h0I:¬ (0:Int)<(j:Int):=by omega
       have HZ:=dhid (HM.out (fun e' h1 h2 h3=>HX.out e' (by omega) (by omega)))
       go_wp2_with (refine wpList_storeF rfl _ _ rfl w.heap.size fz0 fz0 rfl rfl HB.out.ob ?_)
       exact bodyPost_ret (resFzB (p:=8) (u:=9) (by kernel_rfl) _ _ w.heap.size _ rfl (setRow_heap _ _ _ _ _ _ HB.out.ob) _ rfl rfl) rfl ⟨HZ.out,HB.out.put _⟩
 · have g30:¬ (30:Int)<(n:Int):=by omega
   go_enter Tryz.func8,Tryz.ntmps8
   go_wp2_with (go_at_call 20;refine (HL.out _).mono ?_;rintro en w1 ⟨rfl,hw1⟩;subst hw1)
   clear q0 q1 q2 q3 hsub
   go_loopw [12] (fun u wr=>∃ j:Nat,u=.int .i64 (j:Int)∧j≤n∧Hid (∀ e',a+j<e'→e'≤a+n→∀ g,¬ ShD L a e' k g)∧Hid (FtS w wr)) (fun u _=>(intOf u).toNat)
   case atStart=>exact ⟨n,rfl,Nat.le_refl _,dhid (fun e' h1 h2=>absurd h1 (by omega)),HN⟩
   case round=>
     obtain ⟨j,rfl,hj,HX,HB⟩:=hrel
     by_cases h0:0<j
     · have h0I:(0:Int)<(j:Int):=by omega
       have hjn:j≤n:=by omega
       have HSj:=dhid (HS.out j h0 (Nat.le_trans (Nat.add_le_add_left hjn a) (Nat.le_of_eq hea)) wr HB.out.bw)
       obtain ⟨p,hp⟩:∃ p,Hid (p=a+j):=⟨_,dhid rfl⟩
       have hpe:p≤e:=by rw [hp.out];exact Nat.le_trans (Nat.add_le_add_left hjn a) (Nat.le_of_eq hea)
       rw [←hp.out] at HSj
       have p1:(a:Int)+(j:Int)=(p:Int):=by have:=hp.out;omega
       have p2:IntKind.i64.wrap (p:Int)=(p:Int):=by have:=hle.out;rw [IntKind.wrap_i64];omega
       have p3:wrap64 (p:Int)=(p:Int):=by have:=hle.out;unfold wrap64;omega
       have p4:(j:Int)-1=((j-1:Nat):Int):=by omega
       have p5:IntKind.i64.wrap ((j-1:Nat):Int)=((j-1:Nat):Int):=by have:=hle.out;rw [IntKind.wrap_i64];omega
       have p6:wrap64 ((j-1:Nat):Int)=((j-1:Nat):Int):=by have:=hle.out;unfold wrap64;omega
       go_wp2_with fail
       refine HSj.out.mono ?_
       rintro en w3 ⟨⟨⟨f0,f1,f2,f3,f4,f5⟩,ok,rfl,hok⟩,hb3⟩
       have S3:=dhid (HB.out.next hb3)
       have S4:=dhid (fun o=>S3.out.next (bel1 w3 o))
       simp only [fzA]
       cases ok with
       | true=>
         have HZ:=dhid (HH.out p ⟨f0,f1,f2,f3,f4,f5⟩ (by simpa using hok) (by rw [hp.out];exact Nat.lt_add_of_pos_right h0) hpe)
         clear hok hb3 HS HH HM HX HB S3
         go_wp2_with (refine wpList_storeF rfl _ _ rfl w.heap.size fz0 ⟨f0,f1,f2,f3,f4,f5⟩ rfl rfl (S4.out _).ob ?_)
         exact bodyPost_ret (resFzB (p:=8) (u:=9) (by kernel_rfl) _ _ w.heap.size _ rfl (setRow_heap _ _ _ _ _ _ (S4.out _).ob) _ rfl rfl) rfl ⟨HZ.out,(S4.out _).put _⟩
       | false=>
         have HX2:Hid (∀ e',a+(j-1)<e'→e'≤a+n→∀ g,¬ ShD L a e' k g):=dhid (fun e' h1 h2=>by
           have hp':=hp.out
           by_cases h:e'=p
           · rw [h];simpa using hok
           · exact HX.out e' (by omega) h2)
         clear hok hb3 HX HB S3
         go_wp2_with fail
         go_roundw
         case rel=>exact ⟨j-1,by first|rfl|go_num,Nat.le_trans (Nat.sub_le j 1) hj,HX2,S4.out _⟩
         case measure=>clear p1 p2 p3 p4 p5 p6 q4 q5 hea;simp [intOf];omega
     · have h0I:¬ (0:Int)<(j:Int):=by omega
       have HZ:=dhid (HM.out (fun e' h1 h2 h3=>HX.out e' (by omega) (by omega)))
       go_wp2_with (refine wpList_storeF rfl _ _ rfl w.heap.size fz0 fz0 rfl rfl HB.out.ob ?_)
       exact bodyPost_ret (resFzB (p:=8) (u:=9) (by kernel_rfl) _ _ w.heap.size _ rfl (setRow_heap _ _ _ _ _ _ HB.out.ob) _ rfl rfl) rfl ⟨HZ.out,HB.out.put _⟩
theorem dfits_any (ao:Option Addr) (cap a e k:Nat) (L:List (Nat × Nat)) (w:World) (hL:L.length≤140737488355328) (ha32:a<4294967296) (he32:e<4294967296) (hwf:Wfc L) (hr:CRd w ao L w.heap.size) :
   Calls Tryz.prog 8 #[.slice ao L.length cap,.int .u32 (a:Int),.int .u32 (e:Int),.int .u8 (k:Int)] w fun en w'=>en=.returned (.tuple #[.agg (fzA (ftV L a e k).1),.bool (ftV L a e k).2])∧Below w.heap.size w w':=by
 show Calls _ _ _ _ fun en w'=>FtP L a e k en∧Below w.heap.size w w'
 by_cases hl:a<e∧e≤L.length
 · by_cases h2:k=2
   · subst h2;exact dfits2_any ao cap a e L w hL ha32 he32 hwf hr hl
   by_cases h3:k=3
   · subst h3;exact dfits3_any ao cap a e L w hL ha32 he32 hwf hr hl
   by_cases h4:k=4
   · subst h4;exact dfits4_any ao cap a e L w hL ha32 he32 hwf hr hl
   exact dfitsS_any ao cap a e k L w hL ha32 he32 hwf hr hl ⟨h2,h3,h4⟩
 · exact dfitsN_any ao cap a e k L w hL ha32 he32 hl
theorem infoDI:∃ i:TypeInfo,Tryz.prog.info? 37=some i∧i.zero=some (.agg #[.int .u8 0,.int .u32 0])∧i.size=2∧i.bytes=8:=by
 have h:(Tryz.prog.info? 37).map (fun i=>(i.zero,i.size,i.bytes))=some (some (.agg #[.int .u8 0,.int .u32 0]),2,8):=by kernel_rfl
 cases hi:Tryz.prog.info? 37 with
 |none=>rw [hi] at h;simp at h
 | some i=>
   rw [hi] at h
   simp only [Option.map_some,Option.some.injEq,Prod.mk.injEq] at h
   exact ⟨i,rfl,h.1,h.2.1,h.2.2⟩
theorem cvD_one (L:List (Nat × Nat)):∀ u∈cv L,u.oneCell'=true:=by
 intro u hu
 simp [cv] at hu
 obtain ⟨a,b,_,h|h⟩:=hu <;> subst h <;> rfl
theorem own_crdD {w:World} {B:Nat} {v:Value} {L:List (Nat × Nat)} (h:w.ownsRow B 37 2 v L.length (cv L)):∃ ao cap,v=.slice ao L.length cap∧L.length≤cap∧CRd w ao L w.heap.size:=by
 rcases h.2 with ⟨rfl,h0⟩|⟨g,cap,cur,rfl,hh⟩
 · exact ⟨none,0,by rw [h0],by omega,fun hp=>absurd hp (by omega)⟩
 · refine ⟨some ⟨g,0,none⟩,cap,rfl,?_,fun _=>⟨g,0,rfl,(h.lt g rfl).2,fun j hj=>?_⟩⟩
   · exact hh.2.2.1
   · obtain ⟨c0,c1⟩:=cvD_get L j hj
     have a0:=h.cells (g:=g) rfl _ _ c0
     have a1:=h.cells (g:=g) rfl _ _ c1
     rw [Go.WideShapes.add_plain] at a0 a1
     exact ⟨a0,by rw [Nat.add_assoc];exact a1⟩


theorem Tryz.infoC:(Tryz.prog.info? 37).map (fun i=>(i.zero,i.size,i.bytes))=some (some (.agg #[.int .u8 0,.int .u32 0]),2,8):=by kernel_rfl

theorem below_drew0 {w:World} (n:Nat):Below w.heap.size w (w.drewN n):=below_drewN (Below.refl _ _) n
def mk0 (i:Nat):Nat × Nat:=(200,1000003+i)
def mksC (m:Nat):List (Nat × Nat):=(List.range m).map mk0
theorem mksC_succ (m:Nat):mksC (m+1)=mksC m ++ [mk0 m]:=by unfold mksC;rw [List.range_succ,List.map_append];rfl
theorem mksC_len (m:Nat):(mksC m).length=m:=by simp [mksC]
theorem infoI2:(Tryz.prog.info? 37).map (·.size)=some 2:=by kernel_rfl
theorem undI2:∃ fs,Tryz.prog.underlying 37=some (.struct fs):=by
 have h:(match Tryz.prog.underlying 37 with|some (.struct _)=>true|_=>false)=true:=by kernel_rfl
 split at h
 · exact ⟨_,by assumption⟩
 · cases h
theorem markc_any (i:Nat) (w:World) (hi:i≤64) :
   Calls Tryz.prog 16 #[.int .i64 0,.int .i64 i] w fun e w'=>e=.returned (.agg #[.int .u8 200,.int .u32 (1000003+(i:Int))])∧w'=w.alloc (.cells #[.int .u8 200,.int .u32 (1000003+(i:Int))] 37):=by
 have hiI:(i:Int)≤64:=by omega
 clear hi
 go_enter Tryz.func16,Tryz.ntmps16
 go_wp2
 obtain ⟨fs,hu⟩:=undI2
 exact bodyPost_ret (results_cell_row (p:=4) (ty:=37) (by kernel_rfl) _ _ w.heap.size 37 #[.int .u8 200,.int .u32 (1000003+(i:Int))] (0,0) _ rfl (heap_alloc_last w _) hu rfl (by rw [infoI2];rfl)) rfl ⟨rfl,rfl⟩
theorem lentc_any (ao:Option Addr) (cap:Nat) (L:List (Nat × Nat)) (w:World) (hn:L.length≤17592186044352) (hr:CRd w ao L w.heap.size) :
   Calls Tryz.prog 6 #[.slice ao L.length cap] w fun e w'=>∃ v,e=.returned v∧w'.ownsRow w.heap.size 37 2 v (L.length+64) (cv (L ++ mksC 64))∧Below w.heap.size w w':=by
 obtain ⟨i0,hi,hz0,hz1,hz2⟩:=info_parts Tryz.infoC
 go_enter Tryz.func6,Tryz.ntmps6
 go_wp2
 go_loopw [3,4] (fun v i wr=>∃ k:Nat,k≤L.length∧i=.int .i64 k∧wr.ownsRow w.heap.size 37 2 v k (cv (L.take k))∧Below w.heap.size w wr)
   (fun _ i _=>L.length-(intOf i).toNat)
 case atStart=>exact ⟨0,Nat.zero_le _,rfl,World.ownsRow_nil _ _ _ _,Below.refl _ _⟩
 case round=>
   obtain ⟨k,hk,rfl,hown,hb⟩:=hrel
   by_cases hlt:k<L.length
   · obtain ⟨b,off,rfl,hbl,hc⟩:=(hr.below hb) (by omega)
     obtain ⟨x0,x1⟩:=hc k hlt
     have hB:=hb.size
     clear hc
     have HS:=hid_of (ptake (0,0) L k hlt)
     generalize L.getD k (0,0)=c at x0 x1 HS
     have hltI:(k:Int)<(L.length:Int):=by omega
     go_wp2_with (at_builtin;refine wpList_append_own _ rfl _ _ 22 rfl w.heap.size 37 i0 (.agg #[.int .u8 0,.int .u32 0]) 2 8 Tryz.underlying22 hi hz0 hz1 hz2 rfl (by decide) _ _ _ rfl (hown.alloc _) ⟨wr.heap.size,0,none⟩ 1 1 [.int .u8 c.1,.int .u32 c.2] rfl rfl ?c1 ?c2 ?c3 ?c4 ?c5 ?_)
     case c1=>
       intro j u hj
       match j,hj with
       |0,hj=>simp at hj;subst hj;simp [Addr.add]
       |1,hj=>simp at hj;subst hj;simp [Addr.add]
     case c2=>intro u hu;simp at hu;rcases hu with rfl|rfl <;> rfl
     case c3=>unfold maxLen;omega
     case c4=>omega
     case c5=>simp;omega
     intro v' w1 hown' hgrow _
     have R1:w1.ownsRow w.heap.size 37 2 v' (k+1) (cv (L.take (k+1))):=by rw [HS.out,cv_append];exact hown'
     have R2:=grown_below hb hB hown hgrow
     clear hown' hgrow hown x0 x1
     go_wp2
     go_roundw
     case rel=>exact ⟨k+1,by omega,by go_num,R1,R2⟩
     case measure=>simp [intOf];omega
   · go_wp2
     go_loopw [3,5] (fun v i wr=>∃ k:Nat,k≤64∧i=.int .i64 k∧wr.ownsRow w.heap.size 37 2 v (L.length+k) (cv (L ++ mksC k))∧Below w.heap.size w wr)
       (fun _ i _=>64-(intOf i).toNat)
     case atStart=>exact ⟨0,by omega,rfl,by simpa [mksC,show k=L.length by omega] using hown,hb⟩
     case round=>
       clear hown hb
       obtain ⟨j,hj,rfl,hown,hb⟩:=hrel
       have hB:=hb.size
       by_cases hlt2:j<64
       · have hltI:(j:Int)<64:=by omega
         have hM:=markc_any j wr (by omega)
         go_wp2_with (first
           |(go_at_call 16;with_reducible refine hM.mono ?_;rintro e wq ⟨rfl,hq⟩;subst wq)
           |(at_builtin;refine wpList_append_own _ rfl _ _ 22 rfl w.heap.size 37 i0 (.agg #[.int .u8 0,.int .u32 0]) 2 8 Tryz.underlying22 hi hz0 hz1 hz2 rfl (by decide) _ _ _ rfl ((hown.alloc _).alloc _) ⟨_,0,none⟩ 1 1 [.int .u8 200,.int .u32 (1000003+(j:Int))] rfl rfl ?d1 ?d2 ?d3 ?d4 ?d5 ?_))
         case d1=>
           intro j u hj
           match j,hj with
           |0,hj=>simp at hj;subst hj;simp [Addr.add]
           |1,hj=>simp at hj;subst hj;simp [Addr.add]
         case d2=>intro u hu;simp at hu;rcases hu with rfl|rfl <;> rfl
         case d3=>unfold maxLen;omega
         case d4=>omega
         case d5=>simp;omega
         intro v' w1 hown' hgrow _
         have R1:w1.ownsRow w.heap.size 37 2 v' (L.length+(j+1)) (cv (L ++ mksC (j+1))):=by
           rw [mksC_succ,←List.append_assoc,cv_append];exact hown'
         have R2:Below w.heap.size w w1:=grown_below (bel hb) (bel hb).size (hown.alloc _) hgrow
         clear hown' hgrow hown hM
         go_wp2
         go_roundw
         case rel=>exact ⟨j+1,by omega,by go_num,R1,R2⟩
         case measure=>simp [intOf];omega
       · go_wp2
         go_ret
         obtain rfl:j=64:=by omega
         exact ⟨_,rfl,hown,hb⟩
theorem gC {w W:World} {b o:Nat} {v0 v1:Value} (hb:b<w.heap.size) (h0:w.cell? ⟨b,o,none⟩=some v0) (h1:w.cell? ⟨b,o+1,none⟩=some v1) (h:Below w.heap.size w W):W.cell? ⟨b,o,none⟩=some v0∧W.cell? ⟨b,o+1,none⟩=some v1:=
 ⟨(h.cell (p:=⟨b,o,none⟩) hb).trans h0,(h.cell (p:=⟨b,o+1,none⟩) hb).trans h1⟩
theorem getD_app_left {L M:List (Nat × Nat)} {k:Nat} (h:k<L.length):(L ++ M).getD k (0,0)=L.getD k (0,0):=by
 simp [List.getD,List.getElem?_append_left h]
theorem getD_app_right {L M:List (Nat × Nat)} {j:Nat}:(L ++ M).getD (L.length+j) (0,0)=M.getD j (0,0):=by
 simp only [List.getD]
 rw [List.getElem?_append_right (by omega),Nat.add_sub_cancel_left]
theorem mksC_get {j:Nat} (h:j<64):(mksC 64).getD j (0,0)=(200,1000003+j):=by
 simp [mksC,mk0,List.getD,h]
theorem keptc_any (ao:Option Addr) (cap:Nat) (L:List (Nat × Nat)) (g capF:Nat) (w:World) (hn:L.length≤17592186044352) (hr:CRd w ao L w.heap.size)
   (hcl:CRd w (some ⟨g,0,none⟩) (L ++ mksC 64) w.heap.size) :
   Calls Tryz.prog 9 #[.slice (some ⟨g,0,none⟩) (L.length+64) capF,.slice ao L.length cap] w fun e w'=>e=.returned (.bool true)∧Below w.heap.size w w':=by
 obtain ⟨b',off',e',hgl,hcc⟩:=hcl (by simp [mksC_len])
 simp only [Option.some.injEq,Addr.mk.injEq] at e'
 obtain ⟨rfl,rfl,_⟩:=e'
 have HC:=hid_of hcc
 clear hcc hcl
 go_enter Tryz.func9,Tryz.ntmps9
 go_wp2
 go_loopw [5] (fun i wr=>∃ k:Nat,k≤L.length∧i=.int .i64 k∧Below w.heap.size w wr)
   (fun i _=>L.length-(intOf i).toNat)
 case atStart=>exact ⟨0,Nat.zero_le _,rfl,Below.refl _ _⟩
 case round=>
   obtain ⟨k,hk,rfl,hb⟩:=hrel
   by_cases hlt:k<L.length
   · obtain ⟨b,off,rfl,hbl,hc⟩:=(hr.below hb) (by omega)
     obtain ⟨x0,x1⟩:=hc k hlt
     have hk0:=HC.out k (by simp [mksC_len];omega)
     rw [getD_app_left hlt,Nat.zero_add] at hk0
     obtain ⟨y0,y1⟩:=gC hgl hk0.1 hk0.2 hb
     clear hc hk0
     generalize L.getD k (0,0)=c at x0 x1 y0 y1
     have hlt':(k:Int)<(L.length:Int):=by omega
     have hlt2:(k:Int)<(L.length:Int)+64:=by omega
     go_wp2
     go_quiet (fail)
     go_wp2
     go_roundw
     case rel=>exact ⟨k+1,by omega,by go_num,bt hb (below_drew0 _)⟩
     case measure=>simp [intOf];omega
   · go_wp2
     go_loopw [6] (fun i wr=>∃ k:Nat,k≤64∧i=.int .i64 k∧Below w.heap.size w wr)
       (fun i _=>64-(intOf i).toNat)
     case atStart=>exact ⟨0,by omega,rfl,hb⟩
     case round=>
       clear hb
       obtain ⟨j,hj,rfl,hb⟩:=hrel
       by_cases hlt2:j<64
       · have hk0:=HC.out (L.length+j) (by simp [mksC_len];omega)
         rw [getD_app_right,mksC_get hlt2,Nat.zero_add] at hk0
         have hk1:w.cell? ⟨g,(L.length+j)*2,none⟩=some (.int .u8 200)∧w.cell? ⟨g,(L.length+j)*2+1,none⟩=some (.int .u32 (1000003+(j:Int))):=by
           refine ⟨hk0.1,?_⟩
           rw [hk0.2];simp
         obtain ⟨q,hq⟩:∃ q,q=L.length+j:=⟨_,rfl⟩
         rw [←hq] at hk1
         have hwr:IntKind.i64.wrap ((L.length:Int)+(j:Int))=(q:Int):=by rw [IntKind.wrap_i64];omega
         have hq0:(0:Int)≤(q:Int):=by omega
         have hq1:(q:Int)<(L.length:Int)+64:=by omega
         have hq2:q<L.length+64:=by omega
         have hbl2:g<wr.heap.size:=Nat.lt_of_lt_of_le hgl hb.size
         obtain ⟨y0,y1⟩:=gC hgl hk1.1 hk1.2 hb
         have hGC:=fun W h=>gC (W:=W) hbl2 y0 y1 h
         have hlt3:(L.length:Int)+(j:Int)<(L.length:Int)+64:=by omega
         have hltI:(j:Int)<64:=by omega
         have hM:=fun w=>markc_any j w (by omega)
         clear hk0 hk1 hq
         have HB:Below wr.heap.size wr wr:=Below.refl _ _
         go_wp2
         go_region_held3 (fun w'=>w'.cell? ⟨g,q*2,none⟩=some (.int .u8 200)∧w'.cell? ⟨g,q*2+1,none⟩=some (.int .u32 (1000003+(j:Int)))) ((refine hGC _ ?_;(repeat (first|exact HB|exact Below.refl _ _|with_reducible refine bel ?_|with_reducible refine Below.drew ?_)))) (first
           |(go_at_call 16;with_reducible refine (hM _).mono ?_;rintro e wq ⟨rfl,hq⟩;subst wq))
         clear hM hGC
         go_wp2
         go_roundw
         case rel=>exact ⟨j+1,by omega,by go_num,bt hb (by (repeat (first|exact HB|exact Below.refl _ _|with_reducible refine bel ?_|with_reducible refine Below.drew ?_)))⟩
         case measure=>simp [intOf];omega
       · go_wp2
         go_ret
         exact ⟨rfl,hb⟩
theorem takeP (L:List (Nat × Nat)) (k:Nat) (h:k<L.length):L.take (k+1)=L.take k ++ [L.getD k (0,0)]:=by
 rw [List.take_add_one,List.getD_eq_getElem?_getD,List.getElem?_eq_getElem h];rfl
theorem cv_set:∀ (M:List (Nat × Nat)) (j:Nat) (p:Nat × Nat),cv (M.set j p)=((cv M).set (j*2) (.int .u8 (p.1:Nat))).set (j*2+1) (.int .u32 (p.2:Nat))
 | [],j,p=>by simp [cv]
 |a :: M,0,p=>by simp [cv]
 | a :: M,j+1,p=>by
   rw [List.set_cons_succ,show cv (a :: M.set j p)=.int .u8 a.1 :: .int .u32 a.2 :: cv (M.set j p) from rfl,cv_set M j p,show cv (a :: M)=.int .u8 a.1 :: .int .u32 a.2 :: cv M from rfl,show (j+1)*2+1=(j*2+1)+2 by omega,show (j+1)*2=j*2+2 by omega]
   simp [List.set_cons_succ]
theorem crd_left {w:World} {ao:Option Addr} {A Z:List (Nat × Nat)} {B:Nat} (h:CRd w ao (A ++ Z) B):CRd w ao A B:=by
 intro hl
 obtain ⟨b,off,e,hlt,hc⟩:=h (by rw [List.length_append];omega)
 refine ⟨b,off,e,hlt,fun j hj=>?_⟩
 have:=hc j (by rw [List.length_append];omega)
 rw [List.getD_eq_getElem?_getD,List.getElem?_append_left hj,←List.getD_eq_getElem?_getD] at this
 exact this
theorem own_g {w:World} {B:Nat} {v:Value} {L:List (Nat × Nat)} (h:w.ownsRow B 37 2 v L.length (cv L)) (h0:0<L.length):∃ g c,v=.slice (some ⟨g,0,none⟩) L.length c∧L.length≤c∧B≤g∧g<w.heap.size∧CRd w (some ⟨g,0,none⟩) L w.heap.size:=by
 rcases h.2 with ⟨rfl,h1⟩|⟨g,cap,cur,rfl,hh⟩
 · omega
 · obtain ⟨q1,q2⟩:=h.lt g rfl
   obtain ⟨ao,c,e,hc,hr⟩:=own_crdD h
   cases e
   exact ⟨g,cap,rfl,hc,q1,q2,hr⟩
theorem take_set {M T:List (Nat × Nat)} {k:Nat} (h:M.take k=T.take k) (hm:k<M.length) (ht:k<T.length):(M.set k (T.getD k (0,0))).take (k+1)=T.take (k+1):=by
 rw [takeP _ _ (by rw [List.length_set];exact hm),takeP _ _ ht,List.take_set_of_le (Nat.le_refl _),h,List.getD_eq_getElem?_getD (l:=M.set k _),List.getElem?_set_self hm]
 rfl
structure LgD (w wr:World) (f:Fz) (B:Nat):Prop where
 bw:Below w.heap.size w wr
 ob:wr.heap[w.heap.size]?=some (.cells (fzA fz0) 28)
 bb:wr.heap[B]?=some (.cells (fzA f) 28)
 lt:w.heap.size<B
theorem LgD.next {w wr w':World} {f:Fz} {B:Nat} (h:LgD w wr f B) (hb:Below wr.heap.size wr w'):LgD w w' f B:=
 ⟨h.bw.trans (hb.mono h.bw.size),(hb.block _ (Array.getElem?_eq_some_iff.1 h.ob).1).trans h.ob,(hb.block _ (Array.getElem?_eq_some_iff.1 h.bb).1).trans h.bb,h.lt⟩
theorem LgD.set {w wr:World} {f f':Fz} {B:Nat} (h:LgD w wr f B):LgD w (wr.setRow B (fzA f')) f' B:=by
 have hk:=KpSetRow (S:=fun i=>i=B) wr B (fzA f') rfl
 have hl:=h.lt
 exact ⟨h.bw.trans (hk.below h.bw.size (fun i e=>by omega)),(hk.block _ (Array.getElem?_eq_some_iff.1 h.ob).1 (by omega)).trans h.ob,setRow_heap _ _ _ _ _ _ h.bb,h.lt⟩
theorem LgD.put {w wr:World} {f:Fz} {B:Nat} (h:LgD w wr f B) (g:Fz):Below w.heap.size w (wr.setRow w.heap.size (fzA g)):=h.bw.trans ((KpSetRow (S:=fun i=>i=w.heap.size) _ _ _ rfl).below h.bw.size (fun i e=>by omega))
def FlD (L:List (Nat × Nat)) (a e:Nat) (en:Ending):Prop:=en=.returned (.tuple #[.agg (fzA (flV L a e)),.int .i64 (flE L a e:Nat)])
theorem ftv_step {L:List (Nat × Nat)} {a e k:Nat} (h:a<e∧e≤L.length) (hk:k<15) :
   bst ((L.drop a).take (e-a)) a (k+1)=if (bst ((L.drop a).take (e-a)) a k).len<(ftV L a e (k+1)).1.len then (ftV L a e (k+1)).1 else bst ((L.drop a).take (e-a)) a k:=by
 have hv:ftV L a e (k+1)=fkV ((L.drop a).take (e-a)) a (k+1):=if_pos ⟨h,by omega,by omega⟩
 rw [hv]
 rfl
theorem ftv_false {L:List (Nat × Nat)} {a e k:Nat} (h:(ftV L a e k).2=false):(ftV L a e k).1=fz0:=by
 unfold ftV at h ⊢
 split
 · rename_i q
   rw [if_pos q] at h
   unfold fkV fitV at h ⊢
   split
   · rfl
   · rename_i q2
     rw [if_neg q2] at h
     cases h
 · rfl
theorem dlong_any (ao:Option Addr) (cap a e:Nat) (L:List (Nat × Nat)) (w:World) (hL:L.length≤140737488355328) (ha32:a<4294967296) (he32:e<4294967296) (hwf:Wfc L) (hr:CRd w ao L w.heap.size) :
   Calls Tryz.prog 11 #[.slice ao L.length cap,.int .u32 (a:Int),.int .u32 (e:Int)] w fun en w'=>FlD L a e en∧Below w.heap.size w w':=by
 have HL:=dhid (fun W=>dlies_any ao cap L.length a e W (by omega) ha32 he32)
 have HN:=dhid (FtS.new w)
 by_cases hl:a<e∧e≤L.length
 · rw [show liB L.length a e=true from decide_eq_true hl] at HL
   have HF:=dhid (fun k W (hW:Below w.heap.size w W)=>dfits_any ao cap a e k L W hL ha32 he32 hwf ((hr.below hW).mono hW.size))
   have hE:flE L a e=erV (L.getD a (0,0)).1 (L.getD a (0,0)).2:=if_pos hl
   have HV:Hid (erV (L.getD a (0,0)).1 (L.getD a (0,0)).2=0→FlD L a e (.returned (.tuple #[.agg (fzA (bst ((L.drop a).take (e-a)) a 15)),.int .i64 0]))):=dhid (fun h=>by
     unfold FlD flV
     rw [hE,h,if_pos rfl];rfl)
   have HW:Hid (¬ erV (L.getD a (0,0)).1 (L.getD a (0,0)).2=0→FlD L a e (.returned (.tuple #[.agg (fzA fz0),.int .i64 ((erV (L.getD a (0,0)).1 (L.getD a (0,0)).2:Nat):Int)]))):=dhid (fun h=>by
     unfold FlD flV
     rw [hE,if_neg h])
   have HST:=dhid (fun k (hk:k<15)=>ftv_step (k:=k) hl hk)
   have HFF:=dhid (fun k=>ftv_false (L:=L) (a:=a) (e:=e) (k:=k))
   obtain ⟨b,off,rfl,hbl,hc⟩:=hr (by omega)
   obtain ⟨hop,harg⟩:=hwf.at (show a<L.length by omega)
   have X0:=dhid (fun (W:World) (hW:Below w.heap.size w W)=>(hW.cell (p:=⟨b,off+a*2,none⟩) hbl).trans (hc a (by omega)).1)
   have X1:=dhid (fun (W:World) (hW:Below w.heap.size w W)=>(hW.cell (p:=⟨b,off+a*2+1,none⟩) hbl).trans (hc a (by omega)).2)
   generalize FlD L a e=PP at HV HW ⊢
   generalize L.getD a (0,0)=pp at X0 X1 HV HW hop harg
   obtain ⟨op,arg⟩:=pp
   simp only at X0 X1 HV HW hop harg
   have HCK:=dhid (fun W=>rcheck_any op arg W hop)
   have haI:(a:Int)<(L.length:Int):=by omega
   have q4:IntKind.i64.wrap (a:Int)=(a:Int):=by rw [IntKind.wrap_i64];omega
   have q5:wrap64 (a:Int)=(a:Int):=by unfold wrap64;omega
   have y0:=X0.out w (Below.refl _ _)
   have y1:=X1.out w (Below.refl _ _)
   have HBS:bst ((L.drop a).take (e-a)) a 0=fz0:=rfl
   generalize bst ((L.drop a).take (e-a)) a=bs at HV HST HBS
   generalize ftV L a e=fv at HF HST HFF
   clear hwf hr hl hL ha32 he32 hE hc hop harg X0 X1
   by_cases her:erV op arg=0
   · have hd : ((erV op arg:Int) != 0)=false:=by rw [her];rfl
     have hd':(erV op arg:Int)=0:=by omega
     have HZ:=dhid (HV.out her)
     clear HV HW
     go_enter Tryz.func11,Tryz.ntmps11
     go_wp2_with (first
       |(go_at_call 20;refine (HL.out _).mono ?_;rintro en w1 ⟨rfl,hw1⟩;subst hw1)
       |(go_at_call 25;with_reducible refine (HCK.out _).mono ?_;rintro en w2 ⟨rfl,hb2⟩))
     have S2:=dhid (HN.out.next hb2)
     have S3:Hid (LgD w (w2.alloc (.cells #[.int .u32 0,.int .u32 0,.int .u8 0,.int .u8 0,.int .u32 0,.int .u32 0] 28)) fz0 w2.heap.size):=dhid ⟨(S2.out.next (bel1 _ _)).bw,(S2.out.next (bel1 _ _)).ob,heap_alloc_new w2 _,(Array.getElem?_eq_some_iff.1 S2.out.ob).1⟩
     have HB0:Hid (bs 0=fz0):=dhid HBS
     generalize hB:w2.heap.size=B at *
     go_loopw [10] (fun u wr=>∃ k:Nat,u=.int .u8 ((k+1:Nat):Int)∧k≤15∧Hid (LgD w wr (bs k) B)) (fun u _=>16-(intOf u).toNat)
     case atStart=>exact ⟨0,rfl,by omega,dhid (by rw [HB0.out];exact S3.out)⟩
     case round=>
       obtain ⟨k,rfl,hk,HX⟩:=hrel
       by_cases h15:k<15
       · have g1:((k+1:Nat):Int)≤15:=by omega
         have HFk:=dhid (HF.out (k+1) wr HX.out.bw)
         have HSk:=dhid (HST.out k h15)
         have HFk2:=dhid (HFF.out (k+1))
         generalize hkk:k+1=k1 at *
         generalize fv k1=fk at HFk HSk HFk2
         obtain ⟨⟨f0,f1,f2,f3,f4,f5⟩,okf⟩:=fk
         generalize bs k=b0 at HX HSk
         obtain ⟨c0,c1,c2,c3,c4,c5⟩:=b0
         simp only [fzA] at HFk
         go_wp2_with fail
         refine HFk.out.mono ?_
         rintro en w3 ⟨rfl,hb3⟩
         have X3:=dhid (HX.out.next hb3)
         have X4:=dhid (X3.out.next (bel1 w3 (.cells #[.int .u32 (f0:Int),.int .u32 (f1:Int),.int .u8 (f2:Int),.int .u8 (f3:Int),.int .u32 (f4:Int),.int .u32 (f5:Int)] 28)))
         have hBl:B<w3.heap.size:=(Array.getElem?_eq_some_iff.1 X3.out.bb).1
         obtain ⟨z0,z1,z2,z3,z4,z5⟩:=fz_cells X3.out.bb
         simp only at z0 z1 z2 z3 z4 z5
         have hk1:k1≤15:=by omega
         have w1:IntKind.u8.wrap ((k1:Int)+1)=((k1+1:Nat):Int):=by rw [IntKind.wrap_u8];omega
         have w2':((k1:Int)+1) % 256=((k1+1:Nat):Int):=by omega
         clear hb3 HFk HF HST HFF X3 HX
         cases okf with
         | false=>
           have HS2:Hid (bs k1=⟨c0,c1,c2,c3,c4,c5⟩):=dhid (by
             have:=HFk2.out (by first|rfl|trivial)
             simp only [fz0,Fz.mk.injEq] at this
             rw [HSk.out,this.2.1,if_neg (by omega)])
           go_wp2_with fail
           go_roundw
           case rel=>exact ⟨k1,by first|rfl|go_num,hk1,dhid (by rw [HS2.out];exact X4.out)⟩
           case measure=>simp [intOf];omega
         | true=>
           by_cases hlt:c1<f1
           · have g2:(c1:Int)<(f1:Int):=by omega
             have HS2:Hid (bs k1=⟨f0,f1,f2,f3,f4,f5⟩):=dhid (by rw [HSk.out,if_pos hlt])
             clear HSk HFk2
             go_wp2_with (refine wpList_storeF rfl _ _ rfl B ⟨c0,c1,c2,c3,c4,c5⟩ ⟨f0,f1,f2,f3,f4,f5⟩ rfl rfl X4.out.bb ?_)
             go_roundw
             case rel=>exact ⟨k1,by first|rfl|go_num,hk1,dhid (by rw [HS2.out];exact X4.out.set)⟩
             case measure=>simp [intOf];omega
           · have g2:¬ (c1:Int)<(f1:Int):=by omega
             have HS2:Hid (bs k1=⟨c0,c1,c2,c3,c4,c5⟩):=dhid (by rw [HSk.out,if_neg hlt])
             clear HSk HFk2
             go_wp2_with fail
             go_roundw
             case rel=>exact ⟨k1,by first|rfl|go_num,hk1,dhid (by rw [HS2.out];exact X4.out)⟩
             case measure=>simp [intOf];omega
       · have g1:¬ ((k+1:Nat):Int)≤15:=by omega
         have hk15:k=15:=by omega
         subst hk15
         generalize bs 15=b0 at HX HZ
         obtain ⟨c0,c1,c2,c3,c4,c5⟩:=b0
         obtain ⟨z0,z1,z2,z3,z4,z5⟩:=fz_cells HX.out.bb
         simp only at z0 z1 z2 z3 z4 z5
         go_wp2_with (refine wpList_storeF rfl _ _ rfl w.heap.size fz0 ⟨c0,c1,c2,c3,c4,c5⟩ rfl rfl HX.out.ob ?_)
         exact bodyPost_ret (resFzB (p:=6) (u:=7) (by kernel_rfl) _ _ w.heap.size _ rfl (setRow_heap _ _ _ _ _ _ HX.out.ob) _ rfl rfl) rfl ⟨HZ.out,HX.out.put _⟩
   · have hd:((erV op arg:Int) != 0)=true:=by simp;omega
     have hd':¬ (erV op arg:Int)=0:=by omega
     have HZ:=dhid (HW.out her)
     clear HV HW
     go_enter Tryz.func11,Tryz.ntmps11
     go_wp2_with (first
       |(go_at_call 20;refine (HL.out _).mono ?_;rintro en w1 ⟨rfl,hw1⟩;subst hw1)
       |(go_at_call 25;refine (HCK.out _).mono ?_;rintro en w2 ⟨rfl,hb2⟩;have S2:=dhid (HN.out.next hb2))
       |(refine wpList_storeF rfl _ _ rfl w.heap.size fz0 fz0 rfl rfl S2.out.ob ?_))
     exact bodyPost_ret (resFzB (p:=6) (u:=7) (by kernel_rfl) _ _ w.heap.size _ rfl (setRow_heap _ _ _ _ _ _ S2.out.ob) _ rfl rfl) rfl ⟨HZ.out,S2.out.put _⟩
 · rw [show liB L.length a e=false from decide_eq_false hl] at HL
   have HZ:Hid (FlD L a e (.returned (.tuple #[.agg (fzA fz0),.int .i64 2]))):=dhid (by
     have hE:flE L a e=2:=if_neg hl
     unfold FlD flV
     rw [hE,if_neg (by decide)];rfl)
   generalize FlD L a e=PP at HZ ⊢
   clear hL ha32 he32 hl hr hwf
   go_enter Tryz.func11,Tryz.ntmps11
   go_wp2_with (first
     |(go_at_call 20;refine (HL.out _).mono ?_;rintro en w1 ⟨rfl,hw1⟩;subst hw1)
     |(refine wpList_storeF rfl _ _ rfl w.heap.size fz0 fz0 rfl rfl HN.out.ob ?_))
   exact bodyPost_ret (resFzB (p:=6) (u:=7) (by kernel_rfl) _ _ w.heap.size _ rfl (setRow_heap _ _ _ _ _ _ HN.out.ob) _ rfl rfl) rfl ⟨HZ.out,HN.out.put _⟩
open Go.ChangeShapes Go.ChangeAt
theorem Tryz.own:ownKnob Tryz.prog.godebug=none:=by kernel_rfl
theorem Tryz.laidOut:laidOutB Tryz.prog=true:=by kernel_rfl
theorem int_wf {z:Int} (h:(Lit.int .i64 z).wf=true) : -9223372036854775808≤z∧z≤9223372036854775807:=by
 have h1:IntKind.i64.min = -9223372036854775808:=rfl
 have h2:IntKind.i64.max=9223372036854775807:=rfl
 simp only [Lit.wf,Bool.and_eq_true,decide_eq_true_eq] at h
 omega
theorem byte_wf {z:Int} (h:(Lit.int .u8 z).wf=true):0≤z∧z≤255:=by
 simpa [Lit.wf,IntKind.min,IntKind.max,IntKind.signed,IntKind.bits] using h
theorem word_wf {z:Int} (h:(Lit.int .u32 z).wf=true):0≤z∧z≤4294967295:=by
 simpa [Lit.wf,IntKind.min,IntKind.max,IntKind.signed,IntKind.bits] using h
end Go.Proofs.YtibhlcfligfhdaaGreat
