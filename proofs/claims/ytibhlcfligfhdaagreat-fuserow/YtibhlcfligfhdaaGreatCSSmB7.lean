import Derived.Test.YtibhlcfligfhdaaGreatCSSmB4
import Derived.Test.YtibhlcfligfhdaaGreatCSSmB0
import Derived.Test.YtibhlcfligfhdaaGreatCSLay
import Derived.Test.YtibhlcfligfhdaaGreatCPKp
namespace Go.Proofs.YtibhlcfligfhdaaGreat
set_option maxHeartbeats 40000000

open Go.RowKit
set_option maxRecDepth 100000
abbrev vN:Value:=.agg #[.int .u8 1,.bool false,.int .u64 0,.int .i64 0]
abbrev vE (m:Bool):Value:=.agg #[.int .u8 2,.bool m,.int .u64 0,.int .i64 0]
abbrev vF (m:Bool) (n p:Int):Value:=.agg #[.int .u8 3,.bool m,.int .u64 n,.int .i64 p]
theorem sm_n1 (sb:Int) (mb:Bool) (nb pb:Int) (w:World) :
   Calls Tryz.prog 138 #[.agg #[.int .i64 24,.int .i64 (-149),.int .i64 104],.agg #[.int .u8 1,.bool false,.int .u64 0,.int .i64 0],.agg #[.int .u8 sb,.bool mb,.int .u64 nb,.int .i64 pb]] w fun e w'=>e=.returned vN∧Below w.heap.size w w':=by
 go_enter Tryz.func138,Tryz.ntmps138
 go_wp2_with (go_at_call 144;refine (vnone_any _).mono ?_;rintro e wq ⟨rfl,hq⟩;subst wq)
 refine bodyPost_ret (v:=vN) (by simp [results,Tryz.f138,go_sem]) rfl ?_
 exact ⟨rfl,by repeat (first|exact Below.refl _ _|refine bel ?_|refine Below.drew ?_)⟩
theorem sm_n2 (sa:Int) (ma:Bool) (na pa:Int) (w:World) (h:(sa == 1)=false) :
   Calls Tryz.prog 138 #[.agg #[.int .i64 24,.int .i64 (-149),.int .i64 104],.agg #[.int .u8 sa,.bool ma,.int .u64 na,.int .i64 pa],.agg #[.int .u8 1,.bool false,.int .u64 0,.int .i64 0]] w fun e w'=>e=.returned vN∧Below w.heap.size w w':=by
 go_enter Tryz.func138,Tryz.ntmps138
 go_wp2_with (go_at_call 144;refine (vnone_any _).mono ?_;rintro e wq ⟨rfl,hq⟩;subst wq)
 refine bodyPost_ret (v:=vN) (by simp [results,Tryz.f138,go_sem]) rfl ?_
 exact ⟨rfl,by repeat (first|exact Below.refl _ _|refine bel ?_|refine Below.drew ?_)⟩
theorem sm_ef (ma mb:Bool) (nb pb:Int) (w:World) :
   Calls Tryz.prog 138 #[.agg #[.int .i64 24,.int .i64 (-149),.int .i64 104],.agg #[.int .u8 2,.bool ma,.int .u64 0,.int .i64 0],.agg #[.int .u8 3,.bool mb,.int .u64 nb,.int .i64 pb]] w fun e w'=>e=.returned (vE ma)∧Below w.heap.size w w':=by
 go_enter Tryz.func138,Tryz.ntmps138
 go_wp2
 refine bodyPost_ret (v:=vE ma) (by simp [results,Tryz.f138,go_sem]) rfl ?_
 exact ⟨rfl,by repeat (first|exact Below.refl _ _|refine bel ?_|refine Below.drew ?_)⟩
theorem sm_fe (ma mb:Bool) (na pa:Int) (w:World) :
   Calls Tryz.prog 138 #[.agg #[.int .i64 24,.int .i64 (-149),.int .i64 104],.agg #[.int .u8 3,.bool ma,.int .u64 na,.int .i64 pa],.agg #[.int .u8 2,.bool mb,.int .u64 0,.int .i64 0]] w fun e w'=>e=.returned (vE mb)∧Below w.heap.size w w':=by
 go_enter Tryz.func138,Tryz.ntmps138
 go_wp2
 refine bodyPost_ret (v:=vE mb) (by simp [results,Tryz.f138,go_sem]) rfl ?_
 exact ⟨rfl,by repeat (first|exact Below.refl _ _|refine bel ?_|refine Below.drew ?_)⟩
theorem sm_ee (ma:Bool) (w:World) :
   Calls Tryz.prog 138 #[.agg #[.int .i64 24,.int .i64 (-149),.int .i64 104],.agg #[.int .u8 2,.bool ma,.int .u64 0,.int .i64 0],.agg #[.int .u8 2,.bool ma,.int .u64 0,.int .i64 0]] w fun e w'=>e=.returned (vE ma)∧Below w.heap.size w w':=by
 go_enter Tryz.func138,Tryz.ntmps138
 go_wp2
 refine bodyPost_ret (v:=vE ma) (by simp [results,Tryz.f138,go_sem]) rfl ?_
 exact ⟨rfl,by repeat (first|exact Below.refl _ _|refine bel ?_|refine Below.drew ?_|refine bt3 ?_)⟩
theorem sm_en (ma mb:Bool) (hmm:(ma == mb)=false) (w:World) :
   Calls Tryz.prog 138 #[.agg #[.int .i64 24,.int .i64 (-149),.int .i64 104],.agg #[.int .u8 2,.bool ma,.int .u64 0,.int .i64 0],.agg #[.int .u8 2,.bool mb,.int .u64 0,.int .i64 0]] w fun e w'=>e=.returned vN∧Below w.heap.size w w':=by
 have hm2:(ma != mb)=true:=by simp [bne,hmm]
 go_enter Tryz.func138,Tryz.ntmps138
 go_wp2_with (go_at_call 144;refine (vnone_any _).mono ?_;rintro e wq ⟨rfl,hq⟩;subst wq)
 refine bodyPost_ret (v:=vN) (by simp [results,Tryz.f138,go_sem]) rfl ?_
 exact ⟨rfl,by repeat (first|exact Below.refl _ _|refine bel ?_|refine Below.drew ?_|refine bt3 ?_)⟩
theorem word_sn (a:Nat) (h:a<4294967296):Ieee.single.word (sn a) (a % 2147483648)=a:=by
 have e1:Ieee.single.signWeight=2147483648:=rfl
 unfold Ieee.Format.word sn
 rw [e1]
 by_cases h':a<2147483648
 · rw [show a / 2147483648 % 2=0 by omega];simp;omega
 · rw [show a / 2147483648 % 2=1 by omega];simp;omega
def na (x y:Nat):Prop:=ok x=true→ok y=true→key x≤key y
theorem inf_read {z:Nat} (h:z % 2147483648=2139095040):Ieee.single.read z=.infinity (sn z):=by
 rw [read_single,if_neg (by omega),if_neg (by omega),if_pos h];rfl
theorem inf_write {z:Nat} (hz:z<4294967296) (h:z % 2147483648=2139095040):Ieee.single.write (.infinity (sn z))=z:=by
 have:=word_sn z hz
 rw [h] at this;exact this
theorem sum_comm' (d e:Ieee.Datum):d.sum e=e.sum d:=by
 cases d <;> cases e <;> simp only [Ieee.Datum.sum]
 · rename_i s m i t n j
   rw [Int.min_comm i j,Int.add_comm (Ieee.signed s _ _),Bool.and_comm]
 · rename_i s t
   by_cases h:s=t
   · subst h;rfl
   · rw [if_neg h,if_neg (Ne.symm h)]
theorem read_rd (a:Nat) (h:a % 2147483648<2139095040):Ieee.single.read a=.number (sn a) (rdm a) (-149+(rdk a:Int)):=by
 rw [read_single];unfold rdm rdk sn
 split
 · simp
 · rw [show a % 2147483648 % 8388608=a % 8388608 by omega]
theorem sg_sn (a:Nat) (h:a<4294967296):sn a=sg a:=by
 unfold sn sg
 rw [Bool.eq_iff_iff]
 simp only [beq_iff_eq,decide_eq_true_eq]
 omega
def sgn (s:Bool) (x:Nat):Int:=if s then -(x:Int) else (x:Int)
theorem word_wrd (m:Bool) (r:Nat) (_:r<2147483648):Ieee.single.word m r=wrd m r:=by
 have e1:Ieee.single.signWeight=2147483648:=rfl
 unfold Ieee.Format.word wrd
 rw [e1]
 cases m
 · simp
 · simp
theorem sgn_lt (ma mb:Bool) (h:ma≠mb) (u v:Nat) (hc:u<v):(sgn ma u+sgn mb v).natAbs=v-u∧(if sgn ma u+sgn mb v=0 then ma && mb else decide (sgn ma u+sgn mb v<0))=mb:=by
 unfold sgn
 cases ma <;> cases mb
 · exact absurd rfl h
 · simp only [Bool.false_eq_true,if_false,if_true]
   rw [if_neg (by omega)]
   exact ⟨by omega,decide_eq_true (by omega)⟩
 · simp only [Bool.false_eq_true,if_false,if_true]
   rw [if_neg (by omega)]
   exact ⟨by omega,decide_eq_false (by omega)⟩
 · exact absurd rfl h
theorem sgn_gt (ma mb:Bool) (h:ma≠mb) (u v:Nat) (hc:v<u):(sgn ma u+sgn mb v).natAbs=u-v∧(if sgn ma u+sgn mb v=0 then ma && mb else decide (sgn ma u+sgn mb v<0))=ma:=by
 unfold sgn
 cases ma <;> cases mb
 · exact absurd rfl h
 · simp only [Bool.false_eq_true,if_false,if_true]
   rw [if_neg (by omega)]
   exact ⟨by omega,decide_eq_false (by omega)⟩
 · simp only [Bool.false_eq_true,if_false,if_true]
   rw [if_neg (by omega)]
   exact ⟨by omega,decide_eq_true (by omega)⟩
 · exact absurd rfl h
theorem sgn_eq (ma mb:Bool) (h:ma≠mb) (u:Nat):sgn ma u+sgn mb u=0∧(ma && mb)=false:=by
 unfold sgn
 cases ma <;> cases mb
 · exact absurd rfl h
 · simp only [Bool.false_eq_true,if_false,if_true];exact ⟨by omega,rfl⟩
 · simp only [Bool.false_eq_true,if_false,if_true];exact ⟨by omega,rfl⟩
 · exact absurd rfl h
theorem fsum_rd (a b:Nat) (fa:a % 2147483648<2139095040) (fb:b % 2147483648<2139095040) (X Y:Nat) (p:Int) (hp:min (-149+(rdk a:Int)) (-149+(rdk b:Int))=p) (hX : -149+(rdk a:Int)-p=X) (hY : -149+(rdk b:Int)-p=Y) (T:Int) (hT:sgn (sn a) (rdm a*2 ^ X)+sgn (sn b) (rdm b*2 ^ Y)=T) :
   fsum a b=Ieee.single.word (if T=0 then sn a && sn b else decide (T<0)) (min (rg Ieee.single T.natAbs p) 2139095040):=by
 have h0:Ieee.single.add a b=((Ieee.single.read a).sum (Ieee.single.read b)).map Ieee.single.write:=rfl
 rw [read_rd a fa,read_rd b fb] at h0
 simp only [Ieee.Datum.sum,Option.map_some] at h0
 rw [hp,hX,hY,Int.toNat_natCast,Int.toNat_natCast,signed_val,signed_val] at h0
 have e:((if sn a=true then -((rdm a*2 ^ X:Nat):Int) else ((rdm a*2 ^ X:Nat):Int))+if sn b=true then -((rdm b*2 ^ Y:Nat):Int) else ((rdm b*2 ^ Y:Nat):Int))=T:=hT
 rw [e] at h0
 unfold fsum
 rw [h0,nearest_word]
 rfl
def tv (a:Nat):Value:=if ok a=false then vN else if a % 2147483648=2139095040 then vE (sg a) else vF (sg a) (rdm a) (-149+(rdk a:Int))
theorem tv_none {a:Nat} (h:ok a=false):tv a=vN:=by rw [tv,if_pos h]
theorem tv_inf {a:Nat} (h:a % 2147483648=2139095040):tv a=vE (sg a):=by rw [tv,if_neg (by simp [ok,h]),if_pos h]
theorem tv_fin {a:Nat} (h:a % 2147483648<2139095040):tv a=vF (sg a) (rdm a) (-149+(rdk a:Int)):=by rw [tv,if_neg (by simp [ok];omega),if_neg (by omega)]
theorem ok_cases (a:Nat):ok a=false∨a % 2147483648=2139095040∨a % 2147483648<2139095040:=by
 unfold ok
 by_cases h:a % 2147483648≤2139095040
 · right;omega
 · left;exact decide_eq_false h
theorem take_any (a:Nat) (w:World) (h:a<4294967296) :
   Calls Tryz.prog 100 #[.int .u32 a] w fun e w'=>e=.returned (tv a)∧Below w.heap.size w w':=by
 rcases ok_cases a with h1|h1|h1
 · rw [tv_none h1];exact take_none a w h h1
 · rw [tv_inf h1];exact take_endless a w h h1
 · rw [tv_fin h1];exact take_fin a w h h1
theorem rd_k {a:Nat} (h:a % 2147483648<2139095040):rdk a≤253∧rdm a<16777216:=by
 obtain ⟨h1,h2,h3⟩:=rd_rung a
 exact ⟨by omega,h2⟩
def LayV (v:Value) (x:Nat):Prop:=∀ w,Calls Tryz.prog 104 #[v] w fun e w'=>e=.returned (.int .u32 (x:Int))∧Below w.heap.size w w'
theorem layV_fit {m:Bool} {n:Nat} {p:Int} {r x:Nat} (h:Fits n p r) (hx:x=wrd m (min r 2139095040)):LayV (hdV m n p) x:=fun w=>by rw [hx];exact lay_any m n p r w h
theorem sumv_fin (a b:Nat) (w:World) (ha:a<4294967296) (hb:b<4294967296) (fa:a % 2147483648<2139095040) (fb:b % 2147483648<2139095040) :
   Calls Tryz.prog 138 #[.agg #[.int .i64 24,.int .i64 (-149),.int .i64 104],vF (sg a) (rdm a) (-149+(rdk a:Int)),vF (sg b) (rdm b) (-149+(rdk b:Int))] w fun e w'=>(∃ v,e=.returned v∧LayV v (fsum a b))∧Below w.heap.size w w':=by
 obtain ⟨ka,na⟩:=rd_k fa
 obtain ⟨kb,nb⟩:=rd_k fb
 have hsa:=sg_sn a ha
 have hsb:=sg_sn b hb
 obtain ⟨p,hp⟩:∃ p,min (-149+(rdk a:Int)) (-149+(rdk b:Int))=p:=⟨_,rfl⟩
 obtain ⟨X,hX⟩:∃ X:Nat,-149+(rdk a:Int)-p=X:=⟨(-149+(rdk a:Int)-p).toNat,by omega⟩
 obtain ⟨Y,hY⟩:∃ Y:Nat,-149+(rdk b:Int)-p=Y:=⟨(-149+(rdk b:Int)-p).toNat,by omega⟩
 have hf:=fun T hT=>fsum_rd a b fa fb X Y p hp hX hY T hT
 rw [hsa,hsb] at hf
 generalize sg a=ma at *
 generalize sg b=mb at *
 generalize rdm a=x at *
 generalize rdm b=y at *
 have hmin:∀ r:Nat,min r 2139095040<2147483648:=fun r=>by omega
 by_cases hs:ma=mb
 · subst hs
   have hab:(sgn ma (x*2 ^ X)+sgn ma (y*2 ^ Y)).natAbs=x*2 ^ X+y*2 ^ Y:=by unfold sgn;split <;> omega
   have hneg:(if sgn ma (x*2 ^ X)+sgn ma (y*2 ^ Y)=0 then ma && ma else decide (sgn ma (x*2 ^ X)+sgn ma (y*2 ^ Y)<0))=ma:=by
     unfold sgn
     cases ma
     · simp only [Bool.false_eq_true,if_false,Bool.and_self]
       split
       · rfl
       · exact decide_eq_false (by omega)
     · simp only [if_true,Bool.and_self]
       split
       · rfl
       · exact decide_eq_true (by omega)
   have hF:=hf _ rfl
   rw [hab,hneg,word_wrd _ _ (hmin _)] at hF
   by_cases ho:(-149+(rdk b:Int)) < -149+(rdk a:Int)
   · obtain rfl:p = -149+(rdk b:Int):=by omega
     exact (sumLp ma x y X Y _ _ w na nb (by omega) (by omega) (by omega) (by omega) ho hX (by omega)).mono fun e w' ⟨⟨n,q,he,hq⟩,hbl⟩=>⟨⟨_,he,layV_fit hq hF⟩,hbl⟩
   · obtain rfl:p = -149+(rdk a:Int):=by omega
     exact (sumGp ma x y X Y _ _ w na nb (by omega) (by omega) (by omega) (by omega) ho (by omega) hY).mono fun e w' ⟨⟨n,q,he,hq⟩,hbl⟩=>⟨⟨_,he,layV_fit hq hF⟩,hbl⟩
 · have hmm:(ma == mb)=false:=by rw [beq_eq_false_iff_ne];exact hs
   rcases Nat.lt_trichotomy (x*2 ^ X) (y*2 ^ Y) with hc|hc|hc
   · obtain ⟨hab,hneg⟩:=sgn_lt ma mb hs _ _ hc
     have hF:=hf _ rfl
     rw [hab,hneg,word_wrd _ _ (hmin _)] at hF
     by_cases ho:(-149+(rdk b:Int)) < -149+(rdk a:Int)
     · obtain rfl:p = -149+(rdk b:Int):=by omega
       exact (sumLl ma mb hmm x y X Y _ _ w na nb (by omega) (by omega) (by omega) (by omega) ho hX (by omega) hc).mono fun e w' ⟨⟨n,q,he,hq⟩,hbl⟩=>⟨⟨_,he,layV_fit hq hF⟩,hbl⟩
     · obtain rfl:p = -149+(rdk a:Int):=by omega
       exact (sumGl ma mb hmm x y X Y _ _ w na nb (by omega) (by omega) (by omega) (by omega) ho (by omega) hY hc).mono fun e w' ⟨⟨n,q,he,hq⟩,hbl⟩=>⟨⟨_,he,layV_fit hq hF⟩,hbl⟩
   · obtain ⟨hab,hmf⟩:=sgn_eq ma mb hs (y*2 ^ Y)
     rw [show sgn ma (y*2 ^ Y)=sgn ma (x*2 ^ X) by rw [hc]] at hab
     have hF:=hf _ hab
     rw [if_pos rfl,word_wrd _ _ (hmin _)] at hF
     rw [hmf] at hF
     have hF':fsum a b=wrd false (min 0 2139095040):=hF
     by_cases ho:(-149+(rdk b:Int)) < -149+(rdk a:Int)
     · obtain rfl:p = -149+(rdk b:Int):=by omega
       exact (sumLz ma mb hmm x y X Y _ _ w na nb (by omega) (by omega) (by omega) (by omega) ho hX (by omega) hc).mono fun e w' ⟨⟨n,q,he,hq⟩,hbl⟩=>⟨⟨_,he,layV_fit hq hF'⟩,hbl⟩
     · obtain rfl:p = -149+(rdk a:Int):=by omega
       exact (sumGz ma mb hmm x y X Y _ _ w na nb (by omega) (by omega) (by omega) (by omega) ho (by omega) hY hc).mono fun e w' ⟨⟨n,q,he,hq⟩,hbl⟩=>⟨⟨_,he,layV_fit hq hF'⟩,hbl⟩
   · obtain ⟨hab,hneg⟩:=sgn_gt ma mb hs _ _ hc
     have hF:=hf _ rfl
     rw [hab,hneg,word_wrd _ _ (hmin _)] at hF
     by_cases ho:(-149+(rdk b:Int)) < -149+(rdk a:Int)
     · obtain rfl:p = -149+(rdk b:Int):=by omega
       exact (sumLg ma mb hmm x y X Y _ _ w na nb (by omega) (by omega) (by omega) (by omega) ho hX (by omega) hc).mono fun e w' ⟨⟨n,q,he,hq⟩,hbl⟩=>⟨⟨_,he,layV_fit hq hF⟩,hbl⟩
     · obtain rfl:p = -149+(rdk a:Int):=by omega
       exact (sumGg ma mb hmm x y X Y _ _ w na nb (by omega) (by omega) (by omega) (by omega) ho (by omega) hY hc).mono fun e w' ⟨⟨n,q,he,hq⟩,hbl⟩=>⟨⟨_,he,layV_fit hq hF⟩,hbl⟩
theorem flip2 (m:Bool) (w:World)  :
   Calls Tryz.prog 139 #[.agg #[.int .u8 2,.bool m,.int .u64 0,.int .i64 0]] w fun e w'=>e=.returned (.agg #[.int .u8 2,.bool (!m),.int .u64 0,.int .i64 0])∧Below w.heap.size w w':=by
 go_enter Tryz.func139,Tryz.ntmps139
 go_wp2
 refine bodyPost_ret (v:=.agg #[.int .u8 2,.bool (!m),.int .u64 0,.int .i64 0]) (by simp [results,Tryz.f139,go_sem]) rfl ?_
 exact ⟨rfl,by repeat (first|exact Below.refl _ _|refine bel ?_|refine Below.drew ?_)⟩
theorem flip3 (m:Bool) (n p:Int) (w:World)  :
   Calls Tryz.prog 139 #[.agg #[.int .u8 3,.bool m,.int .u64 n,.int .i64 p]] w fun e w'=>e=.returned (.agg #[.int .u8 3,.bool (!m),.int .u64 n,.int .i64 p])∧Below w.heap.size w w':=by
 go_enter Tryz.func139,Tryz.ntmps139
 go_wp2
 refine bodyPost_ret (v:=.agg #[.int .u8 3,.bool (!m),.int .u64 n,.int .i64 p]) (by simp [results,Tryz.f139,go_sem]) rfl ?_
 exact ⟨rfl,by repeat (first|exact Below.refl _ _|refine bel ?_|refine Below.drew ?_)⟩
theorem flip1  (w:World)  :
   Calls Tryz.prog 139 #[.agg #[.int .u8 1,.bool false,.int .u64 0,.int .i64 0]] w fun e w'=>e=.returned (.agg #[.int .u8 1,.bool false,.int .u64 0,.int .i64 0])∧Below w.heap.size w w':=by
 go_enter Tryz.func139,Tryz.ntmps139
 go_wp2
 refine bodyPost_ret (v:=.agg #[.int .u8 1,.bool false,.int .u64 0,.int .i64 0]) (by simp [results,Tryz.f139,go_sem]) rfl ?_
 exact ⟨rfl,by repeat (first|exact Below.refl _ _|refine bel ?_|refine Below.drew ?_)⟩
theorem tn_mod (b:Nat) (h:b<4294967296):tn b % 2147483648=b % 2147483648∧sg (tn b) = !sg b:=by
 unfold tn sg
 split
 · exact ⟨by omega,by rw [decide_eq_true (by omega),decide_eq_false (by omega)];rfl⟩
 · exact ⟨by omega,by rw [decide_eq_false (by omega),decide_eq_true (by omega)];rfl⟩
theorem rdm_mod {a b:Nat} (h:a % 2147483648=b % 2147483648):rdm a=rdm b∧rdk a=rdk b:=by
 unfold rdm rdk
 rw [h,show a % 8388608=b % 8388608 by omega]
 exact ⟨rfl,rfl⟩
theorem flip_any (b:Nat) (w:World) (h:b<4294967296) :
   Calls Tryz.prog 139 #[tv b] w fun e w'=>e=.returned (tv (tn b))∧Below w.heap.size w w':=by
 obtain ⟨h1,h2⟩:=tn_mod b h
 rcases ok_cases b with c|c|c
 · rw [tv_none c,tv_none (by rw [ok,h1];exact c)];exact flip1 w
 · rw [tv_inf c,tv_inf (by rw [h1];exact c),h2];exact flip2 _ w
 · obtain ⟨e1,e2⟩:=rdm_mod h1
   rw [tv_fin c,tv_fin (by rw [h1];exact c),h2,e1,e2];exact flip3 _ _ _ w
theorem fsum_inf_n {x c:Nat} (hi:x % 2147483648=2139095040) (hj:c % 2147483648=2139095040) (hs:sn x≠sn c):fsum x c=2143289344:=by
 have h0:Ieee.single.add x c=((Ieee.single.read x).sum (Ieee.single.read c)).map Ieee.single.write:=rfl
 rw [inf_read hi,inf_read hj] at h0
 unfold fsum
 rw [h0]
 simp only [Ieee.Datum.sum,if_neg hs]
 rfl
theorem fsum_inf_s {x c:Nat} (hx:x<4294967296) (hi:x % 2147483648=2139095040) (hj:c % 2147483648=2139095040) (hs:sn x=sn c):fsum x c=x:=by
 have h0:Ieee.single.add x c=((Ieee.single.read x).sum (Ieee.single.read c)).map Ieee.single.write:=rfl
 rw [inf_read hi,inf_read hj] at h0
 unfold fsum
 rw [h0]
 simp only [Ieee.Datum.sum,if_pos hs]
 exact inf_write hx hi
theorem fsum_inf_f {x c:Nat} (hx:x<4294967296) (hi:x % 2147483648=2139095040) (hf:c % 2147483648<2139095040):fsum x c=x:=by
 have h0:Ieee.single.add x c=((Ieee.single.read x).sum (Ieee.single.read c)).map Ieee.single.write:=rfl
 obtain ⟨m,k,e,-⟩:=read_fin c hf
 rw [inf_read hi,e] at h0
 unfold fsum
 rw [h0]
 exact inf_write hx hi
theorem fsum_fin_i {x c:Nat} (hc:c<4294967296) (hi:c % 2147483648=2139095040) (hf:x % 2147483648<2139095040):fsum x c=c:=by
 have e:fsum x c=fsum c x:=by unfold fsum Ieee.Format.add;rw [sum_comm']
 rw [e];exact fsum_inf_f hc hi hf
theorem wrd_inf {a:Nat} (h:a<4294967296) (hi:a % 2147483648=2139095040):wrd (sg a) 2139095040=a:=by
 have:=wrd_sg a h
 rwa [hi] at this
theorem layAt {v:Value} {x:Nat} (h:LayV v x) (w:World):Calls Tryz.prog 104 #[v] w fun e w'=>e=.returned (.int .u32 (x:Int))∧Below w.heap.size w w':=h w
theorem layV_none:LayV vN 2143289344:=fun w=>lay_none w
theorem layV_inf {a:Nat} (h:a<4294967296) (hi:a % 2147483648=2139095040):LayV (vE (sg a)) a:=fun w=>by
 have:=lay_endless (sg a) w
 rwa [wrd_inf h hi] at this
theorem sumv_any (a b:Nat) (w:World) (ha:a<4294967296) (hb:b<4294967296) :
   Calls Tryz.prog 138 #[.agg #[.int .i64 24,.int .i64 (-149),.int .i64 104],tv a,tv b] w fun e w'=>(∃ v,e=.returned v∧LayV v (fsum a b))∧Below w.heap.size w w':=by
 rcases ok_cases a with ca|ca|ca
 · rw [tv_none ca,fsum_nan (Or.inl ca)]
   rcases ok_cases b with cb|cb|cb
   · rw [tv_none cb];exact (sm_n1 _ _ _ _ w).mono fun e w' ⟨he,h⟩=>⟨⟨_,he,layV_none⟩,h⟩
   · rw [tv_inf cb];exact (sm_n1 _ _ _ _ w).mono fun e w' ⟨he,h⟩=>⟨⟨_,he,layV_none⟩,h⟩
   · rw [tv_fin cb];exact (sm_n1 _ _ _ _ w).mono fun e w' ⟨he,h⟩=>⟨⟨_,he,layV_none⟩,h⟩
 · rw [tv_inf ca]
   rcases ok_cases b with cb|cb|cb
   · rw [tv_none cb,fsum_nan (Or.inr cb)];exact (sm_n2 2 _ _ _ w rfl).mono fun e w' ⟨he,h⟩=>⟨⟨_,he,layV_none⟩,h⟩
   · rw [tv_inf cb]
     by_cases hs:sg a=sg b
     · rw [fsum_inf_s ha ca cb (by rw [sg_sn a ha,sg_sn b hb];exact hs),←hs]
       exact (sm_ee (sg a) w).mono fun e w' ⟨he,h⟩=>⟨⟨_,he,layV_inf ha ca⟩,h⟩
     · rw [fsum_inf_n ca cb (by rw [sg_sn a ha,sg_sn b hb];exact hs)]
       exact (sm_en (sg a) (sg b) (by rw [beq_eq_false_iff_ne];exact hs) w).mono fun e w' ⟨he,h⟩=>⟨⟨_,he,layV_none⟩,h⟩
   · rw [tv_fin cb,fsum_inf_f ha ca cb];exact (sm_ef (sg a) _ _ _ w).mono fun e w' ⟨he,h⟩=>⟨⟨_,he,layV_inf ha ca⟩,h⟩
 · rcases ok_cases b with cb|cb|cb
   · rw [tv_fin ca,tv_none cb,fsum_nan (Or.inr cb)];exact (sm_n2 3 _ _ _ w rfl).mono fun e w' ⟨he,h⟩=>⟨⟨_,he,layV_none⟩,h⟩
   · rw [tv_fin ca,tv_inf cb,fsum_fin_i hb cb ca];exact (sm_fe _ (sg b) _ _ w).mono fun e w' ⟨he,h⟩=>⟨⟨_,he,layV_inf hb cb⟩,h⟩
   · rw [tv_fin ca,tv_fin cb];exact sumv_fin a b w ha hb ca cb
theorem sums_any (a b:Nat) (w:World) (ha:a<4294967296) (hb:b<4294967296) :
   Calls Tryz.prog 110 #[.int .u32 a,.int .u32 b] w fun e w'=>e=.returned (.int .u32 (fsum a b))∧Below w.heap.size w w':=by
 have HB:Below w.heap.size w w:=Below.refl _ _
 go_enter Tryz.func110,Tryz.ntmps110
 go_wp2_with (first
   |(go_at_call 106;refine (form_any _).mono ?_;rintro e wq ⟨rfl,hq⟩;subst wq)
   |(go_at_call 100;with_reducible refine (take_any a _ ha).mono ?_;rintro e w1 ⟨rfl,h1⟩;replace HB:Below w.heap.size w w1:=bt2 h1 (by apply_rules [HB,Below.refl,bel,Below.drew,bt3]))
   |(go_at_call 100;with_reducible refine (take_any b _ hb).mono ?_;rintro e w1 ⟨rfl,h1⟩;replace HB:Below w.heap.size w w1:=bt2 h1 (by apply_rules [HB,Below.refl,bel,Below.drew,bt3]))
   |(go_at_call 138;with_reducible refine (sumv_any a b _ ha hb).mono ?_;rintro e w2 ⟨⟨v,rfl,hv⟩,h2⟩;replace HB:Below w.heap.size w w2:=bt2 h2 (by apply_rules [HB,Below.refl,bel,Below.drew,bt3]))
   |(go_at_call 104;with_reducible refine (layAt hv _).mono ?_;rintro e w3 ⟨rfl,h3⟩;replace HB:Below w.heap.size w w3:=bt2 h3 (by apply_rules [HB,Below.refl,bel,Below.drew,bt3])))
 go_ret
 exact ⟨rfl,by (repeat (first|exact HB|exact Below.refl _ _|with_reducible first|refine bel ?_|refine Below.drew ?_|refine bt3 ?_))⟩
theorem rests_any (a b:Nat) (w:World) (ha:a<4294967296) (hb:b<4294967296) :
   Calls Tryz.prog 111 #[.int .u32 a,.int .u32 b] w fun e w'=>e=.returned (.int .u32 (fsum a (tn b)))∧Below w.heap.size w w':=by
 have HB:Below w.heap.size w w:=Below.refl _ _
 go_enter Tryz.func111,Tryz.ntmps111
 go_wp2_with (first
   |(go_at_call 106;refine (form_any _).mono ?_;rintro e wq ⟨rfl,hq⟩;subst wq)
   |(go_at_call 100;with_reducible refine (take_any a _ ha).mono ?_;rintro e w1 ⟨rfl,h1⟩;replace HB:Below w.heap.size w w1:=bt2 h1 (by apply_rules [HB,Below.refl,bel,Below.drew,bt3]))
   |(go_at_call 100;with_reducible refine (take_any b _ hb).mono ?_;rintro e w1 ⟨rfl,h1⟩;replace HB:Below w.heap.size w w1:=bt2 h1 (by apply_rules [HB,Below.refl,bel,Below.drew,bt3]))
   |(go_at_call 139;with_reducible refine (flip_any b _ hb).mono ?_;rintro e w1 ⟨rfl,h1⟩;replace HB:Below w.heap.size w w1:=bt2 h1 (by apply_rules [HB,Below.refl,bel,Below.drew,bt3]))
   |(go_at_call 138;with_reducible refine (sumv_any a (tn b) _ ha (tn_lt hb)).mono ?_;rintro e w2 ⟨⟨v,rfl,hv⟩,h2⟩;replace HB:Below w.heap.size w w2:=bt2 h2 (by apply_rules [HB,Below.refl,bel,Below.drew,bt3]))
   |(go_at_call 104;with_reducible refine (layAt hv _).mono ?_;rintro e w3 ⟨rfl,h3⟩;replace HB:Below w.heap.size w w3:=bt2 h3 (by apply_rules [HB,Below.refl,bel,Below.drew,bt3])))
 go_ret
 exact ⟨rfl,by (repeat (first|exact HB|exact Below.refl _ _|with_reducible first|refine bel ?_|refine Below.drew ?_|refine bt3 ?_))⟩
theorem nv_nil (w:World):NatV w (.slice none 0 0) 0:=⟨none,0,[],rfl,Nat.le_refl _,fun _=>rfl,rfl,Or.inl rfl,(fun z hz=>by simp at hz),fun h=>by simp at h⟩
theorem NatV.on {w W:World} {v:Value} {x:Nat} (h:NatV w v x) (hb:Below w.heap.size w W):NatV W v x:=h.below hb
theorem NatV.step {w W w':World} {v:Value} {x:Nat} (h:NatV w v x) (h1:Below w.heap.size w W) (hb:Below W.heap.size W w'):NatV w' v x:=h.below (bt2 hb h1)
theorem up_nv (v:Value) (x n:Nat) (w:World) (h:NatV w v x) (hx:x<18446744073709551616) (hn:n≤10000) :
   Calls Tryz.prog 130 #[v,.int .i64 n] w fun e w'=>(∃ v',e=.returned v'∧NatV w' v' (x*2 ^ n))∧Below w.heap.size w w':=by
 obtain ⟨ao,cap,zs,rfl,hc,hn',hval,hN,hW,hr⟩:=h
 have:=up_any ao cap zs n w (by have:=small_len hN hval hx;omega) hn hr hW
 rw [hval] at this
 exact this
theorem against_nv (v u:Value) (x y k:Nat) (w:World) (h:NatV w v x) (h':NatV w u y) (hx:x<2 ^ (32*k)) (hy:y<2 ^ (32*k)) (hk:k≤1000) :
   Calls Tryz.prog 135 #[v,u] w fun e w'=>e=.returned (.int .i64 (ag x y))∧∃ m,w'=w.drewN m:=by
 obtain ⟨ao,cap,zs,rfl,hc,hn',hval,hN,hW,hr⟩:=h
 obtain ⟨ao2,cap2,zs2,rfl,hc2,hn2,hval2,hN2,hW2,hr2⟩:=h'
 have:=against_any ao ao2 cap cap2 zs zs2 w (by have:=len_pow hN hval k hx;omega) (by have:=len_pow hN2 hval2 k hy;omega) hr hr2 hW hW2 hN hN2
 rw [hval,hval2] at this
 exact this
theorem gF {w W:World} {sa:Int} {ma:Bool} {na pa:Int} {sb:Int} {mb:Bool} {nb pb:Int} (h:Below ((w.alloc (oV sa ma na pa)).alloc (oV sb mb nb pb)).heap.size ((w.alloc (oV sa ma na pa)).alloc (oV sb mb nb pb)) W) :
   W.cell? ⟨w.heap.size,0,none⟩=some (.int .u8 sa)∧W.cell? ⟨w.heap.size,1,none⟩=some (.bool ma)∧W.cell? ⟨w.heap.size,2,none⟩=some (.int .u64 na)∧W.cell? ⟨w.heap.size,3,none⟩=some (.int .i64 pa)∧W.cell? ⟨w.heap.size+1,0,none⟩=some (.int .u8 sb)∧W.cell? ⟨w.heap.size+1,1,none⟩=some (.bool mb)∧W.cell? ⟨w.heap.size+1,2,none⟩=some (.int .u64 nb)∧W.cell? ⟨w.heap.size+1,3,none⟩=some (.int .i64 pb):=by
 refine ⟨?_,?_,?_,?_,?_,?_,?_,?_⟩
 · refine (h.cell (p:=⟨w.heap.size,0,none⟩) (by simp only [sz1];omega)).trans ?_
   rw [cin _ _ _ (by simp only [sz1];omega)]
   exact World.cell?_alloc_new _ _ _ _
 · refine (h.cell (p:=⟨w.heap.size,1,none⟩) (by simp only [sz1];omega)).trans ?_
   rw [cin _ _ _ (by simp only [sz1];omega)]
   exact World.cell?_alloc_new _ _ _ _
 · refine (h.cell (p:=⟨w.heap.size,2,none⟩) (by simp only [sz1];omega)).trans ?_
   rw [cin _ _ _ (by simp only [sz1];omega)]
   exact World.cell?_alloc_new _ _ _ _
 · refine (h.cell (p:=⟨w.heap.size,3,none⟩) (by simp only [sz1];omega)).trans ?_
   rw [cin _ _ _ (by simp only [sz1];omega)]
   exact World.cell?_alloc_new _ _ _ _
 · refine (h.cell (p:=⟨w.heap.size+1,0,none⟩) (by simp only [sz1];omega)).trans ?_
   rw [show w.heap.size+1=(w.alloc (oV sa ma na pa)).heap.size by simp only [sz1]]
   exact World.cell?_alloc_new _ _ _ _
 · refine (h.cell (p:=⟨w.heap.size+1,1,none⟩) (by simp only [sz1];omega)).trans ?_
   rw [show w.heap.size+1=(w.alloc (oV sa ma na pa)).heap.size by simp only [sz1]]
   exact World.cell?_alloc_new _ _ _ _
 · refine (h.cell (p:=⟨w.heap.size+1,2,none⟩) (by simp only [sz1];omega)).trans ?_
   rw [show w.heap.size+1=(w.alloc (oV sa ma na pa)).heap.size by simp only [sz1]]
   exact World.cell?_alloc_new _ _ _ _
 · refine (h.cell (p:=⟨w.heap.size+1,3,none⟩) (by simp only [sz1];omega)).trans ?_
   rw [show w.heap.size+1=(w.alloc (oV sa ma na pa)).heap.size by simp only [sz1]]
   exact World.cell?_alloc_new _ _ _ _
theorem bulkA :
   (∀ (ma mb:Bool) (na nb X Y:Nat) (pa pb:Int) (w:World),(na<16777216)→(nb<16777216)→(-149≤pa)→(pa≤104)→(-149≤pb)→(pb≤104)→(pb<pa)→(pa-pb=X)→(0=Y)→Calls Tryz.prog 116 #[.agg #[.int .u8 3,.bool ma,.int .u64 na,.int .i64 pa],.agg #[.int .u8 3,.bool mb,.int .u64 nb,.int .i64 pb]] w fun e w'=>e=.returned (.int .i64 (ag (na*2 ^ X) (nb*2 ^ Y)))∧Below w.heap.size w w') ∧
   (∀ (ma mb:Bool) (na nb X Y:Nat) (pa pb:Int) (w:World),(na<16777216)→(nb<16777216)→(-149≤pa)→(pa≤104)→(-149≤pb)→(pb≤104)→(¬ pb<pa)→(0=X)→(pb-pa=Y)→Calls Tryz.prog 116 #[.agg #[.int .u8 3,.bool ma,.int .u64 na,.int .i64 pa],.agg #[.int .u8 3,.bool mb,.int .u64 nb,.int .i64 pb]] w fun e w'=>e=.returned (.int .i64 (ag (na*2 ^ X) (nb*2 ^ Y)))∧Below w.heap.size w w'):=by
 refine ⟨?_,?_⟩
 all_goals intro ma mb na nb X Y pa pb w hna hnb h1 h2 h3 h4 ho hX hY
 all_goals (have hXl:X≤600:=by omega)
 all_goals (have hYl:Y≤600:=by omega)
 all_goals (have HXw:Hid (IntKind.i64.wrap (X:Int)=X):=by rw [Hid,IntKind.wrap_i64];omega)
 all_goals (have HYw:Hid (IntKind.i64.wrap (Y:Int)=Y):=by rw [Hid,IntKind.wrap_i64];omega)
 all_goals (have HPx:=up_pow na X 20 hna (by omega))
 all_goals (have HPy:=up_pow nb Y 20 hnb (by omega))
 have HZw:Hid (IntKind.i64.wrap 0=(Y:Int)):=by rw [Hid,←hY];rfl
 rotate_left
 have HZw:Hid (IntKind.i64.wrap 0=(X:Int)):=by rw [Hid,←hX];rfl
 rotate_left
 all_goals (have HB:Below ((w.alloc (oV 3 ma na pa)).alloc (oV 3 mb nb pb)).heap.size ((w.alloc (oV 3 ma na pa)).alloc (oV 3 mb nb pb)) ((w.alloc (oV 3 ma na pa)).alloc (oV 3 mb nb pb)):=Below.refl _ _)
 all_goals (have HW:Hid (Below w.heap.size w ((w.alloc (oV 3 ma na pa)).alloc (oV 3 mb nb pb))):=bel (bel (Below.refl _ _)))
 all_goals (have HA:=nv_nil ((w.alloc (oV 3 ma na pa)).alloc (oV 3 mb nb pb)))
 all_goals (have HQ:=nv_nil ((w.alloc (oV 3 ma na pa)).alloc (oV 3 mb nb pb)))
 clear hY
 rotate_left
 clear hX
 rotate_left
 all_goals (go_enter Tryz.func116,Tryz.ntmps116)
 all_goals (go_wp2)
 all_goals (
   go_region_held3 (fun w'=>w'.cell? ⟨w.heap.size,0,none⟩=some (.int .u8 3)∧w'.cell? ⟨w.heap.size,1,none⟩=some (.bool ma)∧w'.cell? ⟨w.heap.size,2,none⟩=some (.int .u64 (na:Nat))∧w'.cell? ⟨w.heap.size,3,none⟩=some (.int .i64 pa)∧w'.cell? ⟨w.heap.size+1,0,none⟩=some (.int .u8 3)∧w'.cell? ⟨w.heap.size+1,1,none⟩=some (.bool mb)∧w'.cell? ⟨w.heap.size+1,2,none⟩=some (.int .u64 (nb:Nat))∧w'.cell? ⟨w.heap.size+1,3,none⟩=some (.int .i64 pb)) ((refine gF ?_;(repeat (first|exact HB|exact Below.refl _ _|with_reducible first|refine bel ?_|refine Below.drew ?_|refine bt3 ?_));done)) (first
     |(go_at_call 107;with_reducible refine (nat_any na _ (by omega)).mono ?_;rintro e w1 ⟨⟨v1,rfl,hv1⟩,hb1⟩;replace HB:Below ((w.alloc (oV 3 ma na pa)).alloc (oV 3 mb nb pb)).heap.size ((w.alloc (oV 3 ma na pa)).alloc (oV 3 mb nb pb)) w1:=bt2 hb1 (by apply_rules [HB,Below.refl,bel,Below.drew,bt3]);replace HQ:=HQ.step (by apply_rules [Below.refl,bel,Below.drew,bt3]) hb1;replace HA:=hv1;clear hb1 hv1)
     |(go_at_call 107;with_reducible refine (nat_any nb _ (by omega)).mono ?_;rintro e w3 ⟨⟨v3,rfl,hv3⟩,hb3⟩;replace HB:Below ((w.alloc (oV 3 ma na pa)).alloc (oV 3 mb nb pb)).heap.size ((w.alloc (oV 3 ma na pa)).alloc (oV 3 mb nb pb)) w3:=bt2 hb3 (by apply_rules [HB,Below.refl,bel,Below.drew,bt3]);replace HA:=HA.step (by apply_rules [Below.refl,bel,Below.drew,bt3]) hb3;replace HQ:=hv3;clear hb3 hv3)
     |(go_at_call 130;(first|rw [HXw.out]|rw [HZw.out]);with_reducible refine (up_nv v1 na X _ (HA.on (by apply_rules [Below.refl,bel,Below.drew,bt3])) (by omega) (by omega)).mono ?_;rintro e w2 ⟨⟨v2,rfl,hv2⟩,hb2⟩;replace HB:Below ((w.alloc (oV 3 ma na pa)).alloc (oV 3 mb nb pb)).heap.size ((w.alloc (oV 3 ma na pa)).alloc (oV 3 mb nb pb)) w2:=bt2 hb2 (by apply_rules [HB,Below.refl,bel,Below.drew,bt3]);replace HQ:=HQ.step (by apply_rules [Below.refl,bel,Below.drew,bt3]) hb2;replace HA:=hv2;clear hb2 hv2)
     |(go_at_call 130;(first|rw [HYw.out]|rw [HZw.out]);with_reducible refine (up_nv v3 nb Y _ (HQ.on (by apply_rules [Below.refl,bel,Below.drew,bt3])) (by omega) (by omega)).mono ?_;rintro e w5 ⟨⟨v5,rfl,hv5⟩,hb5⟩;replace HB:Below ((w.alloc (oV 3 ma na pa)).alloc (oV 3 mb nb pb)).heap.size ((w.alloc (oV 3 ma na pa)).alloc (oV 3 mb nb pb)) w5:=bt2 hb5 (by apply_rules [HB,Below.refl,bel,Below.drew,bt3]);replace HA:=HA.step (by apply_rules [Below.refl,bel,Below.drew,bt3]) hb5;replace HQ:=hv5;clear hb5 hv5)
     |(go_at_call 135;with_reducible refine (against_nv v2 v5 _ _ 20 _ (HA.on (by apply_rules [Below.refl,bel,Below.drew,bt3])) (HQ.on (by apply_rules [Below.refl,bel,Below.drew,bt3])) HPx HPy (by omega)).mono ?_;rintro e wq ⟨rfl,kq,hq⟩;subst wq)))
 all_goals (all_goals go_wp2)
 all_goals (all_goals go_ret)
 all_goals (all_goals exact ⟨rfl,HW.out.trans ((show Below ((w.alloc (oV 3 ma na pa)).alloc (oV 3 mb nb pb)).heap.size ((w.alloc (oV 3 ma na pa)).alloc (oV 3 mb nb pb)) _ from by (repeat (first|exact HB|exact Below.refl _ _|with_reducible first|refine bel ?_|refine Below.drew ?_|refine bt3 ?_))).mono HW.out.size)⟩)
abbrev bulkL:=bulkA.1
abbrev bulkG:=bulkA.2
theorem isn2 (m:Bool) (w:World)  :
   Calls Tryz.prog 114 #[.agg #[.int .u8 2,.bool m,.int .u64 0,.int .i64 0]] w fun e w'=>e=.returned (.bool false)∧Below w.heap.size w w':=by
 go_enter Tryz.func114,Tryz.ntmps114
 go_wp2
 go_ret
 exact ⟨rfl,bel (Below.refl _ _)⟩
theorem isn3z (m:Bool) (p:Int) (w:World)  :
   Calls Tryz.prog 114 #[.agg #[.int .u8 3,.bool m,.int .u64 0,.int .i64 p]] w fun e w'=>e=.returned (.bool true)∧Below w.heap.size w w':=by
 go_enter Tryz.func114,Tryz.ntmps114
 go_wp2
 go_ret
 exact ⟨rfl,bel (Below.refl _ _)⟩
theorem isn3 (m:Bool) (n:Nat) (p:Int) (w:World) (g1:((n:Int) == 0)=false) :
   Calls Tryz.prog 114 #[.agg #[.int .u8 3,.bool m,.int .u64 n,.int .i64 p]] w fun e w'=>e=.returned (.bool false)∧Below w.heap.size w w':=by
 go_enter Tryz.func114,Tryz.ntmps114
 go_wp2
 go_ret
 exact ⟨rfl,bel (Below.refl _ _)⟩
theorem g1 {w W:World} {s:Int} {m:Bool} {n p:Int} (h:Below (w.alloc (oV s m n p)).heap.size (w.alloc (oV s m n p)) W) :
   W.cell? ⟨w.heap.size,0,none⟩=some (.int .u8 s)∧W.cell? ⟨w.heap.size,1,none⟩=some (.bool m)∧W.cell? ⟨w.heap.size,2,none⟩=some (.int .u64 n)∧W.cell? ⟨w.heap.size,3,none⟩=some (.int .i64 p):=by
 refine ⟨?_,?_,?_,?_⟩
 · exact (h.cell (p:=⟨w.heap.size,0,none⟩) (by simp only [sz1];omega)).trans (World.cell?_alloc_new _ _ _ _)
 · exact (h.cell (p:=⟨w.heap.size,1,none⟩) (by simp only [sz1];omega)).trans (World.cell?_alloc_new _ _ _ _)
 · exact (h.cell (p:=⟨w.heap.size,2,none⟩) (by simp only [sz1];omega)).trans (World.cell?_alloc_new _ _ _ _)
 · exact (h.cell (p:=⟨w.heap.size,3,none⟩) (by simp only [sz1];omega)).trans (World.cell?_alloc_new _ _ _ _)
theorem sg2t (w:World) :
   Calls Tryz.prog 115 #[.agg #[.int .u8 2,.bool true,.int .u64 0,.int .i64 0]] w fun e w'=>e=.returned (.int .i64 (-2))∧Below w.heap.size w w':=by
 have HB:Below (w.alloc (oV 2 true 0 0)).heap.size (w.alloc (oV 2 true 0 0)) (w.alloc (oV 2 true 0 0)):=Below.refl _ _
 have HW:Hid (Below w.heap.size w (w.alloc (oV 2 true 0 0))):=bel (Below.refl _ _)
 go_enter Tryz.func115,Tryz.ntmps115
 go_wp2_with (go_at_call 114;with_reducible refine (isn2 true _).mono ?_;rintro e w1 ⟨rfl,hb1⟩;replace HB:=bt2 hb1 HB;obtain ⟨c0,c1,c2,c3⟩:=g1 HB)
 go_ret
 exact ⟨rfl,HW.out.trans (HB.mono HW.out.size)⟩
theorem sg2f (w:World) :
   Calls Tryz.prog 115 #[.agg #[.int .u8 2,.bool false,.int .u64 0,.int .i64 0]] w fun e w'=>e=.returned (.int .i64 (2))∧Below w.heap.size w w':=by
 have HB:Below (w.alloc (oV 2 false 0 0)).heap.size (w.alloc (oV 2 false 0 0)) (w.alloc (oV 2 false 0 0)):=Below.refl _ _
 have HW:Hid (Below w.heap.size w (w.alloc (oV 2 false 0 0))):=bel (Below.refl _ _)
 go_enter Tryz.func115,Tryz.ntmps115
 go_wp2_with (go_at_call 114;with_reducible refine (isn2 false _).mono ?_;rintro e w1 ⟨rfl,hb1⟩;replace HB:=bt2 hb1 HB;obtain ⟨c0,c1,c2,c3⟩:=g1 HB)
 go_ret
 exact ⟨rfl,HW.out.trans (HB.mono HW.out.size)⟩
theorem sg3t (n:Nat) (p:Int) (g1':((n:Int) == 0)=false) (w:World) :
   Calls Tryz.prog 115 #[.agg #[.int .u8 3,.bool true,.int .u64 n,.int .i64 p]] w fun e w'=>e=.returned (.int .i64 (-1))∧Below w.heap.size w w':=by
 have HB:Below (w.alloc (oV 3 true n p)).heap.size (w.alloc (oV 3 true n p)) (w.alloc (oV 3 true n p)):=Below.refl _ _
 have HW:Hid (Below w.heap.size w (w.alloc (oV 3 true n p))):=bel (Below.refl _ _)
 go_enter Tryz.func115,Tryz.ntmps115
 go_wp2_with (go_at_call 114;with_reducible refine (isn3 true n p _ g1').mono ?_;rintro e w1 ⟨rfl,hb1⟩;replace HB:=bt2 hb1 HB;obtain ⟨c0,c1,c2,c3⟩:=g1 HB)
 go_ret
 exact ⟨rfl,HW.out.trans (HB.mono HW.out.size)⟩
theorem sg3f (n:Nat) (p:Int) (g1':((n:Int) == 0)=false) (w:World) :
   Calls Tryz.prog 115 #[.agg #[.int .u8 3,.bool false,.int .u64 n,.int .i64 p]] w fun e w'=>e=.returned (.int .i64 (1))∧Below w.heap.size w w':=by
 have HB:Below (w.alloc (oV 3 false n p)).heap.size (w.alloc (oV 3 false n p)) (w.alloc (oV 3 false n p)):=Below.refl _ _
 have HW:Hid (Below w.heap.size w (w.alloc (oV 3 false n p))):=bel (Below.refl _ _)
 go_enter Tryz.func115,Tryz.ntmps115
 go_wp2_with (go_at_call 114;with_reducible refine (isn3 false n p _ g1').mono ?_;rintro e w1 ⟨rfl,hb1⟩;replace HB:=bt2 hb1 HB;obtain ⟨c0,c1,c2,c3⟩:=g1 HB)
 go_ret
 exact ⟨rfl,HW.out.trans (HB.mono HW.out.size)⟩
theorem sg3z (m:Bool) (p:Int) (w:World) :
   Calls Tryz.prog 115 #[.agg #[.int .u8 3,.bool m,.int .u64 0,.int .i64 p]] w fun e w'=>e=.returned (.int .i64 (0))∧Below w.heap.size w w':=by
 have HB:Below (w.alloc (oV 3 m 0 p)).heap.size (w.alloc (oV 3 m 0 p)) (w.alloc (oV 3 m 0 p)):=Below.refl _ _
 have HW:Hid (Below w.heap.size w (w.alloc (oV 3 m 0 p))):=bel (Below.refl _ _)
 go_enter Tryz.func115,Tryz.ntmps115
 go_wp2_with (go_at_call 114;with_reducible refine (isn3z m p _).mono ?_;rintro e w1 ⟨rfl,hb1⟩;replace HB:=bt2 hb1 HB;obtain ⟨c0,c1,c2,c3⟩:=g1 HB)
 go_ret
 exact ⟨rfl,HW.out.trans (HB.mono HW.out.size)⟩
theorem rnd_nw (m:Bool) (v:Value) (x k:Nat) (P:Int) (w:World) (h:NatV w v x) (hx:x<2 ^ (32*k)) (hk:k≤100) (hP : -5000≤P) (hP2:P≤5000) :
   Calls Tryz.prog 105 #[.agg #[.int .i64 24,.int .i64 (-149),.int .i64 104],.bool m,v,.int .i64 P,.bool false] w fun e w'=>(∃ n p,e=.returned (hdV m n p)∧Fits n p (rg Ieee.single x P))∧Below w.heap.size w w':=by
 obtain ⟨ao,cap,zs,rfl,hc,hn',hval,hN,hW,hr⟩:=h
 have:=rnd_any m ao cap zs P w (by have:=len_pow hN hval k hx;omega) hr hW hN hP hP2
 rw [hval] at this
 exact this
theorem ofs_pos (x:Nat) (w:World) (hx:x<2147483648) :
   Calls Tryz.prog 92 #[.int .i32 x] w fun e w'=>e=.returned (.int .u32 (wrd false (min (rg Ieee.single x 0) 2139095040):Nat))∧Below w.heap.size w w':=by
 have HB:Below w.heap.size w w:=Below.refl _ _
 have hxI:(0:Int)≤(x:Int):=by omega
 have HX:Hid (x<2 ^ (32*2)):=Nat.lt_of_lt_of_le hx (by decide)
 go_enter Tryz.func92,Tryz.ntmps92
 go_wp2_with (first
   |(go_at_call 106;refine (form_any _).mono ?_;rintro e wq ⟨rfl,hq⟩;subst wq)
   |(go_at_call 107;with_reducible refine (nat_any x _ (by omega)).mono ?_;rintro e w1 ⟨⟨v1,rfl,hv1⟩,h1⟩;replace HB:Below w.heap.size w w1:=bt2 h1 (by apply_rules [HB,Below.refl,bel,Below.drew,bt3]))
   |(go_at_call 105;with_reducible refine (rnd_nw false v1 x 2 0 _ hv1 HX.out (by omega) (by omega) (by omega)).mono ?_;rintro e w2 ⟨⟨n9,p9,rfl,hf9⟩,h2⟩;replace HB:Below w.heap.size w w2:=bt2 h2 (by apply_rules [HB,Below.refl,bel,Below.drew,bt3]))
   |(go_at_call 104;with_reducible refine (lay_any false n9 p9 _ _ hf9).mono ?_;rintro e w3 ⟨rfl,h3⟩;replace HB:Below w.heap.size w w3:=bt2 h3 (by apply_rules [HB,Below.refl,bel,Below.drew,bt3])))
 go_ret
 exact ⟨rfl,HB⟩
theorem ofs_neg (x:Nat) (y:Int) (w:World) (hx:x≤2147483648) (h0:0<x) (hy:y = -(x:Int)) :
   Calls Tryz.prog 92 #[.int .i32 y] w fun e w'=>e=.returned (.int .u32 (wrd true (min (rg Ieee.single x 0) 2139095040):Nat))∧Below w.heap.size w w':=by
 have HB:Below w.heap.size w w:=Below.refl _ _
 have hyn:y<0:=by omega
 have hym : -y=(x:Int):=by omega
 have hyl : -2147483648≤y:=by omega
 have HX:Hid (x<2 ^ (32*2)):=Nat.lt_of_le_of_lt hx (by decide)
 clear hy
 go_enter Tryz.func92,Tryz.ntmps92
 go_wp2_with (first
   |(go_at_call 106;refine (form_any _).mono ?_;rintro e wq ⟨rfl,hq⟩;subst wq)
   |(go_at_call 107;with_reducible refine (nat_any x _ (by omega)).mono ?_;rintro e w1 ⟨⟨v1,rfl,hv1⟩,h1⟩;replace HB:Below w.heap.size w w1:=bt2 h1 (by apply_rules [HB,Below.refl,bel,Below.drew,bt3]))
   |(go_at_call 105;with_reducible refine (rnd_nw true v1 x 2 0 _ hv1 HX.out (by omega) (by omega) (by omega)).mono ?_;rintro e w2 ⟨⟨n9,p9,rfl,hf9⟩,h2⟩;replace HB:Below w.heap.size w w2:=bt2 h2 (by apply_rules [HB,Below.refl,bel,Below.drew,bt3]))
   |(go_at_call 104;with_reducible refine (lay_any true n9 p9 _ _ hf9).mono ?_;rintro e w3 ⟨rfl,h3⟩;replace HB:Below w.heap.size w w3:=bt2 h3 (by apply_rules [HB,Below.refl,bel,Below.drew,bt3])))
 go_ret
 exact ⟨rfl,HB⟩
theorem fof_wrd (n:Int):fof n=wrd (decide (n<0)) (min (rg Ieee.single n.natAbs 0) 2139095040):=by
 unfold fof
 rw [nearest_word,word_wrd _ _ (by omega)]
theorem ofs_any (n:Int) (w:World) (h1 : -2147483648≤n) (h2:n≤2147483647) :
   Calls Tryz.prog 92 #[.int .i32 n] w fun e w'=>e=.returned (.int .u32 (fof n))∧Below w.heap.size w w':=by
 rw [fof_wrd]
 by_cases h:n<0
 · rw [decide_eq_true h]
   exact ofs_neg n.natAbs n w (by omega) (by omega) (by omega)
 · obtain ⟨x,rfl⟩:∃ x:Nat,n=x:=⟨n.toNat,by omega⟩
   rw [decide_eq_false h]
   exact ofs_pos x w (by omega)
end Go.Proofs.YtibhlcfligfhdaaGreat
