import Derived.Test.YtibhlcfligfhdaaGreatCABRb
import Derived.Test.YtibhlcfligfhdaaGreatCSRnD2
namespace Go.Proofs.YtibhlcfligfhdaaGreat
set_option maxHeartbeats 40000000
open Go.RowKit
set_option maxRecDepth 100000
theorem pr_ff (ma mb mm:Bool) (hmm:(!(ma == mb))=mm) (na nb:Nat) (pa pb p:Int) (w:World) (hna:na<16777216) (hnb:nb<16777216) (h1 : -149≤pa) (h2:pa≤104) (h3 : -149≤pb) (h4:pb≤104) (hp:pa+pb=p) :
   Calls Tryz.prog 140 #[.agg #[.int .i64 24,.int .i64 (-149),.int .i64 104],.agg #[.int .u8 3,.bool ma,.int .u64 na,.int .i64 pa],.agg #[.int .u8 3,.bool mb,.int .u64 nb,.int .i64 pb]] w fun e w'=>(∃ n q,e=.returned (hdV mm n q)∧Fits n q (rg Ieee.single (na*nb) p))∧Below w.heap.size w w':=by
 have HPw:Hid (IntKind.i64.wrap (pa+pb)=p):=by rw [Hid,IntKind.wrap_i64];omega
 have HPw2:Hid (IntKind.i64.wrap p=p):=by rw [Hid,IntKind.wrap_i64];omega
 have HM:Hid (na*nb<2 ^ (32*(2+2))):=mul_pow_lt (k:=2) (j:=2) (Nat.lt_of_lt_of_le hna (by decide)) (Nat.lt_of_lt_of_le hnb (by decide))
 have hpl : -5000≤p:=by omega
 have hpg:p≤5000:=by omega
 have HB:Below ((((w.alloc ob).alloc (oV 3 ma na pa)).alloc (oV 3 mb nb pb)).alloc oz).heap.size ((((w.alloc ob).alloc (oV 3 ma na pa)).alloc (oV 3 mb nb pb)).alloc oz) ((((w.alloc ob).alloc (oV 3 ma na pa)).alloc (oV 3 mb nb pb)).alloc oz):=Below.refl _ _
 have HA:=nv_nil ((((w.alloc ob).alloc (oV 3 ma na pa)).alloc (oV 3 mb nb pb)).alloc oz)
 have HQ:=nv_nil ((((w.alloc ob).alloc (oV 3 ma na pa)).alloc (oV 3 mb nb pb)).alloc oz)
 go_enter Tryz.func140,Tryz.ntmps140
 go_wp2
 go_region_held3 (fun w'=>w'.cell? ⟨w.heap.size,0,none⟩=some (.int .i64 24)∧w'.cell? ⟨w.heap.size,1,none⟩=some (.int .i64 (-149))∧w'.cell? ⟨w.heap.size,2,none⟩=some (.int .i64 104)∧w'.cell? ⟨w.heap.size+1,0,none⟩=some (.int .u8 3)∧w'.cell? ⟨w.heap.size+1,1,none⟩=some (.bool ma)∧w'.cell? ⟨w.heap.size+1,2,none⟩=some (.int .u64 (na:Nat))∧w'.cell? ⟨w.heap.size+1,3,none⟩=some (.int .i64 pa)∧w'.cell? ⟨w.heap.size+1+1,0,none⟩=some (.int .u8 3)∧w'.cell? ⟨w.heap.size+1+1,1,none⟩=some (.bool mb)∧w'.cell? ⟨w.heap.size+1+1,2,none⟩=some (.int .u64 (nb:Nat))∧w'.cell? ⟨w.heap.size+1+1,3,none⟩=some (.int .i64 pb)) ((first|((try dsimp only);with_reducible refine jS ?_;(repeat (first|exact HB|exact Below.refl _ _|with_reducible first|refine bel ?_|refine Below.drew ?_|refine bt3 ?_));done)|(refine jF ?_;(repeat (first|exact HB|exact Below.refl _ _|with_reducible first|refine bel ?_|refine Below.drew ?_|refine bt3 ?_));done))) (first
   |(go_at_call 107;with_reducible refine (nat_any na _ (by omega)).mono ?_;rintro e w1 ⟨⟨v1,rfl,hv1⟩,hb1⟩;replace HB:Below ((((w.alloc ob).alloc (oV 3 ma na pa)).alloc (oV 3 mb nb pb)).alloc oz).heap.size ((((w.alloc ob).alloc (oV 3 ma na pa)).alloc (oV 3 mb nb pb)).alloc oz) w1:=bt2 hb1 (by apply_rules [HB,Below.refl,bel,Below.drew,bt3]);replace HQ:=HQ.step (by apply_rules [Below.refl,bel,Below.drew,bt3]) hb1;replace HA:=hv1;clear hb1 hv1)
   |(go_at_call 107;with_reducible refine (nat_any nb _ (by omega)).mono ?_;rintro e w3 ⟨⟨v3,rfl,hv3⟩,hb3⟩;replace HB:Below ((((w.alloc ob).alloc (oV 3 ma na pa)).alloc (oV 3 mb nb pb)).alloc oz).heap.size ((((w.alloc ob).alloc (oV 3 ma na pa)).alloc (oV 3 mb nb pb)).alloc oz) w3:=bt2 hb3 (by apply_rules [HB,Below.refl,bel,Below.drew,bt3]);replace HA:=HA.step (by apply_rules [Below.refl,bel,Below.drew,bt3]) hb3;replace HQ:=hv3;clear hb3 hv3)
   |(go_at_call 148;with_reducible refine (times_nv v1 v3 na nb _ (HA.on (by apply_rules [Below.refl,bel,Below.drew,bt3])) (HQ.on (by apply_rules [Below.refl,bel,Below.drew,bt3])) (by omega) (by omega)).mono ?_;rintro e w5 ⟨⟨v5,rfl,hv5⟩,hb5⟩;replace HB:Below ((((w.alloc ob).alloc (oV 3 ma na pa)).alloc (oV 3 mb nb pb)).alloc oz).heap.size ((((w.alloc ob).alloc (oV 3 ma na pa)).alloc (oV 3 mb nb pb)).alloc oz) w5:=bt2 hb5 (by apply_rules [HB,Below.refl,bel,Below.drew,bt3]);replace HQ:=HQ.step (by apply_rules [Below.refl,bel,Below.drew,bt3]) hb5;replace HA:=hv5;clear hb5 hv5)
   |(go_at_call 105;(first|rw [HPw.out]|rw [HPw2.out]);with_reducible refine (rnd_nv mm v5 (na*nb) (2+2) p _ (HA.on (by apply_rules [Below.refl,bel,Below.drew,bt3])) HM.out (by omega) hpl hpg).mono ?_;rintro e w9 ⟨⟨n9,p9,rfl,hf9⟩,hb9⟩;rw [hdV_agg];replace HB:Below ((((w.alloc ob).alloc (oV 3 ma na pa)).alloc (oV 3 mb nb pb)).alloc oz).heap.size ((((w.alloc ob).alloc (oV 3 ma na pa)).alloc (oV 3 mb nb pb)).alloc oz) w9:=bt2 hb9 (by apply_rules [HB,Below.refl,bel,Below.drew,bt3]);replace HQ:=HQ.step (by apply_rules [Below.refl,bel,Below.drew,bt3]) hb9;obtain ⟨r0,r1,r2,r3,q0,q1,q2,q3⟩:=jA HB))
 all_goals go_wp2
 all_goals refine bodyPost_ret (v:=.agg #[.int .u8 (vS p9),.bool mm,.int .u64 (vM n9 p9),.int .i64 (vP p9)]) (by simp [results,Tryz.f140,go_sem,r0,r1,r2,r3]) rfl ?_
 all_goals exact ⟨⟨n9,p9,by rw [hdV_agg],hf9⟩,jB HB⟩
theorem fmul_rd (a b:Nat) (fa:a % 2147483648<2139095040) (fb:b % 2147483648<2139095040) :
   fmul a b=Ieee.single.word (sn a ^^ sn b) (min (rg Ieee.single (rdm a*rdm b) (-149+(rdk a:Int)+(-149+(rdk b:Int)))) 2139095040):=by
 have h0:Ieee.single.mul a b=((Ieee.single.read a).product (Ieee.single.read b)).map Ieee.single.write:=rfl
 rw [read_rd a fa,read_rd b fb] at h0
 simp only [Ieee.Datum.product,Option.map_some] at h0
 unfold fmul
 rw [h0,nearest_word]
 rfl
theorem xor_ne (m n:Bool):(m ^^ n) = !(m == n):=by cases m <;> cases n <;> rfl
theorem fmul_ii {a b:Nat} (hi:a % 2147483648=2139095040) (hj:b % 2147483648=2139095040):fmul a b=Ieee.single.word (sn a ^^ sn b) 2139095040:=by
 have h0:Ieee.single.mul a b=((Ieee.single.read a).product (Ieee.single.read b)).map Ieee.single.write:=rfl
 rw [inf_read hi,inf_read hj] at h0
 unfold fmul
 rw [h0]
 rfl
theorem fmul_if {a b:Nat} (hi:a % 2147483648=2139095040) (hf:b % 2147483648<2139095040):fmul a b=if rdm b=0 then 2143289344 else Ieee.single.word (sn a ^^ sn b) 2139095040:=by
 have h0:Ieee.single.mul a b=((Ieee.single.read a).product (Ieee.single.read b)).map Ieee.single.write:=rfl
 rw [inf_read hi,read_rd b hf] at h0
 unfold fmul
 rw [h0]
 simp only [Ieee.Datum.product]
 split <;> rfl
theorem fmul_fi {a b:Nat} (hi:b % 2147483648=2139095040) (hf:a % 2147483648<2139095040):fmul a b=if rdm a=0 then 2143289344 else Ieee.single.word (sn a ^^ sn b) 2139095040:=by
 have h0:Ieee.single.mul a b=((Ieee.single.read a).product (Ieee.single.read b)).map Ieee.single.write:=rfl
 rw [inf_read hi,read_rd a hf] at h0
 unfold fmul
 rw [h0]
 simp only [Ieee.Datum.product]
 split
 · rfl
 · rw [Bool.xor_comm];rfl
theorem layV_end (m:Bool) (x:Nat) (h:x=wrd m 2139095040):LayV (vE m) x:=fun w=>by
 have:=lay_endless m w
 rw [h];exact this
theorem prodv_any (a b:Nat) (w:World) (ha:a<4294967296) (hb:b<4294967296) :
   Calls Tryz.prog 140 #[.agg #[.int .i64 24,.int .i64 (-149),.int .i64 104],tv a,tv b] w fun e w'=>(∃ v,e=.returned v∧LayV v (fmul a b))∧Below w.heap.size w w':=by
 have hx:(sn a ^^ sn b) = !(sg a == sg b):=by rw [xor_ne,sg_sn a ha,sg_sn b hb]
 rcases ok_cases a with ca|ca|ca
 · rw [tv_none ca,fmul_nan (Or.inl ca)]
   rcases ok_cases b with cb|cb|cb
   · rw [tv_none cb];exact (pr_n1 _ _ _ _ w).mono fun e w' ⟨he,h⟩=>⟨⟨_,he,layV_none⟩,h⟩
   · rw [tv_inf cb];exact (pr_n1 _ _ _ _ w).mono fun e w' ⟨he,h⟩=>⟨⟨_,he,layV_none⟩,h⟩
   · rw [tv_fin cb];exact (pr_n1 _ _ _ _ w).mono fun e w' ⟨he,h⟩=>⟨⟨_,he,layV_none⟩,h⟩
 · rw [tv_inf ca]
   rcases ok_cases b with cb|cb|cb
   · rw [tv_none cb,fmul_nan (Or.inr cb)];exact (pr_n2 2 _ _ _ rfl w).mono fun e w' ⟨he,h⟩=>⟨⟨_,he,layV_none⟩,h⟩
   · rw [tv_inf cb]
     have hf:=fmul_ii ca cb
     rw [hx,word_wrd _ _ (by decide)] at hf
     exact (pr_ee _ _ _ rfl w).mono fun e w' ⟨he,h⟩=>⟨⟨_,he,layV_end _ _ hf⟩,h⟩
   · rw [tv_fin cb]
     have hf:=fmul_if ca cb
     by_cases hz:rdm b=0
     · rw [if_pos hz] at hf
       rw [hf,hz]
       exact (pr_ez _ _ _ w).mono fun e w' ⟨he,h⟩=>⟨⟨_,he,layV_none⟩,h⟩
     · rw [if_neg hz,hx,word_wrd _ _ (by decide)] at hf
       exact (pr_ef _ _ _ rfl _ _ (by rw [beq_eq_false_iff_ne];omega) w).mono fun e w' ⟨he,h⟩=>⟨⟨_,he,layV_end _ _ hf⟩,h⟩
 · rcases ok_cases b with cb|cb|cb
   · rw [tv_fin ca,tv_none cb,fmul_nan (Or.inr cb)];exact (pr_n2 3 _ _ _ rfl w).mono fun e w' ⟨he,h⟩=>⟨⟨_,he,layV_none⟩,h⟩
   · rw [tv_fin ca,tv_inf cb]
     have hf:=fmul_fi cb ca
     by_cases hz:rdm a=0
     · rw [if_pos hz] at hf
       rw [hf,hz]
       exact (pr_ze _ _ _ w).mono fun e w' ⟨he,h⟩=>⟨⟨_,he,layV_none⟩,h⟩
     · rw [if_neg hz,hx,word_wrd _ _ (by decide)] at hf
       exact (pr_fe _ _ _ rfl _ _ (by rw [beq_eq_false_iff_ne];omega) w).mono fun e w' ⟨he,h⟩=>⟨⟨_,he,layV_end _ _ hf⟩,h⟩
   · rw [tv_fin ca,tv_fin cb]
     obtain ⟨ka,na⟩:=rd_k ca
     obtain ⟨kb,nb⟩:=rd_k cb
     have hf:=fmul_rd a b ca cb
     rw [hx,word_wrd _ _ (by omega)] at hf
     exact (pr_ff _ _ _ rfl _ _ _ _ _ w na nb (by omega) (by omega) (by omega) (by omega) rfl).mono fun e w' ⟨⟨n,q,he,hq⟩,hbl⟩=>⟨⟨_,he,layV_fit hq hf⟩,hbl⟩
theorem products_any (a b:Nat) (w:World) (ha:a<4294967296) (hb:b<4294967296) :
   Calls Tryz.prog 112 #[.int .u32 a,.int .u32 b] w fun e w'=>e=.returned (.int .u32 (fmul a b))∧Below w.heap.size w w':=by
 have HB:Below w.heap.size w w:=Below.refl _ _
 go_enter Tryz.func112,Tryz.ntmps112
 go_wp2_with (first
   |(go_at_call 106;refine (form_any _).mono ?_;rintro e wq ⟨rfl,hq⟩;subst wq)
   |(go_at_call 100;with_reducible refine (take_any a _ ha).mono ?_;rintro e w1 ⟨rfl,h1⟩;replace HB:Below w.heap.size w w1:=bt2 h1 (by apply_rules [HB,Below.refl,bel,Below.drew,bt3]))
   |(go_at_call 100;with_reducible refine (take_any b _ hb).mono ?_;rintro e w1 ⟨rfl,h1⟩;replace HB:Below w.heap.size w w1:=bt2 h1 (by apply_rules [HB,Below.refl,bel,Below.drew,bt3]))
   |(go_at_call 140;with_reducible refine (prodv_any a b _ ha hb).mono ?_;rintro e w2 ⟨⟨v,rfl,hv⟩,h2⟩;replace HB:Below w.heap.size w w2:=bt2 h2 (by apply_rules [HB,Below.refl,bel,Below.drew,bt3]))
   |(go_at_call 104;with_reducible refine (layAt hv _).mono ?_;rintro e w3 ⟨rfl,h3⟩;replace HB:Below w.heap.size w w3:=bt2 h3 (by apply_rules [HB,Below.refl,bel,Below.drew,bt3])))
 go_ret
 exact ⟨rfl,HB⟩
theorem dbl_lt {x k:Nat} (h:x<2 ^ (32*k)):x*2<2 ^ (32*(k+1)):=by
 have h1:2 ^ (32*k)*2≤2 ^ (32*(k+1)):=by
   rw [←Nat.pow_succ];exact Nat.pow_le_pow_right (by decide) (by omega)
 omega
theorem nn_lt {x NN k:Nat} (h:x*2+1=NN) (hx:x<2 ^ (32*k)):NN<2 ^ (32*(k+1)):=by
 have h1:2 ^ (32*k)*2≤2 ^ (32*(k+1)):=by
   rw [←Nat.pow_succ];exact Nat.pow_le_pow_right (by decide) (by omega)
 omega
theorem one_lt (k:Nat) (h:0<k):1<2 ^ (32*k):=Nat.one_lt_two_pow (by omega)
theorem lenz {zs:List Nat} (_:Norm zs) (h:nv zs≠0):((zs.length:Int) == 0)=false:=by
 rw [beq_eq_false_iff_ne]
 intro e
 have:zs.length=0:=by omega
 rw [List.length_eq_zero_iff.1 this] at h
 exact h rfl
theorem up_1 (v:Value) (x k:Nat) (w:World) (h:NatV w v x) (hx:x<2 ^ (32*k)) (hk:k≤1000) :
   Calls Tryz.prog 130 #[v,.int .i64 1] w fun e w'=>(∃ v',e=.returned v'∧NatV w' v' (x*2))∧Below w.heap.size w w':=by
 obtain ⟨ao,cap,zs,rfl,hc,hn',hval,hN,hW,hr⟩:=h
 have:=up_any ao cap zs 1 w (by have:=len_pow hN hval k hx;omega) (by omega) hr hW
 rw [hval] at this
 exact this
theorem size_nv (v:Value) (x k:Nat) (w:World) (h:NatV w v x) (hx:x<2 ^ (32*k)) (hk:k≤1000) :
   Calls Tryz.prog 132 #[v] w fun e w'=>e=.returned (.int .i64 (nbits x))∧w'=w:=by
 obtain ⟨ao,cap,zs,rfl,hc,hn',hval,hN,hW,hr⟩:=h
 have:=size_any ao cap zs w (by have:=len_pow hN hval k hx;omega) hr hW hN
 rw [hval] at this
 exact this
theorem bit_nv (v:Value) (x k n:Nat) (w:World) (h:NatV w v x) (hx:x<2 ^ (32*k)) (hk:k≤1000) (hn:n≤1000000) :
   Calls Tryz.prog 137 #[v,.int .i64 n] w fun e w'=>e=.returned (.bool (x / 2 ^ n % 2 == 1))∧w'=w:=by
 obtain ⟨ao,cap,zs,rfl,hc,hn',hval,hN,hW,hr⟩:=h
 have:=bit_any ao cap zs n w (by have:=len_pow hN hval k hx;omega) hn hr hW
 rw [hval] at this
 exact this
theorem less_nv (v u:Value) (x y k:Nat) (w:World) (h:NatV w v x) (h':NatV w u y) (hx:x<2 ^ (32*k)) (hk:k≤1000) (hle:y≤x) :
   Calls Tryz.prog 134 #[v,u] w fun e w'=>(∃ v',e=.returned v'∧NatV w' v' (x-y))∧Below w.heap.size w w':=by
 obtain ⟨ao,cap,zs,rfl,hc,hn',hval,hN,hW,hr⟩:=h
 obtain ⟨ao2,cap2,zs2,rfl,hc2,hn2,hval2,hN2,hW2,hr2⟩:=h'
 have hl2:zs2.length≤zs.length:=by
   have h1:nv zs2<4294967296 ^ zs.length:=by rw [hval2];exact Nat.lt_of_le_of_lt hle (by rw [←hval];exact nv_lt hW)
   exact norm_len hN2 zs.length h1
 have:=less_any ao ao2 cap cap2 zs zs2 w (by have:=len_pow hN hval k hx;omega) hl2 (by rw [hval,hval2];exact hle) hr hr2 hW hW2
 rw [hval,hval2] at this
 exact this
theorem NatV.len0 {w:World} {v:Value} {x:Nat} (h:NatV w v x):∃ ao l cap,v=.slice ao l cap∧(decide (0<l)=decide (0<x)):=by
 obtain ⟨ao,cap,zs,rfl,hc,hn',hval,hN,hW,hr⟩:=h
 refine ⟨ao,zs.length,cap,rfl,?_⟩
 rw [decide_eq_decide]
 constructor
 · intro h
   rcases hN with h0|h0
   · omega
   · apply Nat.pos_of_ne_zero
     intro hx
     rw [←hval] at hx
     have:=norm_len (zs:=zs) (Or.inr h0) 0 (by rw [hx];decide)
     omega
 · intro h
   apply Nat.pos_of_ne_zero
   intro h0
   rw [List.length_eq_zero_iff.1 h0] at hval
   simp [nv] at hval
   omega
theorem ov_step (V b i:Nat) (hb:0<b) :
   let t:=V / 2 ^ (i+1) % b*2+V / 2 ^ i % 2
   (b≤t→V / 2 ^ i / b=V / 2 ^ (i+1) / b*2+1∧V / 2 ^ i % b=t-b)∧(t<b→V / 2 ^ i / b=V / 2 ^ (i+1) / b*2∧V / 2 ^ i % b=t):=by
 intro t
 have e1:V / 2 ^ (i+1)=V / 2 ^ i / 2:=by rw [Nat.pow_succ,Nat.div_div_eq_div_mul]
 have ht:t=V / 2 ^ (i+1) % b*2+V / 2 ^ i % 2:=rfl
 clear_value t
 rw [e1] at ht ⊢
 generalize V / 2 ^ i=U at *
 have h1:=Nat.div_add_mod (U / 2) b
 have h2:=Nat.mod_lt (U / 2) hb
 have h3:=Nat.div_add_mod U 2
 generalize hq:U / 2 / b=q at *
 generalize hr:U / 2 % b=r at *
 have hU:U=b*(q*2)+t:=by
   rw [ht,←Nat.mul_assoc,←h3]
   omega
 have htl:t<2*b:=by omega
 clear h1 h2 h3 ht hq hr e1
 refine ⟨fun h=>?_,fun h=>?_⟩
 · have hU2:U=b*(q*2+1)+(t-b):=by rw [Nat.mul_add,Nat.mul_one];omega
   constructor
   · rw [hU2,Nat.mul_add_div hb,Nat.div_eq_of_lt (by omega),Nat.add_zero]
   · rw [hU2,Nat.mul_add_mod,Nat.mod_eq_of_lt (by omega)]
 · constructor
   · rw [hU,Nat.mul_add_div hb,Nat.div_eq_of_lt h,Nat.add_zero]
   · rw [hU,Nat.mul_add_mod,Nat.mod_eq_of_lt h]
theorem hid_of {p:Prop} (h:p):Hid p:=h
theorem over_nv (v u:Value) (V b k nb:Nat) (w:World) (h:NatV w v V) (h':NatV w u b) (hV:V<2 ^ (32*k)) (hbk:b<2 ^ (32*k)) (hk:k≤100) (hb:0<b) (hnb:nbits V=nb) (hnl:nb≤3200) :
   Calls Tryz.prog 149 #[v,u] w fun e w'=>(∃ v',e=.returned (.tuple #[v',.bool (decide (0<V % b))])∧NatV w' v' (V / b))∧Below w.heap.size w w':=by
 have HS:=fun w (h:NatV w v V)=>size_nv v V k w h hV (by omega)
 rw [hnb] at HS
 have HST:Hid (V<2 ^ nb):=by
   rw [Hid,←hnb]
   by_cases h0:V=0
   · subst h0;decide
   · exact (nb_bounds V h0).2.1
 clear hnb
 have hwr:wrap64 ((nb:Int)-1)=(nb:Int)-1:=by unfold wrap64;omega
 have HVL:Hid (V<2 ^ (32*k)):=hV
 have HBL0:Hid (b<2 ^ (32*k)):=hbk
 have HBL:Hid (b<2 ^ (32*(k+1))):=Nat.lt_of_lt_of_le hbk (Nat.pow_le_pow_right (by decide) (by omega))
 have HP:Hid (2 ^ (32*k)*4294967296=2 ^ (32*(k+1))):=by rw [Hid,Nat.mul_add,Nat.pow_add]
 have HK0:Hid (0<2 ^ (32*k)):=Nat.two_pow_pos _
 clear hV hbk
 go_enter Tryz.func149,Tryz.ntmps149
 go_wp2_with (go_at_call 132;with_reducible refine (HS _ h).mono ?_;rintro e wq ⟨rfl,hq⟩;subst wq)
 go_loopw [6,7,8] (fun rv ov iv wr=>∃ n:Nat,iv=.int .i64 ((n:Int)-1)∧n≤nb∧NatV wr rv (V / 2 ^ n % b)∧NatV wr ov (V / 2 ^ n / b)∧Below w.heap.size w wr)
   (fun _ _ iv _=>(intOf iv+1).toNat)
 case atStart=>
   have e0:V / 2 ^ nb=0:=Nat.div_eq_of_lt HST.out
   refine ⟨nb,by (first|rfl|rw [hwr]),Nat.le_refl _,?_,?_,Below.refl _ _⟩
   · rw [e0,Nat.zero_mod];exact nv_nil _
   · rw [e0,Nat.zero_div];exact nv_nil _
 case round=>
   obtain ⟨n,rfl,hn,HR,HO,HB⟩:=hrel
   rename World=>wr
   have HV:NatV wr v V:=h.on HB
   have HU:NatV wr u b:=h'.on HB
   cases n with
   | zero=>
     obtain ⟨ao,l,cap,rfl,hl⟩:=HR.len0
     rw [Nat.pow_zero,Nat.div_one] at hl HO
     clear HR HS
     go_wp2
     go_ret2
     exact ⟨⟨_,by rw [←hl];rfl,HO⟩,HB⟩
   | succ n=>
     have hst:=ov_step V b n hb
     obtain ⟨r,hr⟩:∃ r,V / 2 ^ (n+1) % b=r:=⟨_,rfl⟩
     obtain ⟨o,ho⟩:∃ o,V / 2 ^ (n+1) / b=o:=⟨_,rfl⟩
     have HRB:Hid (r<b):=by rw [Hid,←hr];exact Nat.mod_lt _ hb
     have HRL:Hid (r<2 ^ (32*k)):=Nat.lt_trans HRB.out HBL0.out
     have HOL:Hid (o<2 ^ (32*k)):=by rw [Hid,←ho];exact Nat.lt_of_le_of_lt (Nat.le_trans (Nat.div_le_self _ _) (Nat.div_le_self _ _)) HVL.out
     have HR2:Hid (r*2<2 ^ (32*(k+1))):=by rw [Hid,←HP.out];have:=HRL.out;omega
     have HO2:Hid (o*2<2 ^ (32*(k+1))):=by rw [Hid,←HP.out];have:=HOL.out;omega
     have HR3:Hid (r*2+1<2 ^ (32*(k+1))):=by rw [Hid,←HP.out];have:=HRL.out;have:=HK0.out;omega
     rw [hr] at HR
     rw [ho] at HO
     rw [hr,ho] at hst
     have HST2:=hst
     clear hst hr ho HST
     replace HST2:=hid_of HST2
     have hin:((n+1:Nat):Int)-1=(n:Int):=by omega
     rw [hin]
     clear hin HS
     have hn0:(0:Int)≤(n:Int):=by omega
     cases hbit:(V / 2 ^ n % 2 == 1) with
     | false=>
       have HBI:Hid (V / 2 ^ n % 2=0):=by rw [Hid];exact (Nat.mod_two_eq_zero_or_one _).resolve_right (by simpa using hbit)
       have HT:Hid (r*2<2 ^ (32*(k+1))):=HR2
       by_cases hge:b≤r*2
       · have HF:=HST2.out
         rw [HBI.out] at HF
         have HF2:=HF.1 hge
         have HFq:Hid (V / 2 ^ n / b=o*2+1):=HF2.1
         have HFr:Hid (V / 2 ^ n % b=r*2-b):=HF2.2
         have HGE:Hid (b≤r*2):=by rw [Hid];omega
         clear HF HF2 hge
         have hag:0≤ag (r*2) b:=by have:=HGE.out;unfold ag;split <;> (try split) <;> omega
         
         go_wp2_with (first
           |(go_at_call 130;with_reducible refine (up_1 u6 r k _ (HR.on (by apply_rules [Below.refl,bel,Below.drew,bt3])) HRL.out (by omega)).mono ?_;rintro e w1 ⟨⟨r1,rfl,hr1⟩,hb1⟩;replace HV:=HV.step (by apply_rules [Below.refl,bel,Below.drew,bt3]) hb1;replace HU:=HU.step (by apply_rules [Below.refl,bel,Below.drew,bt3]) hb1;replace HB:Below w.heap.size w w1:=bt2 hb1 (by apply_rules [HB,Below.refl,bel,Below.drew,bt3]);replace HO:=HO.step (by apply_rules [Below.refl,bel,Below.drew,bt3]) hb1;clear HR;clear hb1)
           |(go_at_call 137;with_reducible refine (bit_nv v V k n _ (HV.on (by apply_rules [Below.refl,bel,Below.drew,bt3])) HVL.out (by omega) (by omega)).mono ?_;rintro e wq ⟨rfl,hq⟩;subst wq)
           |(go_at_call 130;with_reducible refine (up_1 u7 o k _ (HO.on (by apply_rules [Below.refl,bel,Below.drew,bt3])) HOL.out (by omega)).mono ?_;rintro e w4 ⟨⟨o4,rfl,ho4⟩,hb4⟩;replace HV:=HV.step (by apply_rules [Below.refl,bel,Below.drew,bt3]) hb4;replace HU:=HU.step (by apply_rules [Below.refl,bel,Below.drew,bt3]) hb4;replace HB:Below w.heap.size w w4:=bt2 hb4 (by apply_rules [HB,Below.refl,bel,Below.drew,bt3]);replace hr1:=hr1.step (by apply_rules [Below.refl,bel,Below.drew,bt3]) hb4;clear HO;clear hb4)
           |(go_at_call 135;with_reducible refine (against_nv r1 u _ _ (k+1) _ (hr1.on (by apply_rules [Below.refl,bel,Below.drew,bt3])) (HU.on (by apply_rules [Below.refl,bel,Below.drew,bt3])) HT.out HBL.out (by omega)).mono ?_;rintro e wq ⟨rfl,mq,hq⟩;subst wq)
           |(go_at_call 134;with_reducible refine (less_nv r1 u _ _ (k+1) _ (hr1.on (by apply_rules [Below.refl,bel,Below.drew,bt3])) (HU.on (by apply_rules [Below.refl,bel,Below.drew,bt3])) HT.out (by omega) HGE.out).mono ?_;rintro e w5 ⟨⟨r5,rfl,hr5⟩,hb5⟩;replace HV:=HV.step (by apply_rules [Below.refl,bel,Below.drew,bt3]) hb5;replace HU:=HU.step (by apply_rules [Below.refl,bel,Below.drew,bt3]) hb5;replace HB:Below w.heap.size w w5:=bt2 hb5 (by apply_rules [HB,Below.refl,bel,Below.drew,bt3]);replace ho4:=ho4.step (by apply_rules [Below.refl,bel,Below.drew,bt3]) hb5;clear hr1;clear hb5)
           |(go_at_call 107;with_reducible refine (nat_1 _).mono ?_;rintro e w6 ⟨⟨n6,rfl,hn6⟩,hb6⟩;replace HV:=HV.step (by apply_rules [Below.refl,bel,Below.drew,bt3]) hb6;replace HU:=HU.step (by apply_rules [Below.refl,bel,Below.drew,bt3]) hb6;replace HB:Below w.heap.size w w6:=bt2 hb6 (by apply_rules [HB,Below.refl,bel,Below.drew,bt3]);replace ho4:=ho4.step (by apply_rules [Below.refl,bel,Below.drew,bt3]) hb6;replace hr5:=hr5.step (by apply_rules [Below.refl,bel,Below.drew,bt3]) hb6;clear hb6)
           |(go_at_call 129;with_reducible refine (plus_nv o4 n6 _ _ (k+1) _ (ho4.on (by apply_rules [Below.refl,bel,Below.drew,bt3])) (hn6.on (by apply_rules [Below.refl,bel,Below.drew,bt3])) HO2.out (one_lt (k+1) (by omega)) (by omega)).mono ?_;rintro e w7 ⟨⟨o7,rfl,ho7⟩,hb7⟩;replace HV:=HV.step (by apply_rules [Below.refl,bel,Below.drew,bt3]) hb7;replace HU:=HU.step (by apply_rules [Below.refl,bel,Below.drew,bt3]) hb7;replace HB:Below w.heap.size w w7:=bt2 hb7 (by apply_rules [HB,Below.refl,bel,Below.drew,bt3]);replace hr5:=hr5.step (by apply_rules [Below.refl,bel,Below.drew,bt3]) hb7;clear ho4 hn6;clear hb7))
         go_roundw
         case rel=>exact ⟨n,rfl,by omega,by rw [HFr.out];exact hr5.on (by apply_rules [Below.refl,bel,Below.drew,bt3]),by rw [HFq.out];exact ho7.on (by apply_rules [Below.refl,bel,Below.drew,bt3]),by (repeat (first|exact HB|exact Below.refl _ _|with_reducible first|refine bel ?_|refine Below.drew ?_|refine bt3 ?_))⟩
         case measure=>simp [intOf]
       · have HF:=HST2.out
         rw [HBI.out] at HF
         have HF2:=HF.2 (by omega)
         have HFq:Hid (V / 2 ^ n / b=o*2):=HF2.1
         have HFr:Hid (V / 2 ^ n % b=r*2):=HF2.2
         have HGE:Hid (r*2<b):=by rw [Hid];omega
         clear HF HF2 hge
         have hag:ag (r*2) b<0:=by have:=HGE.out;unfold ag;split <;> (try split) <;> omega
         have hag2:decide (0≤ag (r*2) b)=false:=decide_eq_false (by omega)
         go_wp2_with (first
           |(go_at_call 130;with_reducible refine (up_1 u6 r k _ (HR.on (by apply_rules [Below.refl,bel,Below.drew,bt3])) HRL.out (by omega)).mono ?_;rintro e w1 ⟨⟨r1,rfl,hr1⟩,hb1⟩;replace HV:=HV.step (by apply_rules [Below.refl,bel,Below.drew,bt3]) hb1;replace HU:=HU.step (by apply_rules [Below.refl,bel,Below.drew,bt3]) hb1;replace HB:Below w.heap.size w w1:=bt2 hb1 (by apply_rules [HB,Below.refl,bel,Below.drew,bt3]);replace HO:=HO.step (by apply_rules [Below.refl,bel,Below.drew,bt3]) hb1;clear HR;clear hb1)
           |(go_at_call 137;with_reducible refine (bit_nv v V k n _ (HV.on (by apply_rules [Below.refl,bel,Below.drew,bt3])) HVL.out (by omega) (by omega)).mono ?_;rintro e wq ⟨rfl,hq⟩;subst wq)
           |(go_at_call 130;with_reducible refine (up_1 u7 o k _ (HO.on (by apply_rules [Below.refl,bel,Below.drew,bt3])) HOL.out (by omega)).mono ?_;rintro e w4 ⟨⟨o4,rfl,ho4⟩,hb4⟩;replace HV:=HV.step (by apply_rules [Below.refl,bel,Below.drew,bt3]) hb4;replace HU:=HU.step (by apply_rules [Below.refl,bel,Below.drew,bt3]) hb4;replace HB:Below w.heap.size w w4:=bt2 hb4 (by apply_rules [HB,Below.refl,bel,Below.drew,bt3]);replace hr1:=hr1.step (by apply_rules [Below.refl,bel,Below.drew,bt3]) hb4;clear HO;clear hb4)
           |(go_at_call 135;with_reducible refine (against_nv r1 u _ _ (k+1) _ (hr1.on (by apply_rules [Below.refl,bel,Below.drew,bt3])) (HU.on (by apply_rules [Below.refl,bel,Below.drew,bt3])) HT.out HBL.out (by omega)).mono ?_;rintro e wq ⟨rfl,mq,hq⟩;subst wq))
         go_roundw
         case rel=>exact ⟨n,rfl,by omega,by rw [HFr.out];exact hr1.on (by apply_rules [Below.refl,bel,Below.drew,bt3]),by rw [HFq.out];exact ho4.on (by apply_rules [Below.refl,bel,Below.drew,bt3]),by (repeat (first|exact HB|exact Below.refl _ _|with_reducible first|refine bel ?_|refine Below.drew ?_|refine bt3 ?_))⟩
         case measure=>simp [intOf]
     | true=>
       have HBI:Hid (V / 2 ^ n % 2=1):=by rw [Hid];simpa using hbit
       have HT:Hid (r*2+1<2 ^ (32*(k+1))):=HR3
       by_cases hge:b≤r*2+1
       · have HF:=HST2.out
         rw [HBI.out] at HF
         have HF2:=HF.1 hge
         have HFq:Hid (V / 2 ^ n / b=o*2+1):=HF2.1
         have HFr:Hid (V / 2 ^ n % b=r*2+1-b):=HF2.2
         have HGE:Hid (b≤r*2+1):=by rw [Hid];omega
         clear HF HF2 hge
         have hag:0≤ag (r*2+1) b:=by have:=HGE.out;unfold ag;split <;> (try split) <;> omega
         
         go_wp2_with (first
           |(go_at_call 130;with_reducible refine (up_1 u6 r k _ (HR.on (by apply_rules [Below.refl,bel,Below.drew,bt3])) HRL.out (by omega)).mono ?_;rintro e w1 ⟨⟨r1,rfl,hr1⟩,hb1⟩;replace HV:=HV.step (by apply_rules [Below.refl,bel,Below.drew,bt3]) hb1;replace HU:=HU.step (by apply_rules [Below.refl,bel,Below.drew,bt3]) hb1;replace HB:Below w.heap.size w w1:=bt2 hb1 (by apply_rules [HB,Below.refl,bel,Below.drew,bt3]);replace HO:=HO.step (by apply_rules [Below.refl,bel,Below.drew,bt3]) hb1;clear HR;clear hb1)
           |(go_at_call 137;with_reducible refine (bit_nv v V k n _ (HV.on (by apply_rules [Below.refl,bel,Below.drew,bt3])) HVL.out (by omega) (by omega)).mono ?_;rintro e wq ⟨rfl,hq⟩;subst wq)
           |(go_at_call 107;with_reducible refine (nat_1 _).mono ?_;rintro e w6 ⟨⟨n6,rfl,hn6⟩,hb6⟩;replace HV:=HV.step (by apply_rules [Below.refl,bel,Below.drew,bt3]) hb6;replace HU:=HU.step (by apply_rules [Below.refl,bel,Below.drew,bt3]) hb6;replace HB:Below w.heap.size w w6:=bt2 hb6 (by apply_rules [HB,Below.refl,bel,Below.drew,bt3]);replace ho4:=ho4.step (by apply_rules [Below.refl,bel,Below.drew,bt3]) hb6;replace hr5:=hr5.step (by apply_rules [Below.refl,bel,Below.drew,bt3]) hb6;clear hb6)
           |(go_at_call 107;with_reducible refine (nat_1 _).mono ?_;rintro e w2 ⟨⟨n2,rfl,hn2⟩,hb2⟩;replace HV:=HV.step (by apply_rules [Below.refl,bel,Below.drew,bt3]) hb2;replace HU:=HU.step (by apply_rules [Below.refl,bel,Below.drew,bt3]) hb2;replace HB:Below w.heap.size w w2:=bt2 hb2 (by apply_rules [HB,Below.refl,bel,Below.drew,bt3]);replace HO:=HO.step (by apply_rules [Below.refl,bel,Below.drew,bt3]) hb2;replace hr1:=hr1.step (by apply_rules [Below.refl,bel,Below.drew,bt3]) hb2;clear hb2)
           |(go_at_call 129;with_reducible refine (plus_nv r1 n2 _ _ (k+1) _ (hr1.on (by apply_rules [Below.refl,bel,Below.drew,bt3])) (hn2.on (by apply_rules [Below.refl,bel,Below.drew,bt3])) HR2.out (one_lt (k+1) (by omega)) (by omega)).mono ?_;rintro e w3 ⟨⟨r3,rfl,hr3⟩,hb3⟩;replace HV:=HV.step (by apply_rules [Below.refl,bel,Below.drew,bt3]) hb3;replace HU:=HU.step (by apply_rules [Below.refl,bel,Below.drew,bt3]) hb3;replace HB:Below w.heap.size w w3:=bt2 hb3 (by apply_rules [HB,Below.refl,bel,Below.drew,bt3]);replace HO:=HO.step (by apply_rules [Below.refl,bel,Below.drew,bt3]) hb3;clear hr1 hn2;clear hb3)
           |(go_at_call 130;with_reducible refine (up_1 u7 o k _ (HO.on (by apply_rules [Below.refl,bel,Below.drew,bt3])) HOL.out (by omega)).mono ?_;rintro e w4 ⟨⟨o4,rfl,ho4⟩,hb4⟩;replace HV:=HV.step (by apply_rules [Below.refl,bel,Below.drew,bt3]) hb4;replace HU:=HU.step (by apply_rules [Below.refl,bel,Below.drew,bt3]) hb4;replace HB:Below w.heap.size w w4:=bt2 hb4 (by apply_rules [HB,Below.refl,bel,Below.drew,bt3]);replace hr3:=hr3.step (by apply_rules [Below.refl,bel,Below.drew,bt3]) hb4;clear HO;clear hb4)
           |(go_at_call 135;with_reducible refine (against_nv r3 u _ _ (k+1) _ (hr3.on (by apply_rules [Below.refl,bel,Below.drew,bt3])) (HU.on (by apply_rules [Below.refl,bel,Below.drew,bt3])) HT.out HBL.out (by omega)).mono ?_;rintro e wq ⟨rfl,mq,hq⟩;subst wq)
           |(go_at_call 134;with_reducible refine (less_nv r3 u _ _ (k+1) _ (hr3.on (by apply_rules [Below.refl,bel,Below.drew,bt3])) (HU.on (by apply_rules [Below.refl,bel,Below.drew,bt3])) HT.out (by omega) HGE.out).mono ?_;rintro e w5 ⟨⟨r5,rfl,hr5⟩,hb5⟩;replace HV:=HV.step (by apply_rules [Below.refl,bel,Below.drew,bt3]) hb5;replace HU:=HU.step (by apply_rules [Below.refl,bel,Below.drew,bt3]) hb5;replace HB:Below w.heap.size w w5:=bt2 hb5 (by apply_rules [HB,Below.refl,bel,Below.drew,bt3]);replace ho4:=ho4.step (by apply_rules [Below.refl,bel,Below.drew,bt3]) hb5;clear hr3;clear hb5)
           |(go_at_call 129;with_reducible refine (plus_nv o4 n6 _ _ (k+1) _ (ho4.on (by apply_rules [Below.refl,bel,Below.drew,bt3])) (hn6.on (by apply_rules [Below.refl,bel,Below.drew,bt3])) HO2.out (one_lt (k+1) (by omega)) (by omega)).mono ?_;rintro e w7 ⟨⟨o7,rfl,ho7⟩,hb7⟩;replace HV:=HV.step (by apply_rules [Below.refl,bel,Below.drew,bt3]) hb7;replace HU:=HU.step (by apply_rules [Below.refl,bel,Below.drew,bt3]) hb7;replace HB:Below w.heap.size w w7:=bt2 hb7 (by apply_rules [HB,Below.refl,bel,Below.drew,bt3]);replace hr5:=hr5.step (by apply_rules [Below.refl,bel,Below.drew,bt3]) hb7;clear ho4 hn6;clear hb7))
         go_roundw
         case rel=>exact ⟨n,rfl,by omega,by rw [HFr.out];exact hr5.on (by apply_rules [Below.refl,bel,Below.drew,bt3]),by rw [HFq.out];exact ho7.on (by apply_rules [Below.refl,bel,Below.drew,bt3]),by (repeat (first|exact HB|exact Below.refl _ _|with_reducible first|refine bel ?_|refine Below.drew ?_|refine bt3 ?_))⟩
         case measure=>simp [intOf]
       · have HF:=HST2.out
         rw [HBI.out] at HF
         have HF2:=HF.2 (by omega)
         have HFq:Hid (V / 2 ^ n / b=o*2):=HF2.1
         have HFr:Hid (V / 2 ^ n % b=r*2+1):=HF2.2
         have HGE:Hid (r*2+1<b):=by rw [Hid];omega
         clear HF HF2 hge
         have hag:ag (r*2+1) b<0:=by have:=HGE.out;unfold ag;split <;> (try split) <;> omega
         have hag2:decide (0≤ag (r*2+1) b)=false:=decide_eq_false (by omega)
         go_wp2_with (first
           |(go_at_call 130;with_reducible refine (up_1 u6 r k _ (HR.on (by apply_rules [Below.refl,bel,Below.drew,bt3])) HRL.out (by omega)).mono ?_;rintro e w1 ⟨⟨r1,rfl,hr1⟩,hb1⟩;replace HV:=HV.step (by apply_rules [Below.refl,bel,Below.drew,bt3]) hb1;replace HU:=HU.step (by apply_rules [Below.refl,bel,Below.drew,bt3]) hb1;replace HB:Below w.heap.size w w1:=bt2 hb1 (by apply_rules [HB,Below.refl,bel,Below.drew,bt3]);replace HO:=HO.step (by apply_rules [Below.refl,bel,Below.drew,bt3]) hb1;clear HR;clear hb1)
           |(go_at_call 137;with_reducible refine (bit_nv v V k n _ (HV.on (by apply_rules [Below.refl,bel,Below.drew,bt3])) HVL.out (by omega) (by omega)).mono ?_;rintro e wq ⟨rfl,hq⟩;subst wq)
           |(go_at_call 107;with_reducible refine (nat_1 _).mono ?_;rintro e w2 ⟨⟨n2,rfl,hn2⟩,hb2⟩;replace HV:=HV.step (by apply_rules [Below.refl,bel,Below.drew,bt3]) hb2;replace HU:=HU.step (by apply_rules [Below.refl,bel,Below.drew,bt3]) hb2;replace HB:Below w.heap.size w w2:=bt2 hb2 (by apply_rules [HB,Below.refl,bel,Below.drew,bt3]);replace HO:=HO.step (by apply_rules [Below.refl,bel,Below.drew,bt3]) hb2;replace hr1:=hr1.step (by apply_rules [Below.refl,bel,Below.drew,bt3]) hb2;clear hb2)
           |(go_at_call 129;with_reducible refine (plus_nv r1 n2 _ _ (k+1) _ (hr1.on (by apply_rules [Below.refl,bel,Below.drew,bt3])) (hn2.on (by apply_rules [Below.refl,bel,Below.drew,bt3])) HR2.out (one_lt (k+1) (by omega)) (by omega)).mono ?_;rintro e w3 ⟨⟨r3,rfl,hr3⟩,hb3⟩;replace HV:=HV.step (by apply_rules [Below.refl,bel,Below.drew,bt3]) hb3;replace HU:=HU.step (by apply_rules [Below.refl,bel,Below.drew,bt3]) hb3;replace HB:Below w.heap.size w w3:=bt2 hb3 (by apply_rules [HB,Below.refl,bel,Below.drew,bt3]);replace HO:=HO.step (by apply_rules [Below.refl,bel,Below.drew,bt3]) hb3;clear hr1 hn2;clear hb3)
           |(go_at_call 130;with_reducible refine (up_1 u7 o k _ (HO.on (by apply_rules [Below.refl,bel,Below.drew,bt3])) HOL.out (by omega)).mono ?_;rintro e w4 ⟨⟨o4,rfl,ho4⟩,hb4⟩;replace HV:=HV.step (by apply_rules [Below.refl,bel,Below.drew,bt3]) hb4;replace HU:=HU.step (by apply_rules [Below.refl,bel,Below.drew,bt3]) hb4;replace HB:Below w.heap.size w w4:=bt2 hb4 (by apply_rules [HB,Below.refl,bel,Below.drew,bt3]);replace hr3:=hr3.step (by apply_rules [Below.refl,bel,Below.drew,bt3]) hb4;clear HO;clear hb4)
           |(go_at_call 135;with_reducible refine (against_nv r3 u _ _ (k+1) _ (hr3.on (by apply_rules [Below.refl,bel,Below.drew,bt3])) (HU.on (by apply_rules [Below.refl,bel,Below.drew,bt3])) HT.out HBL.out (by omega)).mono ?_;rintro e wq ⟨rfl,mq,hq⟩;subst wq))
         go_roundw
         case rel=>exact ⟨n,rfl,by omega,by rw [HFr.out];exact hr3.on (by apply_rules [Below.refl,bel,Below.drew,bt3]),by rw [HFq.out];exact ho4.on (by apply_rules [Below.refl,bel,Below.drew,bt3]),by (repeat (first|exact HB|exact Below.refl _ _|with_reducible first|refine bel ?_|refine Below.drew ?_|refine bt3 ?_))⟩
         case measure=>simp [intOf]
theorem rne_mark (N d D n l m h:Nat) (hn:N / 2 ^ (d+1)=n) (hl:N % 2 ^ (d+1)=l) (hm:(l != 0).toNat=m) (hD:2≤D) (hh:2 ^ (D-2)=h) :
   rne (2*n+m) (2 ^ D)=rne N (2 ^ (D+d)):=by
 have hH:2 ^ (D-1)=2*h:=by rw [←hh,←Nat.pow_succ',show (D-2).succ=D-1 by omega]
 have hHD:2 ^ D=2*2 ^ (D-1):=by rw [←Nat.pow_succ',show (D-1).succ=D by omega]
 have hg:2 ^ (D+d)=2 ^ (d+1)*2 ^ (D-1):=by rw [←Nat.pow_add];congr 1;omega
 have hgp:=Nat.two_pow_pos (d+1)
 have hll:l<2 ^ (d+1):=by rw [←hl];exact Nat.mod_lt _ hgp
 have hm1:m≤1:=by rw [←hm];cases (l != 0) <;> decide
 have hml:l=0↔m=0:=by
   rw [←hm]
   by_cases e:l=0
   · simp [e]
   · simp [e]
 have q1:(2*n+m) / 2 ^ D=n / 2 ^ (D-1):=by rw [hHD,←Nat.div_div_eq_div_mul,show (2*n+m) / 2=n by omega]
 have q2:N / 2 ^ (D+d)=n / 2 ^ (D-1):=by rw [hg,←Nat.div_div_eq_div_mul,hn]
 have r1:(2*n+m) % 2 ^ D=2*(n % 2 ^ (D-1))+m:=by
   have a1:=Nat.div_add_mod (2*n+m) (2 ^ D)
   have a2:=Nat.div_add_mod n (2 ^ (D-1))
   rw [q1,hHD,Nat.mul_assoc] at a1
   rw [hHD]
   omega
 have r2:N % 2 ^ (D+d)=2 ^ (d+1)*(n % 2 ^ (D-1))+l:=by
   have a1:=Nat.div_add_mod N (2 ^ (D+d))
   have a2:=Nat.div_add_mod n (2 ^ (D-1))
   have a3:=Nat.div_add_mod N (2 ^ (d+1))
   rw [hn,hl] at a3
   rw [q2,hg,Nat.mul_assoc] at a1
   rw [hg]
   have a4:2 ^ (d+1)*n=2 ^ (d+1)*(2 ^ (D-1)*(n / 2 ^ (D-1)))+2 ^ (d+1)*(n % 2 ^ (D-1)):=by rw [←Nat.mul_add,a2]
   omega
 unfold rne
 rw [q1,q2,r1,r2]
 congr 1
 rw [hg,hHD,hH]
 generalize n % (2*h)=R
 generalize 2 ^ (d+1)=g at *
 have hc:g*(2*h)=2*(g*h):=Nat.mul_left_comm _ _ _
 have e1:(2*(2*h)<2*(2*R+m))↔(g*(2*h)<2*(g*R+l)):=by
   rcases Nat.lt_trichotomy h R with c|c|c
   · have:g*(h+1)≤g*R:=Nat.mul_le_mul_left _ c
     rw [Nat.mul_add,Nat.mul_one] at this
     rw [hc]
     exact ⟨fun _=>by omega,fun _=>by omega⟩
   · subst c
     rw [hc]
     omega
   · have:g*(R+1)≤g*h:=Nat.mul_le_mul_left _ c
     rw [Nat.mul_add,Nat.mul_one] at this
     rw [hc]
     exact ⟨fun _=>by omega,fun _=>by omega⟩
 have e2:(2*(2*h)=2*(2*R+m))↔(g*(2*h)=2*(g*R+l)):=by
   rcases Nat.lt_trichotomy h R with c|c|c
   · have:g*(h+1)≤g*R:=Nat.mul_le_mul_left _ c
     rw [Nat.mul_add,Nat.mul_one] at this
     rw [hc]
     exact ⟨fun _=>by omega,fun _=>by omega⟩
   · subst c
     rw [hc]
     omega
   · have:g*(R+1)≤g*h:=Nat.mul_le_mul_left _ c
     rw [Nat.mul_add,Nat.mul_one] at this
     rw [hc]
     exact ⟨fun _=>by omega,fun _=>by omega⟩
 simp only [e1,e2]
theorem nbits_eq {N k:Nat} (h1:2 ^ k≤N) (h2:N<2 ^ (k+1)):nbits N=k+1:=by
 have h0:N≠0:=by have:=Nat.two_pow_pos k;omega
 obtain ⟨b1,b2,b3⟩:=nb_bounds N h0
 have c1:=(Nat.pow_lt_pow_iff_right (a:=2) (by decide)).1 (Nat.lt_of_le_of_lt b1 h2)
 have c2:=(Nat.pow_lt_pow_iff_right (a:=2) (by decide)).1 (Nat.lt_of_le_of_lt h1 b2)
 omega
theorem rg_mark (N d n l:Nat) (P:Int) (hn:N / 2 ^ (d+1)=n) (hl:N % 2 ^ (d+1)=l) (hb:16777216≤n) :
   rg Ieee.single (2*n+(l != 0).toNat) (P+d)=rg Ieee.single N P:=by
 obtain ⟨m,hm⟩:∃ m,(l != 0).toNat=m:=⟨_,rfl⟩
 have hm1:m≤1:=by rw [←hm];cases (l != 0) <;> decide
 rw [hm]
 have hn0:n≠0:=by omega
 obtain ⟨b1,b2,b3⟩:=nb_bounds n hn0
 obtain ⟨k,hk⟩:∃ k,nbits n=k+1:=⟨nbits n-1,by omega⟩
 rw [hk,Nat.add_sub_cancel] at b1
 rw [hk] at b2
 have hk24:24≤k:=by
   have:2 ^ 24<2 ^ (k+1):=Nat.lt_of_le_of_lt (show 2 ^ 24≤n by omega) b2
   have:=(Nat.pow_lt_pow_iff_right (a:=2) (by decide)).1 this
   omega
 have n1:nbits (2*n+m)=k+2:=nbits_eq (by rw [Nat.pow_succ];omega) (by rw [Nat.pow_succ];omega)
 have hgp:=Nat.two_pow_pos (d+1)
 have hdm:=Nat.div_add_mod N (2 ^ (d+1))
 rw [hn,hl] at hdm
 have hll:l<2 ^ (d+1):=by rw [←hl];exact Nat.mod_lt _ hgp
 have n2:nbits N=k+(d+1)+1:=nbits_eq
   (by rw [Nat.pow_add,Nat.mul_comm,←hdm];exact Nat.le_trans (Nat.mul_le_mul_left _ b1) (Nat.le_add_right _ _))
   (by
     have h1:2 ^ (d+1)*(n+1)≤2 ^ (d+1)*2 ^ (k+1):=Nat.mul_le_mul_left _ b2
     rw [←Nat.pow_add,show d+1+(k+1)=k+(d+1)+1 by omega,Nat.mul_add,Nat.mul_one] at h1
     omega)
 obtain ⟨K,hK⟩:∃ K,max (P+nbits N-24) (-149)=K:=⟨_,rfl⟩
 obtain ⟨D,hD⟩:∃ D:Nat,K-(P+d)=D:=⟨(K-(P+d)).toNat,by rw [n2] at hK;omega⟩
 have hD2:2≤D:=by rw [n2] at hK;omega
 rw [rg_dn (2*n+m) (by omega) (P+d) K D (by rw [n1];rw [n2] at hK;omega) hD,rg_dn N (by intro h;subst h;simp at hn;omega) P K (D+d) hK (by omega)]
 rw [rne_mark N d D n l m _ hn hl hm hD2 rfl]
theorem rg_quot (A b s d:Nat) (P:Int) (hb:0<b) (hq:16777216≤A*2 ^ s / b) :
   rg Ieee.single (2*(A*2 ^ s / b)+(A*2 ^ s % b != 0).toNat) (P+d)=rg Ieee.single (2*(A*2 ^ (s+d) / b)+(A*2 ^ (s+d) % b != 0).toNat) P:=by
 obtain ⟨X,hX⟩:∃ X,A*2 ^ s=X:=⟨_,rfl⟩
 have hXd:A*2 ^ (s+d)=X*2 ^ d:=by rw [←hX,Nat.pow_add,Nat.mul_assoc]
 rw [hXd,hX]
 rw [hX] at hq
 have hdp:=Nat.two_pow_pos d
 obtain ⟨m,hm⟩:∃ m,(X*2 ^ d % b != 0).toNat=m:=⟨_,rfl⟩
 have hm1:m≤1:=by rw [←hm];cases (X*2 ^ d % b != 0) <;> decide
 have hmz:X*2 ^ d % b=0↔m=0:=by
   rw [←hm]
   by_cases e:X*2 ^ d % b=0
   · simp [e]
   · simp [e]
 rw [hm]
 have hn:(2*(X*2 ^ d / b)+m) / 2 ^ (d+1)=X / b:=by
   rw [Nat.pow_succ,Nat.mul_comm (2 ^ d),←Nat.div_div_eq_div_mul,show (2*(X*2 ^ d / b)+m) / 2=X*2 ^ d / b by omega,Nat.div_div_eq_div_mul,Nat.mul_div_mul_right _ _ hdp]
 have h1:=rg_mark (2*(X*2 ^ d / b)+m) d (X / b) _ P hn rfl hq
 rw [←h1]
 congr 3
 have hl:(2*(X*2 ^ d / b)+m) % 2 ^ (d+1)=2*(X*2 ^ d / b % 2 ^ d)+m:=by
   have a1:=Nat.div_add_mod (2*(X*2 ^ d / b)+m) (2 ^ (d+1))
   have a2:=Nat.div_add_mod (X*2 ^ d / b) (2 ^ d)
   rw [hn,Nat.pow_succ,Nat.mul_comm (2 ^ d),Nat.mul_assoc] at a1
   rw [Nat.div_div_eq_div_mul,Nat.mul_div_mul_right _ _ hdp] at a2
   rw [Nat.pow_succ,Nat.mul_comm (2 ^ d)]
   omega
 rw [hl]
 have hx:X*2 ^ d % (b*2 ^ d)=X % b*2 ^ d:=Nat.mul_mod_mul_right _ _ _
 rw [Nat.mod_mul] at hx
 have key:X % b=0↔2*(X*2 ^ d / b % 2 ^ d)+m=0:=by
   constructor
   · intro h
     rw [h,Nat.zero_mul] at hx
     have h3:X*2 ^ d % b=0:=by omega
     have h4:b*(X*2 ^ d / b % 2 ^ d)=0:=by omega
     rcases Nat.mul_eq_zero.1 h4 with h5|h5
     · omega
     · rw [h5];have:=hmz.1 h3;omega
   · intro h
     have h3:X*2 ^ d / b % 2 ^ d=0:=by omega
     have h4:=hmz.2 (by omega)
     rw [h3,h4,Nat.mul_zero] at hx
     rcases Nat.mul_eq_zero.1 hx.symm with h5|h5
     · exact h5
     · omega
 rw [Bool.eq_iff_iff]
 simp only [bne_iff_ne,ne_eq]
 rw [key]
theorem rM1A :
   (∀ (m:Bool) (v0:Value) (x0 NN:Nat) (P0 P:Int) (nb X M:Nat) (w:World),(NatV w v0 x0)→(x0<2 ^ (32*6))→(x0*2+1=NN)→(P0-1=P)→(nbits (NN)=nb)→(nb≤4000)→(-5000≤P)→(P≤5000)→(P+nb-24 < -149)→(P - -149=X)→(NN*2 ^ X=M)→(M<18446744073709551616)→Calls Tryz.prog 105 #[.agg #[.int .i64 24,.int .i64 (-149),.int .i64 104],.bool m,v0,.int .i64 P0,.bool true] w fun e w'=>e=.returned (hdV m M (-149))∧Below w.heap.size w w') ∧
   (∀ (m:Bool) (v0:Value) (x0 NN:Nat) (P0 P:Int) (nb X M:Nat) (K:Int) (w:World),(NatV w v0 x0)→(x0<2 ^ (32*6))→(x0*2+1=NN)→(P0-1=P)→(nbits (NN)=nb)→(nb≤4000)→(-5000≤P)→(P≤5000)→(¬ P+nb-24 < -149)→(P+nb-24=K)→(K≤P)→(P-K=X)→(NN*2 ^ X=M)→(M<18446744073709551616)→Calls Tryz.prog 105 #[.agg #[.int .i64 24,.int .i64 (-149),.int .i64 104],.bool m,v0,.int .i64 P0,.bool true] w fun e w'=>e=.returned (hdV m M K)∧Below w.heap.size w w') ∧
   (∀ (m:Bool) (v0:Value) (x0 NN:Nat) (P0 P:Int) (nb:Nat) (w:World),(NatV w v0 x0)→(x0<2 ^ (32*6))→(x0*2+1=NN)→(P0-1=P)→(nbits (NN)=nb)→(nb≤4000)→(-5000≤P)→(P≤5000)→(P+nb-24 < -149)→(P < -149)→((nb:Int)+1 < -149-P)→Calls Tryz.prog 105 #[.agg #[.int .i64 24,.int .i64 (-149),.int .i64 104],.bool m,v0,.int .i64 P0,.bool true] w fun e w'=>e=.returned (hdV m 0 (-149))∧Below w.heap.size w w'):=by
 refine ⟨?_,?_,?_⟩
 intro m v0 x0 NN P0 P nb X M w hv0 hx0 hNN hP1 hnb hnl hP hP2 hA hX hM hMl
 rotate_left
 intro m v0 x0 NN P0 P nb X M K w hv0 hx0 hNN hP1 hnb hnl hP hP2 hA hK hKP hX hM hMl
 rotate_left
 intro m v0 x0 NN P0 P nb w hv0 hx0 hNN hP1 hnb hnl hP hP2 hA hkP hD
 rotate_left
 have HM:Hid (NN*2 ^ X=M):=hM
 have hX5:X≤10000:=by omega
 have hPX:P+149=X:=by omega
 have hPl:(-149:Int)≤P:=by omega
 have HXw:Hid (IntKind.i64.wrap (X:Int)=X):=by rw [Hid,IntKind.wrap_i64];omega
 have HD:Hid (hdV m M (-149)=.agg #[.int .u8 3,.bool m,.int .u64 M,.int .i64 (-149)]):=by rw [Hid,hdV,if_neg (by omega)]
 clear hM hX
 rotate_left
 have HM:Hid (NN*2 ^ X=M):=hM
 have hX5:X≤10000:=by omega
 have hA':(-149:Int)≤K:=by omega
 have HXw:Hid (IntKind.i64.wrap (P-K)=X):=by rw [Hid,IntKind.wrap_i64];omega
 have HXw':Hid (IntKind.i64.wrap (X:Int)=X):=by rw [Hid,IntKind.wrap_i64];omega
 have HD:Hid (hdV m M K=.agg #[.int .u8 (vS K),.bool m,.int .u64 (vM M K),.int .i64 (vP K)]):=hdV_agg m M K
 clear hM
 rotate_left
 have HD:Hid (hdV m 0 (-149)=.agg #[.int .u8 3,.bool m,.int .u64 0,.int .i64 (-149)]):=by rw [Hid,hdV,if_neg (by omega)];rfl
 rotate_left
 all_goals (have HB:Below ((w.alloc ob).alloc oz).heap.size ((w.alloc ob).alloc oz) ((w.alloc ob).alloc oz):=Below.refl _ _)
 all_goals (have HV0:Hid (NatV ((w.alloc ob).alloc oz) v0 x0):=hv0.on (bel (bel (Below.refl _ _))))
 all_goals (have HX0:Hid (x0<2 ^ (32*6)):=hx0)
 all_goals (have HX1:Hid (x0*2<2 ^ (32*(6+1))):=dbl_lt (k:=6) hx0)
 all_goals (have HNN:Hid (x0*2+1=NN):=hNN)
 all_goals (have HNZ:Hid (NN≠0):=by rw [Hid];omega)
 all_goals (have HNL:Hid (NN<2 ^ (32*(6+1))):=nn_lt (k:=6) hNN hx0)
 all_goals (clear hx0 hv0 hNN)
 all_goals (go_enter Tryz.func105,Tryz.ntmps105)
 all_goals (
   go_wp2_with (first
     |(go_at_call 130;with_reducible refine (up_1 v0 x0 6 _ (HV0.out.on (by apply_rules [Below.refl,bel,Below.drew,bt3])) HX0.out (by omega)).mono ?_;rintro e wa ⟨⟨va,rfl,hva⟩,hba⟩;replace HB:Below ((w.alloc ob).alloc oz).heap.size ((w.alloc ob).alloc oz) wa:=bt2 hba (by apply_rules [HB,Below.refl,bel,Below.drew,bt3]))
     |(go_at_call 107;with_reducible refine (nat_1 _).mono ?_;rintro e wb ⟨⟨vb,rfl,hvb⟩,hbb⟩;replace HB:Below ((w.alloc ob).alloc oz).heap.size ((w.alloc ob).alloc oz) wb:=bt2 hbb (by apply_rules [HB,Below.refl,bel,Below.drew,bt3]);replace hva:=hva.step (by apply_rules [Below.refl,bel,Below.drew,bt3]) hbb)
     |(go_at_call 129;with_reducible refine (plus_nv va vb _ _ (6+1) _ (hva.on (by apply_rules [Below.refl,bel,Below.drew,bt3])) (hvb.on (by apply_rules [Below.refl,bel,Below.drew,bt3])) HX1.out (one_lt (6+1) (by decide)) (by omega)).mono ?_;rintro e wn ⟨⟨vn,rfl,hvn⟩,hbn⟩;replace HB:Below ((w.alloc ob).alloc oz).heap.size ((w.alloc ob).alloc oz) wn:=bt2 hbn (by apply_rules [HB,Below.refl,bel,Below.drew,bt3]);obtain ⟨ao,cap,zs,rfl,hc0,hn0,hval0,hN,hW,hr2⟩:=hvn.dest;rw [HNN.out] at hval0;subst hval0;have hz':=lenz hN HNZ.out;obtain ⟨f0,f1,f2⟩:=kF HB;clear hva hvb hvn hba hbb hbn)))
 all_goals (have hl:zs.length≤100:=by have:=len_pow hN rfl (6+1) HNL.out;omega)
 all_goals (have sz:=fun W hrW=>size_any ao cap zs W (by omega) hrW hW hN)
 all_goals (rw [hnb] at sz)
 all_goals (have HN:Below wn.heap.size wn wn:=Below.refl _ _)
 all_goals (go_quiet (((go_at_call 132);exact Calls.quiet_of_same (sz _ hr2))))
 focus
   go_wp2
 focus
   go_region_held3 (fun w'=>w'.cell? ⟨w.heap.size,0,none⟩=some (.int .i64 24)∧w'.cell? ⟨w.heap.size,1,none⟩=some (.int .i64 (-149))∧w'.cell? ⟨w.heap.size,2,none⟩=some (.int .i64 104)) ((first|((try dsimp only);with_reducible refine kS ?_;(repeat (first|exact HB|exact Below.refl _ _|with_reducible first|refine bel ?_|refine Below.drew ?_|refine bt3 ?_|with_reducible refine bt2 hb1 ?_|with_reducible refine bt2 hb2 ?_));done)|(refine kF ?_;(repeat (first|exact HB|exact Below.refl _ _|with_reducible first|refine bel ?_|refine Below.drew ?_|refine bt3 ?_|with_reducible refine bt2 hb1 ?_|with_reducible refine bt2 hb2 ?_));done))) (first
     |(go_at_call 130;rw [HXw.out];with_reducible refine (up_any ao cap zs X _ (by omega) (by omega) (RU hr2 (by apply_rules [HB,Below.refl,bel,Below.drew,bt3])) hW).mono ?_;rintro e w1 ⟨⟨v1,rfl,hv1⟩,hb1⟩;obtain ⟨ao1,cap1,zs1,rfl,hc1,hn1,hval1,hN1,hW1,hr1⟩:=hv1.dest)
     |(go_at_call 108;with_reducible refine (low_any ao1 cap1 zs1 _ (by have:=small_len hN1 (hval1.trans HM.out) hMl;omega) (RU hr1 (by apply_rules [HB,Below.refl,bel,Below.drew,bt3])) hW1).mono ?_;rintro e wq ⟨rfl,hq⟩;rw [hval1,HM.out,Nat.mod_eq_of_lt hMl];subst wq)
     |(go_at_call 133;with_reducible refine (held_any m M (-149) _).mono ?_;rintro e w2 ⟨rfl,hb2⟩;rw [HD.out];obtain ⟨r0,r1,r2,r3,q0,q1,q2,q3⟩:=kA (w:=w) (W:=w2) (by repeat (first|exact HB|exact Below.refl _ _|with_reducible first|refine bel ?_|refine Below.drew ?_|refine bt3 ?_|with_reducible refine bt2 hb1 ?_|with_reducible refine bt2 hb2 ?_))))
 focus
   go_wp2
 refine bodyPost_ret (v:=.agg #[.int .u8 3,.bool m,.int .u64 M,.int .i64 (-149)]) (by simp [results,Tryz.f105,go_sem,r0,r1,r2,r3]) rfl ?_
 exact ⟨by rw [HD.out],kB (by repeat (first|exact HB|exact Below.refl _ _|with_reducible first|refine bel ?_|refine Below.drew ?_|refine bt3 ?_|with_reducible refine bt2 hb1 ?_|with_reducible refine bt2 hb2 ?_))⟩
 focus
   go_wp2
 focus
   go_region_held3 (fun w'=>w'.cell? ⟨w.heap.size,0,none⟩=some (.int .i64 24)∧w'.cell? ⟨w.heap.size,1,none⟩=some (.int .i64 (-149))∧w'.cell? ⟨w.heap.size,2,none⟩=some (.int .i64 104)) ((first|((try dsimp only);with_reducible refine kS ?_;(repeat (first|exact HB|exact Below.refl _ _|with_reducible first|refine bel ?_|refine Below.drew ?_|refine bt3 ?_|with_reducible refine bt2 hb1 ?_|with_reducible refine bt2 hb2 ?_));done)|(refine kF ?_;(repeat (first|exact HB|exact Below.refl _ _|with_reducible first|refine bel ?_|refine Below.drew ?_|refine bt3 ?_|with_reducible refine bt2 hb1 ?_|with_reducible refine bt2 hb2 ?_));done))) (first
     |(go_at_call 130;(first|rw [HXw.out]|rw [HXw'.out]);with_reducible refine (up_any ao cap zs X _ (by omega) (by omega) (RU hr2 (by (repeat (first|exact HB|exact Below.refl _ _|with_reducible first|refine bel ?_|refine Below.drew ?_|refine bt3 ?_|with_reducible refine bt2 hb1 ?_|with_reducible refine bt2 hb2 ?_)))) hW).mono ?_;rintro e w1 ⟨⟨v1,rfl,hv1⟩,hb1⟩;obtain ⟨ao1,cap1,zs1,rfl,hc1,hn1,hval1,hN1,hW1,hr1⟩:=hv1.dest)
     |(go_at_call 108;with_reducible refine (low_any ao1 cap1 zs1 _ (by have:=small_len hN1 (hval1.trans HM.out) hMl;omega) (RU hr1 (by (repeat (first|exact HB|exact Below.refl _ _|with_reducible first|refine bel ?_|refine Below.drew ?_|refine bt3 ?_|with_reducible refine bt2 hb1 ?_|with_reducible refine bt2 hb2 ?_)))) hW1).mono ?_;rintro e wq ⟨rfl,hq⟩;rw [hval1,HM.out,Nat.mod_eq_of_lt hMl];subst wq)
     |(go_at_call 133;with_reducible refine (held_any m M K _).mono ?_;rintro e w2 ⟨rfl,hb2⟩;rw [HD.out];obtain ⟨r0,r1,r2,r3,q0,q1,q2,q3⟩:=kA (w:=w) (W:=w2) (by (repeat (first|exact HB|exact Below.refl _ _|with_reducible first|refine bel ?_|refine Below.drew ?_|refine bt3 ?_|with_reducible refine bt2 hb1 ?_|with_reducible refine bt2 hb2 ?_)))))
 focus
   go_wp2
 refine bodyPost_ret (v:=.agg #[.int .u8 (vS K),.bool m,.int .u64 (vM M K),.int .i64 (vP K)]) (by simp [results,Tryz.f105,go_sem,r0,r1,r2,r3]) rfl ?_
 exact ⟨by rw [HD.out],kB (by (repeat (first|exact HB|exact Below.refl _ _|with_reducible first|refine bel ?_|refine Below.drew ?_|refine bt3 ?_|with_reducible refine bt2 hb1 ?_|with_reducible refine bt2 hb2 ?_)))⟩
 focus
   go_wp2_with (first
     |(go_at_call 132;with_reducible refine (sz _ (RU hr2 (by apply_rules [Below.refl,bel,Below.drew,bt3]))).mono ?_;rintro e wq ⟨rfl,hq⟩;subst wq)
     |(go_at_call 131;with_reducible refine (nought_any m _).mono ?_;rintro e w2 ⟨rfl,hb2⟩;replace HB:Below ((w.alloc ob).alloc oz).heap.size ((w.alloc ob).alloc oz) w2:=bt2 hb2 (by apply_rules [HB,Below.refl,bel,Below.drew,bt3]);obtain ⟨r0,r1,r2,r3,q0,q1,q2,q3⟩:=kA HB))
 refine bodyPost_ret (v:=.agg #[.int .u8 3,.bool m,.int .u64 0,.int .i64 (-149)]) (by simp [results,Tryz.f105,go_sem,r0,r1,r2,r3]) rfl ?_
 exact ⟨by rw [HD.out],kB HB⟩
abbrev rM1a:=rM1A.1
abbrev rM1b:=rM1A.2.1
abbrev rM2:=rM1A.2.2
end Go.Proofs.YtibhlcfligfhdaaGreat
