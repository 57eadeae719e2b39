import Derived.Test.YtibhlcfligfhdaaGreatCSPrB
import Derived.Test.YtibhlcfligfhdaaGreatCSRmD2
import Derived.Test.YtibhlcfligfhdaaGreatCABRb
namespace Go.Proofs.YtibhlcfligfhdaaGreat
set_option maxHeartbeats 4000000
open Go.RowKit
set_option maxRecDepth 100000
theorem rg_shift (f:Ieee.Format) (hp:0<f.fractionBits) (N z:Nat) (Q:Int):rg f (N*2 ^ z) (Q-z)=rg f N Q:=by
 obtain ⟨d,hd⟩:∃ d:Nat,f.leastPlace≤Q-z+d:=⟨(f.leastPlace-(Q-z)).toNat,by omega⟩
 have n1:=rg_near f hp (N*2 ^ z) (Q-z) d hd
 have n2:=rg_near f hp N Q d (by omega)
 rw [Nat.mul_assoc,←Nat.pow_add,show z+(Q-z-f.leastPlace+d).toNat=(Q-f.leastPlace+d).toNat by omega] at n1
 exact n1.unique (Nat.two_pow_pos _) n2
theorem p192:(2:Nat) ^ (32*6)=2 ^ 192:=rfl
theorem rnd_q (m:Bool) (v:Value) (x:Nat) (Q:Int) (mo:Bool) (r:Nat) (w:World) (h:NatV w v x) (hx:x<2 ^ (32*6)) (hP : -2000≤Q) (hP2:Q≤2000) (hr:rg Ieee.single (2*x+mo.toNat) (Q-1)=r) :
   Calls Tryz.prog 105 #[.agg #[.int .i64 24,.int .i64 (-149),.int .i64 104],.bool m,v,.int .i64 Q,.bool mo] w fun e w'=>(∃ n p,e=.returned (hdV m n p)∧Fits n p r)∧Below w.heap.size w w':=by
 cases mo with
 | false=>
   have:=rg_shift Ieee.single (by decide) x 1 Q
   rw [show x*2 ^ 1=2*x by omega] at this
   have hr':rg Ieee.single x Q=r:=by rw [←this];exact hr
   have:=rnd_nv m v x 6 Q w h hx (by omega) (by omega) (by omega)
   rw [hr'] at this
   exact this
 | true=>
   have hnl:nbits (2*x+1)≤4000:=by
     obtain ⟨b1,b2,b3⟩:=nb_bounds (2*x+1) (by omega)
     have h9:2*x+1<2 ^ (192+1):=by rw [Nat.pow_succ,←p192];omega
     have c1:=(Nat.pow_lt_pow_iff_right (a:=2) (by decide)).1 (Nat.lt_of_le_of_lt b1 h9)
     omega
   have:=rndM_any m v x (2*x+1) Q (Q-1) w h hx (by omega) rfl hnl (by omega) (by omega)
   rw [show rg Ieee.single (2*x+1) (Q-1)=r from hr] at this
   exact this
theorem q_lt (na:Nat) (h:na<16777216):na*2 ^ 128<2 ^ (32*6):=by
 have h1:na*2 ^ 128<2 ^ 24*2 ^ 128:=Nat.mul_lt_mul_of_pos_right h (Nat.two_pow_pos _)
 rw [←Nat.pow_add] at h1
 exact Nat.lt_of_lt_of_le h1 (Nat.pow_le_pow_right (by decide) (by decide))
theorem over_q (v u:Value) (na nb V q:Nat) (mo:Bool) (w:World) (h:NatV w v V) (h':NatV w u nb) (hna:na<16777216) (hV:na*2 ^ 128=V) (hnb:nb<16777216) (h0:nb≠0) (hq:V / nb=q) (hmo:decide (0<V % nb)=mo) :
   Calls Tryz.prog 149 #[v,u] w fun e w'=>(∃ v',e=.returned (.tuple #[v',.bool mo])∧NatV w' v' q)∧Below w.heap.size w w':=by
 have hVl:V<2 ^ (32*6):=by rw [←hV];exact q_lt na hna
 have hnl:nbits V≤3200:=by
   by_cases hz:V=0
   · rw [hz];decide
   · obtain ⟨b1,b2,b3⟩:=nb_bounds V hz
     have c1:=(Nat.pow_lt_pow_iff_right (a:=2) (by decide)).1 (Nat.lt_of_le_of_lt b1 (show V<2 ^ 192 from hVl))
     omega
 have:=over_nv v u V nb 6 _ w h h' hVl (Nat.lt_of_lt_of_le hnb (by decide)) (by omega) (by omega) rfl hnl
 rw [hmo,hq] at this
 exact this
theorem rt_n1 (sb:Int) (mb:Bool) (nb pb:Int) (w:World) :
   Calls Tryz.prog 141 #[.agg #[.int .i64 24,.int .i64 (-149),.int .i64 104],.agg #[.int .u8 1,.bool false,.int .u64 0,.int .i64 0],.agg #[.int .u8 sb,.bool mb,.int .u64 nb,.int .i64 pb]] w fun e w'=>e=.returned (vN)∧Below w.heap.size w w':=by
 have HB:Below ((((w.alloc ob).alloc (oV 1 false 0 0)).alloc (oV sb mb nb pb)).alloc oz).heap.size ((((w.alloc ob).alloc (oV 1 false 0 0)).alloc (oV sb mb nb pb)).alloc oz) ((((w.alloc ob).alloc (oV 1 false 0 0)).alloc (oV sb mb nb pb)).alloc oz):=Below.refl _ _
 go_enter Tryz.func141,Tryz.ntmps141
 go_wp2_with (first
   |(go_at_call 144;with_reducible refine (vnone_b _).mono ?_;rintro e w1 ⟨rfl,hb1⟩;replace HB:=bt2 hb1 (show Below ((((w.alloc ob).alloc (oV 1 false 0 0)).alloc (oV sb mb nb pb)).alloc oz).heap.size ((((w.alloc ob).alloc (oV 1 false 0 0)).alloc (oV sb mb nb pb)).alloc oz) _ from by (repeat (first|exact HB|exact Below.refl _ _|with_reducible first|refine bel ?_|refine Below.drew ?_|refine bt3 ?_)));obtain ⟨x0,x1,x2,x3,x4,x5,x6,x7,x8,x9,x10⟩:=jF HB;obtain ⟨r0,r1,r2,r3,q0,q1,q2,q3⟩:=jA HB))
 refine bodyPost_ret (v:=vN) (by simp [results,Tryz.f141,go_sem,r0,r1,r2,r3]) rfl ?_
 exact ⟨rfl,jB HB⟩
theorem rt_n2 (sa:Int) (ma:Bool) (na pa:Int) (h:(sa == 1)=false) (w:World) :
   Calls Tryz.prog 141 #[.agg #[.int .i64 24,.int .i64 (-149),.int .i64 104],.agg #[.int .u8 sa,.bool ma,.int .u64 na,.int .i64 pa],.agg #[.int .u8 1,.bool false,.int .u64 0,.int .i64 0]] w fun e w'=>e=.returned (vN)∧Below w.heap.size w w':=by
 have HB:Below ((((w.alloc ob).alloc (oV sa ma na pa)).alloc (oV 1 false 0 0)).alloc oz).heap.size ((((w.alloc ob).alloc (oV sa ma na pa)).alloc (oV 1 false 0 0)).alloc oz) ((((w.alloc ob).alloc (oV sa ma na pa)).alloc (oV 1 false 0 0)).alloc oz):=Below.refl _ _
 go_enter Tryz.func141,Tryz.ntmps141
 go_wp2_with (first
   |(go_at_call 144;with_reducible refine (vnone_b _).mono ?_;rintro e w1 ⟨rfl,hb1⟩;replace HB:=bt2 hb1 (show Below ((((w.alloc ob).alloc (oV sa ma na pa)).alloc (oV 1 false 0 0)).alloc oz).heap.size ((((w.alloc ob).alloc (oV sa ma na pa)).alloc (oV 1 false 0 0)).alloc oz) _ from by (repeat (first|exact HB|exact Below.refl _ _|with_reducible first|refine bel ?_|refine Below.drew ?_|refine bt3 ?_)));obtain ⟨x0,x1,x2,x3,x4,x5,x6,x7,x8,x9,x10⟩:=jF HB;obtain ⟨r0,r1,r2,r3,q0,q1,q2,q3⟩:=jA HB))
 refine bodyPost_ret (v:=vN) (by simp [results,Tryz.f141,go_sem,r0,r1,r2,r3]) rfl ?_
 exact ⟨rfl,jB HB⟩
theorem rt_ee (ma mb:Bool) (w:World) :
   Calls Tryz.prog 141 #[.agg #[.int .i64 24,.int .i64 (-149),.int .i64 104],.agg #[.int .u8 2,.bool ma,.int .u64 0,.int .i64 0],.agg #[.int .u8 2,.bool mb,.int .u64 0,.int .i64 0]] w fun e w'=>e=.returned (vN)∧Below w.heap.size w w':=by
 have HB:Below ((((w.alloc ob).alloc (oV 2 ma 0 0)).alloc (oV 2 mb 0 0)).alloc oz).heap.size ((((w.alloc ob).alloc (oV 2 ma 0 0)).alloc (oV 2 mb 0 0)).alloc oz) ((((w.alloc ob).alloc (oV 2 ma 0 0)).alloc (oV 2 mb 0 0)).alloc oz):=Below.refl _ _
 go_enter Tryz.func141,Tryz.ntmps141
 go_wp2_with (first
   |(go_at_call 144;with_reducible refine (vnone_b _).mono ?_;rintro e w1 ⟨rfl,hb1⟩;replace HB:=bt2 hb1 (show Below ((((w.alloc ob).alloc (oV 2 ma 0 0)).alloc (oV 2 mb 0 0)).alloc oz).heap.size ((((w.alloc ob).alloc (oV 2 ma 0 0)).alloc (oV 2 mb 0 0)).alloc oz) _ from by (repeat (first|exact HB|exact Below.refl _ _|with_reducible first|refine bel ?_|refine Below.drew ?_|refine bt3 ?_)));obtain ⟨x0,x1,x2,x3,x4,x5,x6,x7,x8,x9,x10⟩:=jF HB;obtain ⟨r0,r1,r2,r3,q0,q1,q2,q3⟩:=jA HB))
 refine bodyPost_ret (v:=vN) (by simp [results,Tryz.f141,go_sem,r0,r1,r2,r3]) rfl ?_
 exact ⟨rfl,jB HB⟩
theorem rt_ef (ma mb mm:Bool) (hmm:(!(ma == mb))=mm) (nb pb:Int) (w:World) :
   Calls Tryz.prog 141 #[.agg #[.int .i64 24,.int .i64 (-149),.int .i64 104],.agg #[.int .u8 2,.bool ma,.int .u64 0,.int .i64 0],.agg #[.int .u8 3,.bool mb,.int .u64 nb,.int .i64 pb]] w fun e w'=>e=.returned (vE mm)∧Below w.heap.size w w':=by
 have HB:Below ((((w.alloc ob).alloc (oV 2 ma 0 0)).alloc (oV 3 mb nb pb)).alloc oz).heap.size ((((w.alloc ob).alloc (oV 2 ma 0 0)).alloc (oV 3 mb nb pb)).alloc oz) ((((w.alloc ob).alloc (oV 2 ma 0 0)).alloc (oV 3 mb nb pb)).alloc oz):=Below.refl _ _
 go_enter Tryz.func141,Tryz.ntmps141
 go_wp2_with (first
   |(go_at_call 145;with_reducible refine (vendless_b mm _).mono ?_;rintro e w1 ⟨rfl,hb1⟩;replace HB:=bt2 hb1 (show Below ((((w.alloc ob).alloc (oV 2 ma 0 0)).alloc (oV 3 mb nb pb)).alloc oz).heap.size ((((w.alloc ob).alloc (oV 2 ma 0 0)).alloc (oV 3 mb nb pb)).alloc oz) _ from by (repeat (first|exact HB|exact Below.refl _ _|with_reducible first|refine bel ?_|refine Below.drew ?_|refine bt3 ?_)));obtain ⟨x0,x1,x2,x3,x4,x5,x6,x7,x8,x9,x10⟩:=jF HB;obtain ⟨r0,r1,r2,r3,q0,q1,q2,q3⟩:=jA HB))
 refine bodyPost_ret (v:=vE mm) (by simp [results,Tryz.f141,go_sem,r0,r1,r2,r3]) rfl ?_
 exact ⟨rfl,jB HB⟩
theorem rt_fe (ma mb mm:Bool) (hmm:(!(ma == mb))=mm) (na pa:Int) (w:World) :
   Calls Tryz.prog 141 #[.agg #[.int .i64 24,.int .i64 (-149),.int .i64 104],.agg #[.int .u8 3,.bool ma,.int .u64 na,.int .i64 pa],.agg #[.int .u8 2,.bool mb,.int .u64 0,.int .i64 0]] w fun e w'=>e=.returned (.agg #[.int .u8 3,.bool mm,.int .u64 0,.int .i64 (-149)])∧Below w.heap.size w w':=by
 have HB:Below ((((w.alloc ob).alloc (oV 3 ma na pa)).alloc (oV 2 mb 0 0)).alloc oz).heap.size ((((w.alloc ob).alloc (oV 3 ma na pa)).alloc (oV 2 mb 0 0)).alloc oz) ((((w.alloc ob).alloc (oV 3 ma na pa)).alloc (oV 2 mb 0 0)).alloc oz):=Below.refl _ _
 go_enter Tryz.func141,Tryz.ntmps141
 go_wp2_with (first
   |(go_at_call 131;with_reducible refine (nought_any mm _).mono ?_;rintro e w1 ⟨rfl,hb1⟩;replace HB:=bt2 hb1 (show Below ((((w.alloc ob).alloc (oV 3 ma na pa)).alloc (oV 2 mb 0 0)).alloc oz).heap.size ((((w.alloc ob).alloc (oV 3 ma na pa)).alloc (oV 2 mb 0 0)).alloc oz) _ from by (repeat (first|exact HB|exact Below.refl _ _|with_reducible first|refine bel ?_|refine Below.drew ?_|refine bt3 ?_)));obtain ⟨x0,x1,x2,x3,x4,x5,x6,x7,x8,x9,x10⟩:=jF HB;obtain ⟨r0,r1,r2,r3,q0,q1,q2,q3⟩:=jA HB))
 refine bodyPost_ret (v:=.agg #[.int .u8 3,.bool mm,.int .u64 0,.int .i64 (-149)]) (by simp [results,Tryz.f141,go_sem,r0,r1,r2,r3]) rfl ?_
 exact ⟨rfl,jB HB⟩
theorem rt_zz (ma mb:Bool) (pa pb:Int) (w:World) :
   Calls Tryz.prog 141 #[.agg #[.int .i64 24,.int .i64 (-149),.int .i64 104],.agg #[.int .u8 3,.bool ma,.int .u64 0,.int .i64 pa],.agg #[.int .u8 3,.bool mb,.int .u64 0,.int .i64 pb]] w fun e w'=>e=.returned (vN)∧Below w.heap.size w w':=by
 have HB:Below ((((w.alloc ob).alloc (oV 3 ma 0 pa)).alloc (oV 3 mb 0 pb)).alloc oz).heap.size ((((w.alloc ob).alloc (oV 3 ma 0 pa)).alloc (oV 3 mb 0 pb)).alloc oz) ((((w.alloc ob).alloc (oV 3 ma 0 pa)).alloc (oV 3 mb 0 pb)).alloc oz):=Below.refl _ _
 go_enter Tryz.func141,Tryz.ntmps141
 go_wp2_with (first
   |(go_at_call 114;with_reducible refine (isn3z mb pb _).mono ?_;rintro e w1 ⟨rfl,hb1⟩;replace HB:=bt2 hb1 (show Below ((((w.alloc ob).alloc (oV 3 ma 0 pa)).alloc (oV 3 mb 0 pb)).alloc oz).heap.size ((((w.alloc ob).alloc (oV 3 ma 0 pa)).alloc (oV 3 mb 0 pb)).alloc oz) _ from by (repeat (first|exact HB|exact Below.refl _ _|with_reducible first|refine bel ?_|refine Below.drew ?_|refine bt3 ?_)));obtain ⟨x0,x1,x2,x3,x4,x5,x6,x7,x8,x9,x10⟩:=jF HB;obtain ⟨r0,r1,r2,r3,q0,q1,q2,q3⟩:=jA HB)
   |(go_at_call 114;with_reducible refine (isn3z ma pa _).mono ?_;rintro e w1 ⟨rfl,hb1⟩;replace HB:=bt2 hb1 (show Below ((((w.alloc ob).alloc (oV 3 ma 0 pa)).alloc (oV 3 mb 0 pb)).alloc oz).heap.size ((((w.alloc ob).alloc (oV 3 ma 0 pa)).alloc (oV 3 mb 0 pb)).alloc oz) _ from by (repeat (first|exact HB|exact Below.refl _ _|with_reducible first|refine bel ?_|refine Below.drew ?_|refine bt3 ?_)));obtain ⟨x0,x1,x2,x3,x4,x5,x6,x7,x8,x9,x10⟩:=jF HB;obtain ⟨r0,r1,r2,r3,q0,q1,q2,q3⟩:=jA HB)
   |(go_at_call 144;with_reducible refine (vnone_b _).mono ?_;rintro e w1 ⟨rfl,hb1⟩;replace HB:=bt2 hb1 (show Below ((((w.alloc ob).alloc (oV 3 ma 0 pa)).alloc (oV 3 mb 0 pb)).alloc oz).heap.size ((((w.alloc ob).alloc (oV 3 ma 0 pa)).alloc (oV 3 mb 0 pb)).alloc oz) _ from by (repeat (first|exact HB|exact Below.refl _ _|with_reducible first|refine bel ?_|refine Below.drew ?_|refine bt3 ?_)));obtain ⟨x0,x1,x2,x3,x4,x5,x6,x7,x8,x9,x10⟩:=jF HB;obtain ⟨r0,r1,r2,r3,q0,q1,q2,q3⟩:=jA HB))
 refine bodyPost_ret (v:=vN) (by simp [results,Tryz.f141,go_sem,r0,r1,r2,r3]) rfl ?_
 exact ⟨rfl,jB HB⟩
theorem rt_fz (ma mb mm:Bool) (hmm:(!(ma == mb))=mm) (na:Nat) (pa pb:Int) (g:((na:Int) == 0)=false) (w:World) :
   Calls Tryz.prog 141 #[.agg #[.int .i64 24,.int .i64 (-149),.int .i64 104],.agg #[.int .u8 3,.bool ma,.int .u64 na,.int .i64 pa],.agg #[.int .u8 3,.bool mb,.int .u64 0,.int .i64 pb]] w fun e w'=>e=.returned (vE mm)∧Below w.heap.size w w':=by
 have HB:Below ((((w.alloc ob).alloc (oV 3 ma na pa)).alloc (oV 3 mb 0 pb)).alloc oz).heap.size ((((w.alloc ob).alloc (oV 3 ma na pa)).alloc (oV 3 mb 0 pb)).alloc oz) ((((w.alloc ob).alloc (oV 3 ma na pa)).alloc (oV 3 mb 0 pb)).alloc oz):=Below.refl _ _
 go_enter Tryz.func141,Tryz.ntmps141
 go_wp2_with (first
   |(go_at_call 114;with_reducible refine (isn3z mb pb _).mono ?_;rintro e w1 ⟨rfl,hb1⟩;replace HB:=bt2 hb1 (show Below ((((w.alloc ob).alloc (oV 3 ma na pa)).alloc (oV 3 mb 0 pb)).alloc oz).heap.size ((((w.alloc ob).alloc (oV 3 ma na pa)).alloc (oV 3 mb 0 pb)).alloc oz) _ from by (repeat (first|exact HB|exact Below.refl _ _|with_reducible first|refine bel ?_|refine Below.drew ?_|refine bt3 ?_)));obtain ⟨x0,x1,x2,x3,x4,x5,x6,x7,x8,x9,x10⟩:=jF HB;obtain ⟨r0,r1,r2,r3,q0,q1,q2,q3⟩:=jA HB)
   |(go_at_call 114;with_reducible refine (isn3 ma na pa _ g).mono ?_;rintro e w1 ⟨rfl,hb1⟩;replace HB:=bt2 hb1 (show Below ((((w.alloc ob).alloc (oV 3 ma na pa)).alloc (oV 3 mb 0 pb)).alloc oz).heap.size ((((w.alloc ob).alloc (oV 3 ma na pa)).alloc (oV 3 mb 0 pb)).alloc oz) _ from by (repeat (first|exact HB|exact Below.refl _ _|with_reducible first|refine bel ?_|refine Below.drew ?_|refine bt3 ?_)));obtain ⟨x0,x1,x2,x3,x4,x5,x6,x7,x8,x9,x10⟩:=jF HB;obtain ⟨r0,r1,r2,r3,q0,q1,q2,q3⟩:=jA HB)
   |(go_at_call 145;with_reducible refine (vendless_b mm _).mono ?_;rintro e w1 ⟨rfl,hb1⟩;replace HB:=bt2 hb1 (show Below ((((w.alloc ob).alloc (oV 3 ma na pa)).alloc (oV 3 mb 0 pb)).alloc oz).heap.size ((((w.alloc ob).alloc (oV 3 ma na pa)).alloc (oV 3 mb 0 pb)).alloc oz) _ from by (repeat (first|exact HB|exact Below.refl _ _|with_reducible first|refine bel ?_|refine Below.drew ?_|refine bt3 ?_)));obtain ⟨x0,x1,x2,x3,x4,x5,x6,x7,x8,x9,x10⟩:=jF HB;obtain ⟨r0,r1,r2,r3,q0,q1,q2,q3⟩:=jA HB))
 refine bodyPost_ret (v:=vE mm) (by simp [results,Tryz.f141,go_sem,r0,r1,r2,r3]) rfl ?_
 exact ⟨rfl,jB HB⟩
theorem rt_ff (ma mb mm:Bool) (hmm:(!(ma == mb))=mm) (na nb V q r:Nat) (mo:Bool) (pa pb p:Int) (w:World) (hna:na<16777216) (hnb:nb<16777216) (g:((nb:Int) == 0)=false) (h1 : -149≤pa) (h2:pa≤104) (h3 : -149≤pb) (h4:pb≤104) (hp:pa-pb-128=p) (hV:na*2 ^ 128=V) (hq:V / nb=q) (hmo:decide (0<V % nb)=mo) (hr:rg Ieee.single (2*q+mo.toNat) (p-1)=r) :
   Calls Tryz.prog 141 #[.agg #[.int .i64 24,.int .i64 (-149),.int .i64 104],.agg #[.int .u8 3,.bool ma,.int .u64 na,.int .i64 pa],.agg #[.int .u8 3,.bool mb,.int .u64 nb,.int .i64 pb]] w fun e w'=>(∃ n q,e=.returned (hdV mm n q)∧Fits n q r)∧Below w.heap.size w w':=by
 have HU:∀ v w,NatV w v na→Calls Tryz.prog 130 #[v,.int .i64 128] w fun e w'=>(∃ v',e=.returned v'∧NatV w' v' V)∧Below w.heap.size w w':=fun v w h=>by
   have:=up_nv v na 128 w h (by omega) (by decide)
   rw [hV] at this
   exact this
 have HOV:=fun v u w (h:NatV w v V) (h':NatV w u nb)=>over_q v u na nb V q mo w h h' hna hV hnb (by have:=beq_eq_false_iff_ne.1 g;omega) hq hmo
 have hql:q<2 ^ (32*6):=by rw [←hq];exact Nat.lt_of_le_of_lt (Nat.div_le_self _ _) (by rw [←hV];exact q_lt na hna)
 have HRD:=fun v w (h:NatV w v q)=>rnd_q mm v q p mo r w h hql (by omega) (by omega) hr
 have HP1:Hid (IntKind.i64.wrap (pa-pb)=pa-pb):=by rw [Hid,IntKind.wrap_i64];omega
 have HPw:Hid (IntKind.i64.wrap (pa-pb-128)=p):=by rw [Hid,IntKind.wrap_i64];omega
 have HPw2:Hid (IntKind.i64.wrap p=p):=by rw [Hid,IntKind.wrap_i64];omega
 clear hV hq hmo hr hql
 have HB:Below ((((w.alloc ob).alloc (oV 3 ma na pa)).alloc (oV 3 mb nb pb)).alloc oz).heap.size ((((w.alloc ob).alloc (oV 3 ma na pa)).alloc (oV 3 mb nb pb)).alloc oz) ((((w.alloc ob).alloc (oV 3 ma na pa)).alloc (oV 3 mb nb pb)).alloc oz):=Below.refl _ _
 go_enter Tryz.func141,Tryz.ntmps141
 go_wp2_with (go_at_call 114;with_reducible refine (isn3 mb nb pb _ g).mono ?_;rintro e w1 ⟨rfl,hb1⟩;replace HB:=bt2 hb1 (show Below ((((w.alloc ob).alloc (oV 3 ma na pa)).alloc (oV 3 mb nb pb)).alloc oz).heap.size ((((w.alloc ob).alloc (oV 3 ma na pa)).alloc (oV 3 mb nb pb)).alloc oz) _ from by (repeat (first|exact HB|exact Below.refl _ _|with_reducible first|refine bel ?_|refine Below.drew ?_|refine bt3 ?_)));obtain ⟨x0,x1,x2,x3,x4,x5,x6,x7,x8,x9,x10⟩:=jF HB;obtain ⟨r0,r1,r2,r3,q0,q1,q2,q3⟩:=jA HB)
 have HA:=nv_nil w1
 have HQ:=nv_nil w1
 clear x0 x1 x2 x3 x4 x5 x6 x7 x8 x9 x10 r0 r1 r2 r3 q0 q1 q2 q3
 go_region_held3 (fun w'=>w'.cell? ⟨w.heap.size,0,none⟩=some (.int .i64 24)∧w'.cell? ⟨w.heap.size,1,none⟩=some (.int .i64 (-149))∧w'.cell? ⟨w.heap.size,2,none⟩=some (.int .i64 104)∧w'.cell? ⟨w.heap.size+1,0,none⟩=some (.int .u8 3)∧w'.cell? ⟨w.heap.size+1,1,none⟩=some (.bool ma)∧w'.cell? ⟨w.heap.size+1,2,none⟩=some (.int .u64 (na:Nat))∧w'.cell? ⟨w.heap.size+1,3,none⟩=some (.int .i64 pa)∧w'.cell? ⟨w.heap.size+1+1,0,none⟩=some (.int .u8 3)∧w'.cell? ⟨w.heap.size+1+1,1,none⟩=some (.bool mb)∧w'.cell? ⟨w.heap.size+1+1,2,none⟩=some (.int .u64 (nb:Nat))∧w'.cell? ⟨w.heap.size+1+1,3,none⟩=some (.int .i64 pb)) ((first|((try dsimp only);with_reducible refine jS ?_;(repeat (first|exact HB|exact Below.refl _ _|with_reducible first|refine bel ?_|refine Below.drew ?_|refine bt3 ?_));done)|(refine jF ?_;(repeat (first|exact HB|exact Below.refl _ _|with_reducible first|refine bel ?_|refine Below.drew ?_|refine bt3 ?_));done))) (first
   |(go_at_call 107;with_reducible refine (nat_any na _ (by omega)).mono ?_;rintro e w1 ⟨⟨v1,rfl,hv1⟩,hb1⟩;replace HB:Below ((((w.alloc ob).alloc (oV 3 ma na pa)).alloc (oV 3 mb nb pb)).alloc oz).heap.size ((((w.alloc ob).alloc (oV 3 ma na pa)).alloc (oV 3 mb nb pb)).alloc oz) w1:=bt2 hb1 (by apply_rules [HB,Below.refl,bel,Below.drew,bt3]);replace HQ:=HQ.step (by apply_rules [Below.refl,bel,Below.drew,bt3]) hb1;replace HA:=hv1;clear hb1 hv1)
   |(go_at_call 107;with_reducible refine (nat_any nb _ (by omega)).mono ?_;rintro e w3 ⟨⟨v3,rfl,hv3⟩,hb3⟩;replace HB:Below ((((w.alloc ob).alloc (oV 3 ma na pa)).alloc (oV 3 mb nb pb)).alloc oz).heap.size ((((w.alloc ob).alloc (oV 3 ma na pa)).alloc (oV 3 mb nb pb)).alloc oz) w3:=bt2 hb3 (by apply_rules [HB,Below.refl,bel,Below.drew,bt3]);replace HA:=HA.step (by apply_rules [Below.refl,bel,Below.drew,bt3]) hb3;replace HQ:=hv3;clear hb3 hv3)
   |(go_at_call 130;with_reducible refine (HU v1 _ (HA.on (by apply_rules [Below.refl,bel,Below.drew,bt3]))).mono ?_;rintro e w4 ⟨⟨v4,rfl,hv4⟩,hb4⟩;replace HB:Below ((((w.alloc ob).alloc (oV 3 ma na pa)).alloc (oV 3 mb nb pb)).alloc oz).heap.size ((((w.alloc ob).alloc (oV 3 ma na pa)).alloc (oV 3 mb nb pb)).alloc oz) w4:=bt2 hb4 (by apply_rules [HB,Below.refl,bel,Below.drew,bt3]);replace HQ:=HQ.step (by apply_rules [Below.refl,bel,Below.drew,bt3]) hb4;replace HA:=hv4;clear hb4 hv4)
   |(go_at_call 149;with_reducible refine (HOV v4 v3 _ (HA.on (by apply_rules [Below.refl,bel,Below.drew,bt3])) (HQ.on (by apply_rules [Below.refl,bel,Below.drew,bt3]))).mono ?_;rintro e w5 ⟨⟨v5,rfl,hv5⟩,hb5⟩;replace HB:Below ((((w.alloc ob).alloc (oV 3 ma na pa)).alloc (oV 3 mb nb pb)).alloc oz).heap.size ((((w.alloc ob).alloc (oV 3 ma na pa)).alloc (oV 3 mb nb pb)).alloc oz) w5:=bt2 hb5 (by apply_rules [HB,Below.refl,bel,Below.drew,bt3]);replace HQ:=HQ.step (by apply_rules [Below.refl,bel,Below.drew,bt3]) hb5;replace HA:=hv5;clear hb5 hv5))
 clear HQ
 obtain ⟨x0,x1,x2,x3,x4,x5,x6,x7,x8,x9,x10⟩:=jF HB;obtain ⟨r0,r1,r2,r3,q0,q1,q2,q3⟩:=jA HB
 go_wp2_with (first
   |(go_at_call 105;(first|rw [HPw.out]|rw [HPw2.out]|skip);with_reducible refine (HRD v5 _ (HA.on (by apply_rules [Below.refl,bel,Below.drew,bt3]))).mono ?_;rintro e w9 ⟨⟨n9,p9,rfl,hf9⟩,hb9⟩;rw [hdV_agg];replace HB:Below ((((w.alloc ob).alloc (oV 3 ma na pa)).alloc (oV 3 mb nb pb)).alloc oz).heap.size ((((w.alloc ob).alloc (oV 3 ma na pa)).alloc (oV 3 mb nb pb)).alloc oz) w9:=bt2 hb9 (by apply_rules [HB,Below.refl,bel,Below.drew,bt3]);clear x0 x1 x2 x3 x4 x5 x6 x7 x8 x9 x10 r0 r1 r2 r3 q0 q1 q2 q3;obtain ⟨r0,r1,r2,r3,q0,q1,q2,q3⟩:=jA HB))
 all_goals refine bodyPost_ret (v:=.agg #[.int .u8 (vS p9),.bool mm,.int .u64 (vM n9 p9),.int .i64 (vP p9)]) (by simp [results,Tryz.f141,go_sem,r0,r1,r2,r3]) rfl ?_
 all_goals exact ⟨⟨n9,p9,by rw [hdV_agg],hf9⟩,jB HB⟩
theorem xor_neR (m n:Bool):(m ^^ n) = !(m == n):=by cases m <;> cases n <;> rfl
theorem div0 (a b:Nat):Ieee.single.div a b=((Ieee.single.read a).quotient 25 (Ieee.single.read b)).map Ieee.single.write:=rfl
theorem fdiv_rd (a b:Nat) (fa:a % 2147483648<2139095040) (fb:b % 2147483648<2139095040) (hb:rdm b≠0) :
   fdiv a b=Ieee.single.word (sn a ^^ sn b) (min (rg Ieee.single (2*(rdm a*2 ^ 128 / rdm b)+(rdm a*2 ^ 128 % rdm b != 0).toNat) (-149+(rdk a:Int)-(-149+(rdk b:Int))-128-1)) 2139095040):=by
 obtain ⟨ka,na⟩:=rd_k fa
 obtain ⟨kb,nb⟩:=rd_k fb
 have h0:=div0 a b
 rw [read_rd a fa,read_rd b fb] at h0
 simp only [Ieee.Datum.quotient,if_neg hb,Option.map_some] at h0
 generalize hm:25+(rdm b).log2-(rdm a).log2=more at h0
 rw [Nat.shiftLeft_eq] at h0
 have hf:fdiv a b=Ieee.single.word (sn a ^^ sn b) (min (rg Ieee.single (2*(rdm a*2 ^ more / rdm b)+(rdm a*2 ^ more % rdm b != 0).toNat) (-149+(rdk a:Int)-(-149+(rdk b:Int))-more-1)) 2139095040):=by
   unfold fdiv;rw [h0];exact nearest_word _ _ _
 rw [hf]
 congr 2
 by_cases hz:rdm a=0
 · rw [hz]
   simp only [Nat.zero_mul,Nat.zero_div,Nat.zero_mod]
   unfold rg
   rw [if_pos (by decide),if_pos (by decide)]
 have hbp:0<rdm b:=by omega
 have hlb:=log_lt (n:=rdm b) (k:=24) (by decide) (show rdm b<2 ^ 24 by omega)
 have hla:=log_lt (n:=rdm a) (k:=24) (by decide) (show rdm a<2 ^ 24 by omega)
 have hlt:rdm b<2 ^ ((rdm b).log2+1):=Nat.lt_log2_self
 have hge:2 ^ (rdm a).log2≤rdm a:=Nat.log2_self_le hz
 have hD:16777216≤rdm a*2 ^ more / rdm b:=by
   rw [Nat.le_div_iff_mul_le hbp]
   have h3:2 ^ ((rdm a).log2+more)≤rdm a*2 ^ more:=by rw [Nat.pow_add];exact Nat.mul_le_mul_right _ hge
   have h4:2 ^ (24+((rdm b).log2+1))≤2 ^ ((rdm a).log2+more):=Nat.pow_le_pow_right (by decide) (by omega)
   have h5:16777216*rdm b≤16777216*2 ^ ((rdm b).log2+1):=Nat.mul_le_mul_left _ (Nat.le_of_lt hlt)
   rw [Nat.pow_add 2 24] at h4
   omega
 obtain ⟨d,hd⟩:∃ d,more+d=128:=⟨128-more,by omega⟩
 have:=rg_quot (rdm a) (rdm b) more d (-149+(rdk a:Int)-(-149+(rdk b:Int))-128-1) hbp hD
 rw [hd] at this
 rw [←this]
 congr 1
 omega
theorem fdiv_ii {a b:Nat} (hi:a % 2147483648=2139095040) (hj:b % 2147483648=2139095040):fdiv a b=2143289344:=by
 have h0:=div0 a b
 rw [inf_read hi,inf_read hj] at h0
 unfold fdiv
 rw [h0]
 rfl
theorem fdiv_if {a b:Nat} (hi:a % 2147483648=2139095040) (hf:b % 2147483648<2139095040):fdiv a b=Ieee.single.word (sn a ^^ sn b) 2139095040:=by
 have h0:=div0 a b
 rw [inf_read hi,read_rd b hf] at h0
 unfold fdiv
 rw [h0]
 rfl
theorem fdiv_fi {a b:Nat} (hi:b % 2147483648=2139095040) (hf:a % 2147483648<2139095040):fdiv a b=Ieee.single.word (sn a ^^ sn b) 0:=by
 have h0:=div0 a b
 rw [inf_read hi,read_rd a hf] at h0
 unfold fdiv
 rw [h0]
 rfl
theorem fdiv_fz {a b:Nat} (fa:a % 2147483648<2139095040) (fb:b % 2147483648<2139095040) (hb:rdm b=0):fdiv a b=if rdm a=0 then 2143289344 else Ieee.single.word (sn a ^^ sn b) 2139095040:=by
 have h0:=div0 a b
 rw [read_rd a fa,read_rd b fb] at h0
 unfold fdiv
 rw [h0]
 simp only [Ieee.Datum.quotient,if_pos hb]
 split <;> rfl
theorem layV_endR (m:Bool) (x:Nat) (h:x=wrd m 2139095040):LayV (vE m) x:=fun w=>by
 have:=lay_endless m w
 rw [h];exact this
theorem dec_ne (n:Nat):(decide (0<n)).toNat=(n != 0).toNat:=by
 by_cases h:n=0
 · subst h;rfl
 · rw [decide_eq_true (by omega),show (n != 0)=true by simp [h]]
theorem ratiov_any (a b:Nat) (w:World) (ha:a<4294967296) (hb:b<4294967296) :
   Calls Tryz.prog 141 #[.agg #[.int .i64 24,.int .i64 (-149),.int .i64 104],tv a,tv b] w fun e w'=>(∃ v,e=.returned v∧LayV v (fdiv a b))∧Below w.heap.size w w':=by
 have hx:(sn a ^^ sn b) = !(sg a == sg b):=by rw [xor_neR,sg_sn a ha,sg_sn b hb]
 rcases ok_cases a with ca|ca|ca
 · rw [tv_none ca,fdiv_nan (Or.inl ca)]
   rcases ok_cases b with cb|cb|cb
   · rw [tv_none cb];exact (rt_n1 _ _ _ _ w).mono fun e w' ⟨he,h⟩=>⟨⟨_,he,layV_none⟩,h⟩
   · rw [tv_inf cb];exact (rt_n1 _ _ _ _ w).mono fun e w' ⟨he,h⟩=>⟨⟨_,he,layV_none⟩,h⟩
   · rw [tv_fin cb];exact (rt_n1 _ _ _ _ w).mono fun e w' ⟨he,h⟩=>⟨⟨_,he,layV_none⟩,h⟩
 · rw [tv_inf ca]
   rcases ok_cases b with cb|cb|cb
   · rw [tv_none cb,fdiv_nan (Or.inr cb)];exact (rt_n2 2 _ _ _ rfl w).mono fun e w' ⟨he,h⟩=>⟨⟨_,he,layV_none⟩,h⟩
   · rw [tv_inf cb,fdiv_ii ca cb]
     exact (rt_ee _ _ w).mono fun e w' ⟨he,h⟩=>⟨⟨_,he,layV_none⟩,h⟩
   · rw [tv_fin cb]
     have hf:=fdiv_if ca cb
     rw [hx,word_wrd _ _ (by decide)] at hf
     exact (rt_ef _ _ _ rfl _ _ w).mono fun e w' ⟨he,h⟩=>⟨⟨_,he,layV_endR _ _ hf⟩,h⟩
 · rcases ok_cases b with cb|cb|cb
   · rw [tv_fin ca,tv_none cb,fdiv_nan (Or.inr cb)];exact (rt_n2 3 _ _ _ rfl w).mono fun e w' ⟨he,h⟩=>⟨⟨_,he,layV_none⟩,h⟩
   · rw [tv_fin ca,tv_inf cb]
     have hf:=fdiv_fi cb ca
     rw [hx,word_wrd _ _ (by decide)] at hf
     refine (rt_fe _ _ _ rfl _ _ w).mono fun e w' ⟨he,h⟩=>⟨⟨_,he,?_⟩,h⟩
     have hfit:Fits 0 (-149) 0:=⟨0,by omega,by omega,Or.inl rfl,rfl⟩
     have h9:=layV_fit (m:=!(sg a == sg b)) (x:=fdiv a b) hfit (by rw [hf,Nat.zero_min])
     rw [show hdV (!(sg a == sg b)) 0 (-149)=.agg #[.int .u8 3,.bool (!(sg a == sg b)),.int .u64 ((0:Nat):Int),.int .i64 (-149)] from if_neg (by decide)] at h9
     exact h9
   · rw [tv_fin ca,tv_fin cb]
     obtain ⟨ka,na⟩:=rd_k ca
     obtain ⟨kb,nb⟩:=rd_k cb
     by_cases hz:rdm b=0
     · have hf:=fdiv_fz ca cb hz
       rw [hz]
       by_cases hy:rdm a=0
       · rw [if_pos hy] at hf
         rw [hf,hy]
         exact (rt_zz _ _ _ _ w).mono fun e w' ⟨he,h⟩=>⟨⟨_,he,layV_none⟩,h⟩
       · rw [if_neg hy,hx,word_wrd _ _ (by decide)] at hf
         exact (rt_fz _ _ _ rfl _ _ _ (by rw [beq_eq_false_iff_ne];omega) w).mono fun e w' ⟨he,h⟩=>⟨⟨_,he,layV_endR _ _ hf⟩,h⟩
     · have hf:=fdiv_rd a b ca cb hz
       rw [hx,word_wrd _ _ (Nat.lt_of_le_of_lt (Nat.min_le_right _ _) (by decide)),←dec_ne] at hf
       exact (rt_ff _ _ _ rfl _ _ _ _ _ _ _ _ _ w na nb (by rw [beq_eq_false_iff_ne];omega) (by omega) (by omega) (by omega) (by omega) rfl rfl rfl rfl rfl).mono fun e w' ⟨⟨n,q,he,hq⟩,hbl⟩=>⟨⟨_,he,layV_fit hq hf⟩,hbl⟩
theorem ratios_any (a b:Nat) (w:World) (ha:a<4294967296) (hb:b<4294967296) :
   Calls Tryz.prog 113 #[.int .u32 a,.int .u32 b] w fun e w'=>e=.returned (.int .u32 (fdiv a b))∧Below w.heap.size w w':=by
 have HB:Below w.heap.size w w:=Below.refl _ _
 go_enter Tryz.func113,Tryz.ntmps113
 go_wp2_with (first
   |(go_at_call 106;refine (form_any _).mono ?_;rintro e wq ⟨rfl,hq⟩;subst wq)
   |(go_at_call 100;with_reducible refine (take_any a _ ha).mono ?_;rintro e w1 ⟨rfl,h1⟩;replace HB:Below w.heap.size w w1:=bt2 h1 (by apply_rules [HB,Below.refl,bel,Below.drew,bt3]))
   |(go_at_call 100;with_reducible refine (take_any b _ hb).mono ?_;rintro e w1 ⟨rfl,h1⟩;replace HB:Below w.heap.size w w1:=bt2 h1 (by apply_rules [HB,Below.refl,bel,Below.drew,bt3]))
   |(go_at_call 141;with_reducible refine (ratiov_any a b _ ha hb).mono ?_;rintro e w2 ⟨⟨v,rfl,hv⟩,h2⟩;replace HB:Below w.heap.size w w2:=bt2 h2 (by apply_rules [HB,Below.refl,bel,Below.drew,bt3]))
   |(go_at_call 104;with_reducible refine (layAt hv _).mono ?_;rintro e w3 ⟨rfl,h3⟩;replace HB:Below w.heap.size w w3:=bt2 h3 (by apply_rules [HB,Below.refl,bel,Below.drew,bt3])))
 go_ret
 exact ⟨rfl,HB⟩
theorem rb_add (a b:Nat) (w:World) (ha:a<4294967296) (hb:b<4294967296) :
   Calls Tryz.prog 79 #[.int .u8 39,.int .u32 a,.int .u32 b] w fun e w'=>e=.returned (.tuple #[.int .u32 (((a+b) % 4294967296:Nat):Int),.int .i64 0])∧Below w.heap.size w w':=by
 have hw:wrap64 ((a:Int)+(b:Int))=(a:Int)+(b:Int):=by unfold wrap64;omega
 have cw:∀ w,Calls Tryz.prog 89 #[.int .i64 ((a:Int)+(b:Int))] w fun e w'=>e=.returned (.int .u32 (((a+b) % 4294967296:Nat):Int))∧w'=w:=fun w=>by
   have:=rwrap_any ((a:Int)+(b:Int)) w
   rw [show ((a:Int)+(b:Int)) % 4294967296=(((a+b) % 4294967296:Nat):Int) from by omega] at this
   exact this
 have HB:Below w.heap.size w w:=Below.refl _ _
 go_enter Tryz.func79,Tryz.ntmps79
 go_wp2_with (first
   |(go_at_call 89;with_reducible refine (cw _).mono ?_;rintro e wq ⟨rfl,hq⟩;subst wq))
 all_goals simp [bodyPost,results,Tryz.results79]
 all_goals (repeat (first|exact HB|with_reducible refine Below.drew ?_))
theorem rb_sub (a b:Nat) (w:World) (ha:a<4294967296) (hb:b<4294967296) :
   Calls Tryz.prog 79 #[.int .u8 40,.int .u32 a,.int .u32 b] w fun e w'=>e=.returned (.tuple #[.int .u32 (((a+4294967296-b) % 4294967296:Nat):Int),.int .i64 0])∧Below w.heap.size w w':=by
 have hw:wrap64 ((a:Int)-(b:Int))=(a:Int)-(b:Int):=by unfold wrap64;omega
 have cw:∀ w,Calls Tryz.prog 89 #[.int .i64 ((a:Int)-(b:Int))] w fun e w'=>e=.returned (.int .u32 (((a+4294967296-b) % 4294967296:Nat):Int))∧w'=w:=fun w=>by
   have:=rwrap_any ((a:Int)-(b:Int)) w
   rw [show ((a:Int)-(b:Int)) % 4294967296=(((a+4294967296-b) % 4294967296:Nat):Int) from by omega] at this
   exact this
 have HB:Below w.heap.size w w:=Below.refl _ _
 go_enter Tryz.func79,Tryz.ntmps79
 go_wp2_with (first
   |(go_at_call 89;with_reducible refine (cw _).mono ?_;rintro e wq ⟨rfl,hq⟩;subst wq))
 all_goals simp [bodyPost,results,Tryz.results79]
 all_goals (repeat (first|exact HB|with_reducible refine Below.drew ?_))
theorem rb_div (op a b:Nat) (w:World) (ho:op=42∨op=43∨op=44∨op=45) (ha:a<4294967296) (hb:b<4294967296) :
   Calls Tryz.prog 79 #[.int .u8 op,.int .u32 a,.int .u32 b] w fun e w'=>e=.returned (.tuple #[.int .u32 (binV op a b),.int .i64 (binE op b)])∧Below w.heap.size w w':=by
 have cd:=fun w=>rdiv_any op a b w ho ha hb
 generalize binV op a b=V at *
 generalize binE op b=E at *
 have HB:Below w.heap.size w w:=Below.refl _ _
 rcases ho with rfl|rfl|rfl|rfl
 · have cd':∀ w,Calls Tryz.prog 94 #[.int .u8 42,.int .u32 a,.int .u32 b] w fun e w'=>e=.returned (.tuple #[.int .u32 V,.int .i64 E])∧w'=w:=cd
   clear cd
   go_enter Tryz.func79,Tryz.ntmps79
   go_wp2_with (go_at_call 94;with_reducible refine (cd' _).mono ?_;rintro e wq ⟨rfl,hq⟩;subst wq)
   simp [bodyPost,results,Tryz.results79]
   exact HB
 · have cd':∀ w,Calls Tryz.prog 94 #[.int .u8 43,.int .u32 a,.int .u32 b] w fun e w'=>e=.returned (.tuple #[.int .u32 V,.int .i64 E])∧w'=w:=cd
   clear cd
   go_enter Tryz.func79,Tryz.ntmps79
   go_wp2_with (go_at_call 94;with_reducible refine (cd' _).mono ?_;rintro e wq ⟨rfl,hq⟩;subst wq)
   simp [bodyPost,results,Tryz.results79]
   exact HB
 · have cd':∀ w,Calls Tryz.prog 94 #[.int .u8 44,.int .u32 a,.int .u32 b] w fun e w'=>e=.returned (.tuple #[.int .u32 V,.int .i64 E])∧w'=w:=cd
   clear cd
   go_enter Tryz.func79,Tryz.ntmps79
   go_wp2_with (go_at_call 94;with_reducible refine (cd' _).mono ?_;rintro e wq ⟨rfl,hq⟩;subst wq)
   simp [bodyPost,results,Tryz.results79]
   exact HB
 · have cd':∀ w,Calls Tryz.prog 94 #[.int .u8 45,.int .u32 a,.int .u32 b] w fun e w'=>e=.returned (.tuple #[.int .u32 V,.int .i64 E])∧w'=w:=cd
   clear cd
   go_enter Tryz.func79,Tryz.ntmps79
   go_wp2_with (go_at_call 94;with_reducible refine (cd' _).mono ?_;rintro e wq ⟨rfl,hq⟩;subst wq)
   simp [bodyPost,results,Tryz.results79]
   exact HB
theorem rb_and (a b:Nat) (w:World) (ha:a<4294967296) (hb:b<4294967296) :
   Calls Tryz.prog 79 #[.int .u8 46,.int .u32 a,.int .u32 b] w fun e w'=>e=.returned (.tuple #[.int .u32 ((a &&& b:Nat):Int),.int .i64 0])∧Below w.heap.size w w':=by
 have cb:=fun w=>rbits_and a b w ha hb
 generalize (a &&& b)=V at *
 have HB:Below w.heap.size w w:=Below.refl _ _
 go_enter Tryz.func79,Tryz.ntmps79
 go_wp2_with (first
   |(go_at_call 95;with_reducible refine (cb _).mono ?_;rintro e wq ⟨rfl,hq⟩;replace HB:Below w.heap.size w wq:=btw hq HB))
 all_goals simp [bodyPost,results,Tryz.results79]
 all_goals (repeat (first|exact HB|with_reducible refine Below.drew ?_))
theorem rb_or (a b:Nat) (w:World) (ha:a<4294967296) (hb:b<4294967296) :
   Calls Tryz.prog 79 #[.int .u8 47,.int .u32 a,.int .u32 b] w fun e w'=>e=.returned (.tuple #[.int .u32 ((a ||| b:Nat):Int),.int .i64 0])∧Below w.heap.size w w':=by
 have cb:=fun w=>rbits_or a b w ha hb
 generalize (a ||| b)=V at *
 have HB:Below w.heap.size w w:=Below.refl _ _
 go_enter Tryz.func79,Tryz.ntmps79
 go_wp2_with (first
   |(go_at_call 95;with_reducible refine (cb _).mono ?_;rintro e wq ⟨rfl,hq⟩;replace HB:Below w.heap.size w wq:=btw hq HB))
 all_goals simp [bodyPost,results,Tryz.results79]
 all_goals (repeat (first|exact HB|with_reducible refine Below.drew ?_))
theorem rb_xor (a b:Nat) (w:World) (ha:a<4294967296) (hb:b<4294967296) :
   Calls Tryz.prog 79 #[.int .u8 48,.int .u32 a,.int .u32 b] w fun e w'=>e=.returned (.tuple #[.int .u32 ((a ^^^ b:Nat):Int),.int .i64 0])∧Below w.heap.size w w':=by
 have cb:=fun w=>rbits_xor a b w ha hb
 generalize (a ^^^ b)=V at *
 have HB:Below w.heap.size w w:=Below.refl _ _
 go_enter Tryz.func79,Tryz.ntmps79
 go_wp2_with (first
   |(go_at_call 95;with_reducible refine (cb _).mono ?_;rintro e wq ⟨rfl,hq⟩;replace HB:Below w.heap.size w wq:=btw hq HB))
 all_goals simp [bodyPost,results,Tryz.results79]
 all_goals (repeat (first|exact HB|with_reducible refine Below.drew ?_))
theorem shl_parts (a s:Nat) (hs:s<32):a % 2 ^ (32-s)*2 ^ s=a*2 ^ s % 4294967296:=by
 have e:4294967296=2 ^ (32-s)*2 ^ s:=by rw [←Nat.pow_add,show 32-s+s=32 by omega]
 rw [e,Nat.mul_mod_mul_right]
theorem iw64 {n:Nat} (h:n≤9223372036854775807):IntKind.i64.wrap (n:Int)=(n:Int):=by rw [IntKind.wrap_i64];omega
theorem shl_fits (a s u r m v g:Nat) (sl:s<32) (hu:32-s=u) (ha:a<4294967296) (hr:a % v=r) (hv:0<v) (E:r*g=m) (lm:m<4294967296) :
   IntKind.u32.wrap (32-(s:Int))=(u:Int)∧(32-(s:Int)) % 4294967296=(u:Int)∧(a:Int) % (v:Int)=(r:Int)∧(a:Int).tmod (v:Int)=(r:Int)∧¬ (v:Int)=0∧¬ v=0∧((v:Int) == 0)=false∧(r:Int)*(g:Int)=(m:Int)∧wrap64 (r:Int)=(r:Int)∧wrap64 (m:Int)=(m:Int)∧(m:Int) % 4294967296=(m:Int):=by
 have e1:(32-(s:Int)) % 4294967296=(u:Int):=by omega
 have lr:=Nat.mod_le a v
 rw [hr] at lr
 refine ⟨?_,e1,by rw [←hr];rfl,by rw [←hr];rfl,by omega,by omega,?_,by rw [←E];simp,w64n (by omega),w64n (by omega),by omega⟩
 · rw [show IntKind.u32.wrap (32-(s:Int))=(32-(s:Int)) % 4294967296 by simp [IntKind.wrap,IntKind.signed,IntKind.bits]];exact e1
 · rw [beq_eq_false_iff_ne];omega
theorem rb_shl (a b:Nat) (w:World) (ha:a<4294967296) (hb:b<4294967296) :
   Calls Tryz.prog 79 #[.int .u8 50,.int .u32 a,.int .u32 b] w fun e w'=>e=.returned (.tuple #[.int .u32 ((a*2 ^ (b % 32) % 4294967296:Nat):Int),.int .i64 0])∧Below w.heap.size w w':=by
 obtain ⟨s,hs⟩:∃ s,b % 32=s:=⟨_,rfl⟩
 have sl:s<32:=by omega
 rw [hs]
 have f1:(b:Int) % 32=(s:Int):=by omega
 have f1':(b:Int).tmod 32=(s:Int):=by rw [Int.tmod_eq_emod_of_nonneg (by omega)];exact f1
 have cp:=fun w=>rpow_any s w (by omega)
 have gp:(2:Nat) ^ s≤2147483648:=Nat.pow_le_pow_right (by decide) (show s≤31 by omega)
 have g0:=Nat.two_pow_pos s
 obtain ⟨u,hu⟩:∃ u,32-s=u:=⟨_,rfl⟩
 have cr:=fun w=>rpow_any u w (by omega)
 have E:=shl_parts a s sl
 have gu:=Nat.two_pow_pos u
 rw [hu] at E
 have lm:a*2 ^ s % 4294967296<4294967296:=Nat.mod_lt _ (by decide)
 generalize a*2 ^ s % 4294967296=m at *
 generalize (2:Nat) ^ s=g at *
 generalize (2:Nat) ^ u=v at *
 obtain ⟨r,hr⟩:∃ r,a % v=r:=⟨_,rfl⟩
 rw [hr] at E
 obtain ⟨f2,f2',f3,f3',z1,z2,z3,f4,f5,f6,f7⟩:=shl_fits a s u r m v g sl hu ha hr gu E lm
 have k1:IntKind.i64.wrap (a:Int)=(a:Int):=iw64 (Nat.le_trans (Nat.le_of_lt ha) (by decide))
 have k2:IntKind.i64.wrap (m:Int)=(m:Int):=iw64 (Nat.le_trans (Nat.le_of_lt lm) (by decide))
 clear E hr hs hu gp g0 gu
 have cw:∀ w,Calls Tryz.prog 89 #[.int .i64 (m:Int)] w fun e w'=>e=.returned (.int .u32 ((m:Nat):Int))∧w'=w:=fun w=>by
   have:=rwrap_any (m:Int) w
   rw [show (m:Int) % 4294967296=((m:Nat):Int) from f7] at this
   exact this
 clear f7 lm
 have HB:Below w.heap.size w w:=Below.refl _ _
 go_enter Tryz.func79,Tryz.ntmps79
 go_wp2_with (first
   |(go_at_call 96;with_reducible refine (cp _).mono ?_;rintro e wq ⟨rfl,hq⟩;subst wq)
   |(go_at_call 96;with_reducible refine (cr _).mono ?_;rintro e wq ⟨rfl,hq⟩;subst wq)
   |(go_at_call 89;with_reducible refine (cw _).mono ?_;rintro e wq ⟨rfl,hq⟩;subst wq))
 go_region_held3 (fun _=>True) (trivial) (first
   |(go_at_call 96;with_reducible refine (cp _).mono ?_;rintro e wq ⟨rfl,hq⟩;subst wq)
   |(go_at_call 96;with_reducible refine (cr _).mono ?_;rintro e wq ⟨rfl,hq⟩;subst wq)
   |(go_at_call 89;with_reducible refine (cw _).mono ?_;rintro e wq ⟨rfl,hq⟩;subst wq))
 all_goals go_wp2
 all_goals simp [bodyPost,results,Tryz.results79]
 all_goals (repeat (first|exact HB|with_reducible refine Below.drew ?_))
theorem rb_shru (a b:Nat) (w:World) (ha:a<4294967296) (hb:b<4294967296) :
   Calls Tryz.prog 79 #[.int .u8 52,.int .u32 a,.int .u32 b] w fun e w'=>e=.returned (.tuple #[.int .u32 ((a / 2 ^ (b % 32):Nat):Int),.int .i64 0])∧Below w.heap.size w w':=by
 obtain ⟨s,hs⟩:∃ s,b % 32=s:=⟨_,rfl⟩
 have sl:s<32:=by omega
 rw [hs]
 have f1:(b:Int) % 32=(s:Int):=by omega
 have f1':(b:Int).tmod 32=(s:Int):=by rw [Int.tmod_eq_emod_of_nonneg (by omega)];exact f1
 have cp:=fun w=>rpow_any s w (by omega)
 have gp:(2:Nat) ^ s≤2147483648:=Nat.pow_le_pow_right (by decide) (show s≤31 by omega)
 have g0:=Nat.two_pow_pos s
 have lu:=Nat.div_le_self a (2 ^ s)
 obtain ⟨u,hu⟩:∃ u,a / 2 ^ s=u:=⟨_,rfl⟩
 rw [hu] at lu ⊢
 have q1:(a:Int) / ((2 ^ s:Nat):Int)=(u:Int):=by rw [←hu];rfl
 have q2:(a:Int).tdiv ((2 ^ s:Nat):Int)=(u:Int):=by rw [←hu];rfl
 generalize (2:Nat) ^ s=g at *
 have z1:¬ (g:Int)=0:=by omega
 have z2:¬ g=0:=by omega
 have f5:wrap64 (u:Int)=(u:Int):=by unfold wrap64;omega
 have cw:∀ w,Calls Tryz.prog 89 #[.int .i64 (u:Int)] w fun e w'=>e=.returned (.int .u32 ((u:Nat):Int))∧w'=w:=fun w=>by
   have:=rwrap_any (u:Int) w
   rw [show (u:Int) % 4294967296=((u:Nat):Int) from by omega] at this
   exact this
 clear hu hs gp g0
 have HB:Below w.heap.size w w:=Below.refl _ _
 go_enter Tryz.func79,Tryz.ntmps79
 go_wp2_with (first
   |(go_at_call 96;with_reducible refine (cp _).mono ?_;rintro e wq ⟨rfl,hq⟩;subst wq)
   |(go_at_call 89;with_reducible refine (cw _).mono ?_;rintro e wq ⟨rfl,hq⟩;subst wq))
 all_goals simp [bodyPost,results,Tryz.results79]
 all_goals (repeat (first|exact HB|with_reducible refine Below.drew ?_))
theorem rb_shri (a b:Nat) (w:World) (ha:a<4294967296) (hb:b<4294967296) :
   Calls Tryz.prog 79 #[.int .u8 51,.int .u32 a,.int .u32 b] w fun e w'=>e=.returned (.tuple #[.int .u32 (((sx a / 2 ^ (b % 32) % 4294967296).toNat:Nat):Int),.int .i64 0])∧Below w.heap.size w w':=by
 obtain ⟨s,hs⟩:∃ s,b % 32=s:=⟨_,rfl⟩
 have sl:s<32:=by omega
 rw [hs]
 have f1:(b:Int) % 32=(s:Int):=by omega
 have f1':(b:Int).tmod 32=(s:Int):=by rw [Int.tmod_eq_emod_of_nonneg (by omega)];exact f1
 have cp:=fun w=>rpow_any s w (by omega)
 have gp:(2:Nat) ^ s≤2147483648:=Nat.pow_le_pow_right (by decide) (show s≤31 by omega)
 have g0:=Nat.two_pow_pos s
 have cs:=fun w=>rsig_any a w ha
 obtain ⟨r1,r2⟩:=sx_range ha
 have hg2:((2:Int) ^ s)=((2 ^ s:Nat):Int):=by simp
 rw [hg2]
 generalize (2:Nat) ^ s=g at *
 have cf:=fun w=>rfloor_any (sx a) g w r1 r2 (by omega)
 obtain ⟨q,hq⟩:∃ q,sx a / (g:Int)=q:=⟨_,rfl⟩
 rw [hq] at cf ⊢
 generalize sx a=x at *
 have cw:∀ w,Calls Tryz.prog 89 #[.int .i64 q] w fun e w'=>e=.returned (.int .u32 (((q % 4294967296).toNat:Nat):Int))∧w'=w:=fun w=>by
   have:=rwrap_any q w
   rw [show q % 4294967296=(((q % 4294967296).toNat:Nat):Int) from anat_of.symm] at this
   exact this
 clear hq hs gp g0 hg2
 have HB:Below w.heap.size w w:=Below.refl _ _
 go_enter Tryz.func79,Tryz.ntmps79
 go_wp2_with (first
   |(go_at_call 96;with_reducible refine (cp _).mono ?_;rintro e wq ⟨rfl,hq⟩;subst wq)
   |(go_at_call 80;with_reducible refine (cs _).mono ?_;rintro e wq ⟨rfl,hq⟩;subst wq)
   |(go_at_call 97;with_reducible refine (cf _).mono ?_;rintro e wq ⟨rfl,hq⟩;subst wq)
   |(go_at_call 89;with_reducible refine (cw _).mono ?_;rintro e wq ⟨rfl,hq⟩;subst wq))
 all_goals simp [bodyPost,results,Tryz.results79]
 all_goals (repeat (first|exact HB|with_reducible refine Below.drew ?_))
theorem rf_addf (a b:Nat) (w:World) (ha:a<4294967296) (hb:b<4294967296) :
   Calls Tryz.prog 98 #[.int .u8 54,.int .u32 a,.int .u32 b] w fun e w'=>e=.returned (.tuple #[.int .u32 ((fsum a b:Nat):Int),.int .i64 0])∧Below w.heap.size w w':=by
 have cf:=fun w=>sums_any a b w ha hb
 generalize fsum a b=V at *
 have HB:Below w.heap.size w w:=Below.refl _ _
 go_enter Tryz.func98,Tryz.ntmps98
 go_wp2_with (go_at_call 110;with_reducible refine (cf _).mono ?_;rintro e wq ⟨rfl,hq⟩;replace HB:Below w.heap.size w wq:=btw hq HB)
 simp [bodyPost,results,Tryz.results98]
 exact HB
theorem rf_subf (a b:Nat) (w:World) (ha:a<4294967296) (hb:b<4294967296) :
   Calls Tryz.prog 98 #[.int .u8 55,.int .u32 a,.int .u32 b] w fun e w'=>e=.returned (.tuple #[.int .u32 ((fsum a (tn b):Nat):Int),.int .i64 0])∧Below w.heap.size w w':=by
 have cf:=fun w=>rests_any a b w ha hb
 generalize fsum a (tn b)=V at *
 have HB:Below w.heap.size w w:=Below.refl _ _
 go_enter Tryz.func98,Tryz.ntmps98
 go_wp2_with (go_at_call 111;with_reducible refine (cf _).mono ?_;rintro e wq ⟨rfl,hq⟩;replace HB:Below w.heap.size w wq:=btw hq HB)
 simp [bodyPost,results,Tryz.results98]
 exact HB
theorem rf_mulf (a b:Nat) (w:World) (ha:a<4294967296) (hb:b<4294967296) :
   Calls Tryz.prog 98 #[.int .u8 56,.int .u32 a,.int .u32 b] w fun e w'=>e=.returned (.tuple #[.int .u32 ((fmul a b:Nat):Int),.int .i64 0])∧Below w.heap.size w w':=by
 have cf:=fun w=>products_any a b w ha hb
 generalize fmul a b=V at *
 have HB:Below w.heap.size w w:=Below.refl _ _
 go_enter Tryz.func98,Tryz.ntmps98
 go_wp2_with (go_at_call 112;with_reducible refine (cf _).mono ?_;rintro e wq ⟨rfl,hq⟩;replace HB:Below w.heap.size w wq:=btw hq HB)
 simp [bodyPost,results,Tryz.results98]
 exact HB
theorem rf_divf (a b:Nat) (w:World) (ha:a<4294967296) (hb:b<4294967296) :
   Calls Tryz.prog 98 #[.int .u8 57,.int .u32 a,.int .u32 b] w fun e w'=>e=.returned (.tuple #[.int .u32 ((fdiv a b:Nat):Int),.int .i64 0])∧Below w.heap.size w w':=by
 have cf:=fun w=>ratios_any a b w ha hb
 generalize fdiv a b=V at *
 have HB:Below w.heap.size w w:=Below.refl _ _
 go_enter Tryz.func98,Tryz.ntmps98
 go_wp2_with (go_at_call 113;with_reducible refine (cf _).mono ?_;rintro e wq ⟨rfl,hq⟩;replace HB:Below w.heap.size w wq:=btw hq HB)
 simp [bodyPost,results,Tryz.results98]
 exact HB
theorem rf_none (op a b:Nat) (w:World) (h54:¬ (op:Int)=54) (h55:¬ (op:Int)=55) (h56:¬ (op:Int)=56) (h57:¬ (op:Int)=57) :
   Calls Tryz.prog 98 #[.int .u8 op,.int .u32 a,.int .u32 b] w fun e w'=>e=.returned (.tuple #[.int .u32 0,.int .i64 61])∧Below w.heap.size w w':=by
 have HB:Below w.heap.size w w:=Below.refl _ _
 go_enter Tryz.func98,Tryz.ntmps98
 go_wp2
 simp [bodyPost,results,Tryz.results98]
 exact HB
theorem rb_float (op a b V:Nat) (E:Int) (w:World) (h39:¬ (op:Int)=39) (h40:¬ (op:Int)=40) (h41:¬ (op:Int)=41) (h42:¬ (op:Int)=42) (h43:¬ (op:Int)=43) (h44:¬ (op:Int)=44) (h45:¬ (op:Int)=45) (h46:¬ (op:Int)=46) (h47:¬ (op:Int)=47) (h48:¬ (op:Int)=48) (h50:¬ (op:Int)=50) (h51:¬ (op:Int)=51) (h52:¬ (op:Int)=52)
   (cf:∀ w,Calls Tryz.prog 98 #[.int .u8 op,.int .u32 a,.int .u32 b] w fun e w'=>e=.returned (.tuple #[.int .u32 V,.int .i64 E])∧Below w.heap.size w w') :
   Calls Tryz.prog 79 #[.int .u8 op,.int .u32 a,.int .u32 b] w fun e w'=>e=.returned (.tuple #[.int .u32 V,.int .i64 E])∧Below w.heap.size w w':=by
 have HB:Below w.heap.size w w:=Below.refl _ _
 go_enter Tryz.func79,Tryz.ntmps79
 go_wp2_with (go_at_call 98;with_reducible refine (cf _).mono ?_;rintro e wq ⟨rfl,hq⟩;replace HB:Below w.heap.size w wq:=btw hq HB)
 simp [bodyPost,results,Tryz.results79]
 exact HB
theorem rb_any (op a b:Nat) (w:World) (ha:a<4294967296) (hb:b<4294967296) :
   Calls Tryz.prog 79 #[.int .u8 op,.int .u32 a,.int .u32 b] w fun e w'=>e=.returned (.tuple #[.int .u32 (binV op a b),.int .i64 (binE op b)])∧Below w.heap.size w w':=by
 by_cases h39:op=39
 · subst h39
   rw [binV_39,binE_39]
   exact rb_add a b w ha hb
 by_cases h40:op=40
 · subst h40
   rw [binV_40,binE_40]
   exact rb_sub a b w ha hb
 by_cases h41:op=41
 · subst h41
   rw [binV_41,binE_41]
   exact rb_mul a b w ha hb
 by_cases hd:op=42∨op=43∨op=44∨op=45
 · exact rb_div op a b w hd ha hb
 by_cases h46:op=46
 · subst h46
   rw [binV_46,binE_46]
   exact rb_and a b w ha hb
 by_cases h47:op=47
 · subst h47
   rw [binV_47,binE_47]
   exact rb_or a b w ha hb
 by_cases h48:op=48
 · subst h48
   rw [binV_48,binE_48]
   exact rb_xor a b w ha hb
 by_cases h50:op=50
 · subst h50
   rw [binV_50,binE_50]
   exact rb_shl a b w ha hb
 by_cases h51:op=51
 · subst h51
   rw [binV_51,binE_51]
   exact rb_shri a b w ha hb
 by_cases h52:op=52
 · subst h52
   rw [binV_52,binE_52]
   exact rb_shru a b w ha hb
 by_cases h54:op=54
 · subst h54
   rw [binV_54,binE_54]
   exact rb_float 54 a b _ _ w (by omega) (by omega) (by omega) (by omega) (by omega) (by omega) (by omega) (by omega) (by omega) (by omega) (by omega) (by omega) (by omega) (fun w=>rf_addf a b w ha hb)
 by_cases h55:op=55
 · subst h55
   rw [binV_55,binE_55]
   exact rb_float 55 a b _ _ w (by omega) (by omega) (by omega) (by omega) (by omega) (by omega) (by omega) (by omega) (by omega) (by omega) (by omega) (by omega) (by omega) (fun w=>rf_subf a b w ha hb)
 by_cases h56:op=56
 · subst h56
   rw [binV_56,binE_56]
   exact rb_float 56 a b _ _ w (by omega) (by omega) (by omega) (by omega) (by omega) (by omega) (by omega) (by omega) (by omega) (by omega) (by omega) (by omega) (by omega) (fun w=>rf_mulf a b w ha hb)
 by_cases h57:op=57
 · subst h57
   rw [binV_57,binE_57]
   exact rb_float 57 a b _ _ w (by omega) (by omega) (by omega) (by omega) (by omega) (by omega) (by omega) (by omega) (by omega) (by omega) (by omega) (by omega) (by omega) (fun w=>rf_divf a b w ha hb)
 have h0:binV op a b=0:=by unfold binV;rw [if_neg (by omega),if_neg (by omega),if_neg (by omega),if_neg (by omega),if_neg (by omega),if_neg (by omega),if_neg (by omega),if_neg (by omega),if_neg (by omega),if_neg (by omega),if_neg (by omega),if_neg (by omega),if_neg (by omega),if_neg (by omega),if_neg (by omega),if_neg (by omega),if_neg (by omega)]
 have h1:binE op b=61:=by unfold binE;rw [if_neg hd,if_neg (by omega)]
 rw [h0,h1]
 exact rb_float op a b _ _ w (by omega) (by omega) (by omega) (by omega) (by omega) (by omega) (by omega) (by omega) (by omega) (by omega) (by omega) (by omega) (by omega) (fun w=>rf_none op a b w (by omega) (by omega) (by omega) (by omega))
end Go.Proofs.YtibhlcfligfhdaaGreat
