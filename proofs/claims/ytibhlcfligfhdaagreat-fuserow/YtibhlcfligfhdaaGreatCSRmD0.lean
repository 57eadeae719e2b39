import Derived.Test.YtibhlcfligfhdaaGreatCSPrB
namespace Go.Proofs.YtibhlcfligfhdaaGreat
open Go.RowKit
set_option maxRecDepth 100000
set_option maxHeartbeats 40000000 in
theorem rM3La :
   (∀ (m:Bool) (v0:Value) (x0 NN:Nat) (P0 P:Int) (nb D q R half:Nat) (K:Int) (w:World),(NatV w v0 x0)→(x0<2 ^ (32*6))→(x0*2+1=NN)→(P0-1=P)→(nbits (NN)=nb)→(nb≤4000)→(-5000≤P)→(P≤5000)→(P+nb-24 < -149)→(-149=K)→(P<K)→(K-P=D)→(D≤nb+1)→(NN / 2 ^ D=q)→(q<16777216)→(NN-q*2 ^ D=R)→(2 ^ (D-1)=half)→(R<half)→Calls Tryz.prog 105 #[.agg #[.int .i64 24,.int .i64 (-149),.int .i64 104],.bool m,v0,.int .i64 P0,.bool true] w fun e w'=>e=.returned (hdV m q K)∧Below w.heap.size w w') ∧
   (∀ (m:Bool) (v0:Value) (x0 NN:Nat) (P0 P:Int) (nb D q R half:Nat) (K:Int) (w:World),(NatV w v0 x0)→(x0<2 ^ (32*6))→(x0*2+1=NN)→(P0-1=P)→(nbits (NN)=nb)→(nb≤4000)→(-5000≤P)→(P≤5000)→(P+nb-24 < -149)→(-149=K)→(P<K)→(K-P=D)→(D≤nb+1)→(NN / 2 ^ D=q)→(q<16777216)→(NN-q*2 ^ D=R)→(2 ^ (D-1)=half)→(R=half)→(q % 2=0)→Calls Tryz.prog 105 #[.agg #[.int .i64 24,.int .i64 (-149),.int .i64 104],.bool m,v0,.int .i64 P0,.bool true] w fun e w'=>e=.returned (hdV m q K)∧Below w.heap.size w w') ∧
   (∀ (m:Bool) (v0:Value) (x0 NN:Nat) (P0 P:Int) (nb D q R half:Nat) (K:Int) (w:World),(NatV w v0 x0)→(x0<2 ^ (32*6))→(x0*2+1=NN)→(P0-1=P)→(nbits (NN)=nb)→(nb≤4000)→(-5000≤P)→(P≤5000)→(P+nb-24 < -149)→(-149=K)→(P<K)→(K-P=D)→(D≤nb+1)→(NN / 2 ^ D=q)→(q<16777216)→(NN-q*2 ^ D=R)→(2 ^ (D-1)=half)→(half<R)→∀ (k1:Nat),(q+1=k1)→(k1≠16777216)→Calls Tryz.prog 105 #[.agg #[.int .i64 24,.int .i64 (-149),.int .i64 104],.bool m,v0,.int .i64 P0,.bool true] w fun e w'=>e=.returned (hdV m k1 K)∧Below w.heap.size w w') ∧
   (∀ (m:Bool) (v0:Value) (x0 NN:Nat) (P0 P:Int) (nb D q R half:Nat) (K:Int) (w:World),(NatV w v0 x0)→(x0<2 ^ (32*6))→(x0*2+1=NN)→(P0-1=P)→(nbits (NN)=nb)→(nb≤4000)→(-5000≤P)→(P≤5000)→(P+nb-24 < -149)→(-149=K)→(P<K)→(K-P=D)→(D≤nb+1)→(NN / 2 ^ D=q)→(q<16777216)→(NN-q*2 ^ D=R)→(2 ^ (D-1)=half)→(half<R)→(q+1=16777216)→Calls Tryz.prog 105 #[.agg #[.int .i64 24,.int .i64 (-149),.int .i64 104],.bool m,v0,.int .i64 P0,.bool true] w fun e w'=>e=.returned (hdV m 8388608 (K+1))∧Below w.heap.size w w') ∧
   (∀ (m:Bool) (v0:Value) (x0 NN:Nat) (P0 P:Int) (nb D q R half:Nat) (K:Int) (w:World),(NatV w v0 x0)→(x0<2 ^ (32*6))→(x0*2+1=NN)→(P0-1=P)→(nbits (NN)=nb)→(nb≤4000)→(-5000≤P)→(P≤5000)→(P+nb-24 < -149)→(-149=K)→(P<K)→(K-P=D)→(D≤nb+1)→(NN / 2 ^ D=q)→(q<16777216)→(NN-q*2 ^ D=R)→(2 ^ (D-1)=half)→(R=half)→(q % 2=1)→∀ (k1:Nat),(q+1=k1)→(k1≠16777216)→Calls Tryz.prog 105 #[.agg #[.int .i64 24,.int .i64 (-149),.int .i64 104],.bool m,v0,.int .i64 P0,.bool true] w fun e w'=>e=.returned (hdV m k1 K)∧Below w.heap.size w w') ∧
   (∀ (m:Bool) (v0:Value) (x0 NN:Nat) (P0 P:Int) (nb D q R half:Nat) (K:Int) (w:World),(NatV w v0 x0)→(x0<2 ^ (32*6))→(x0*2+1=NN)→(P0-1=P)→(nbits (NN)=nb)→(nb≤4000)→(-5000≤P)→(P≤5000)→(P+nb-24 < -149)→(-149=K)→(P<K)→(K-P=D)→(D≤nb+1)→(NN / 2 ^ D=q)→(q<16777216)→(NN-q*2 ^ D=R)→(2 ^ (D-1)=half)→(R=half)→(q % 2=1)→(q+1=16777216)→Calls Tryz.prog 105 #[.agg #[.int .i64 24,.int .i64 (-149),.int .i64 104],.bool m,v0,.int .i64 P0,.bool true] w fun e w'=>e=.returned (hdV m 8388608 (K+1))∧Below w.heap.size w w'):=by
 refine ⟨?_,?_,?_,?_,?_,?_⟩
 intro m v0 x0 NN P0 P nb D q R half K w hv0 hx0 hNN hP1 hnb hnl hP hP2 hA hK hKP hX hD hq hql hR hh hs
 rotate_left
 intro m v0 x0 NN P0 P nb D q R half K w hv0 hx0 hNN hP1 hnb hnl hP hP2 hA hK hKP hX hD hq hql hR hh hs hq2
 rotate_left
 intro m v0 x0 NN P0 P nb D q R half K w hv0 hx0 hNN hP1 hnb hnl hP hP2 hA hK hKP hX hD hq hql hR hh hs k1 hk1 ho
 rotate_left
 intro m v0 x0 NN P0 P nb D q R half K w hv0 hx0 hNN hP1 hnb hnl hP hP2 hA hK hKP hX hD hq hql hR hh hs ho
 rotate_left
 intro m v0 x0 NN P0 P nb D q R half K w hv0 hx0 hNN hP1 hnb hnl hP hP2 hA hK hKP hX hD hq hql hR hh hs hq2 k1 hk1 ho
 rotate_left
 intro m v0 x0 NN P0 P nb D q R half K w hv0 hx0 hNN hP1 hnb hnl hP hP2 hA hK hKP hX hD hq hql hR hh hs hq2 ho
 rotate_left
 all_goals (have hql64:q<18446744073709551616:=by have:=hql;omega)
 all_goals (have hD1:1≤D:=by omega)
 all_goals (have hDl:D≤4001:=by omega)
 all_goals (have hqD:q*2 ^ D≤NN:=by rw [←hq];exact Nat.div_mul_le_self _ _)
 all_goals (have hDI:(D:Int)≤(nb:Int)+1:=by have:=hD;omega)
 all_goals (have HQ:Hid (NN / 2 ^ D=q):=hq)
 all_goals (have HR:Hid (NN-q*2 ^ D=R):=hR)
 all_goals (have HH:Hid (2 ^ (D-1)=half):=hh)
 all_goals (have HQD:Hid (q*2 ^ D≤NN):=hqD)
 all_goals (have HDw:Hid (IntKind.i64.wrap (D:Int)=D):=by rw [Hid,IntKind.wrap_i64];omega)
 have HAG:Hid (ag R half = -1):=by rw [Hid];exact ag_lt hs
 rotate_left
 have HAG:Hid (ag R half=0):=by rw [Hid];rw [hs];exact ag_eq _
 rotate_left
 have HAG:Hid (ag R half=1):=by rw [Hid];exact ag_gt hs
 rotate_left
 have HAG:Hid (ag R half=1):=by rw [Hid];exact ag_gt hs
 rotate_left
 have HAG:Hid (ag R half=0):=by rw [Hid];rw [hs];exact ag_eq _
 rotate_left
 have HAG:Hid (ag R half=0):=by rw [Hid];rw [hs];exact ag_eq _
 rotate_left
 all_goals (have hD1':(D:Int)-1=((D-1:Nat):Int):=by omega)
 all_goals (subst hK)
 all_goals (have hX' : -149-P=(D:Int):=hX)
 have ho':((q:Int) == 16777216)=false:=by rw [beq_eq_false_iff_ne];omega
 have HD:Hid (hdV m q (-149)=.agg #[.int .u8 (vS (-149)),.bool m,.int .u64 (vM q (-149)),.int .i64 (vP (-149))]):=hdV_agg m q (-149)
 rotate_left
 have hq3:((q:Int) % 2 == 1)=false:=by rw [beq_eq_false_iff_ne];omega
 have ho':((q:Int) == 16777216)=false:=by rw [beq_eq_false_iff_ne];omega
 have HD:Hid (hdV m q (-149)=.agg #[.int .u8 (vS (-149)),.bool m,.int .u64 (vM q (-149)),.int .i64 (vP (-149))]):=hdV_agg m q (-149)
 rotate_left
 have hk1':(q:Int)+1=(k1:Int):=by omega
 have ho':((k1:Int) == 16777216)=false:=by rw [beq_eq_false_iff_ne];omega
 have HD:Hid (hdV m k1 (-149)=.agg #[.int .u8 (vS (-149)),.bool m,.int .u64 (vM k1 (-149)),.int .i64 (vP (-149))]):=hdV_agg m k1 (-149)
 rotate_left
 have ho':(q:Int)+1=16777216:=by omega
 have HD:Hid (hdV m 8388608 (-148)=.agg #[.int .u8 (vS (-148)),.bool m,.int .u64 (vM 8388608 (-148)),.int .i64 (vP (-148))]):=hdV_agg m 8388608 (-148)
 rotate_left
 have hq3:(q:Int) % 2=1:=by omega
 have hk1':(q:Int)+1=(k1:Int):=by omega
 have ho':((k1:Int) == 16777216)=false:=by rw [beq_eq_false_iff_ne];omega
 have HD:Hid (hdV m k1 (-149)=.agg #[.int .u8 (vS (-149)),.bool m,.int .u64 (vM k1 (-149)),.int .i64 (vP (-149))]):=hdV_agg m k1 (-149)
 rotate_left
 have hq3:(q:Int) % 2=1:=by omega
 have ho':(q:Int)+1=16777216:=by omega
 have HD:Hid (hdV m 8388608 (-148)=.agg #[.int .u8 (vS (-148)),.bool m,.int .u64 (vM 8388608 (-148)),.int .i64 (vP (-148))]):=hdV_agg m 8388608 (-148)
 rotate_left
 all_goals (clear hq hR hh hqD)
 all_goals (have HB:Below ((w.alloc ob).alloc oz).heap.size ((w.alloc ob).alloc oz) ((w.alloc ob).alloc oz):=Below.refl _ _)
 all_goals (have HV0:Hid (NatV ((w.alloc ob).alloc oz) v0 x0):=hv0.on (bel (bel (Below.refl _ _))))
 all_goals (have HX0:Hid (x0<2 ^ (32*6)):=hx0)
 all_goals (have HX1:Hid (x0*2<2 ^ (32*(6+1))):=dbl_lt (k:=6) hx0)
 all_goals (have HNN:Hid (x0*2+1=NN):=hNN)
 all_goals (have HNZ:Hid (NN≠0):=by rw [Hid];omega)
 all_goals (have HNL:Hid (NN<2 ^ (32*(6+1))):=nn_lt (k:=6) hNN hx0)
 all_goals (clear hx0 hv0 hNN)
 all_goals (go_enter Tryz.func105,Tryz.ntmps105)
 all_goals (
   go_wp2_with (first
     |(go_at_call 130;with_reducible refine (up_1 v0 x0 6 _ (HV0.out.on (by apply_rules [Below.refl,bel,Below.drew,bt3])) HX0.out (by omega)).mono ?_;rintro e wa ⟨⟨va,rfl,hva⟩,hba⟩;replace HB:Below ((w.alloc ob).alloc oz).heap.size ((w.alloc ob).alloc oz) wa:=bt2 hba (by apply_rules [HB,Below.refl,bel,Below.drew,bt3]))
     |(go_at_call 107;with_reducible refine (nat_1 _).mono ?_;rintro e wb ⟨⟨vb,rfl,hvb⟩,hbb⟩;replace HB:Below ((w.alloc ob).alloc oz).heap.size ((w.alloc ob).alloc oz) wb:=bt2 hbb (by apply_rules [HB,Below.refl,bel,Below.drew,bt3]);replace hva:=hva.step (by apply_rules [Below.refl,bel,Below.drew,bt3]) hbb)
     |(go_at_call 129;with_reducible refine (plus_nv va vb _ _ (6+1) _ (hva.on (by apply_rules [Below.refl,bel,Below.drew,bt3])) (hvb.on (by apply_rules [Below.refl,bel,Below.drew,bt3])) HX1.out (one_lt (6+1) (by decide)) (by omega)).mono ?_;rintro e wn ⟨⟨vn,rfl,hvn⟩,hbn⟩;replace HB:Below ((w.alloc ob).alloc oz).heap.size ((w.alloc ob).alloc oz) wn:=bt2 hbn (by apply_rules [HB,Below.refl,bel,Below.drew,bt3]);obtain ⟨ao,cap,zs,rfl,hc0,hn0,hval0,hN,hW,hr2⟩:=hvn.dest;rw [HNN.out] at hval0;subst hval0;have hz':=lenz hN HNZ.out;obtain ⟨f0,f1,f2⟩:=kF HB;clear hva hvb hvn hba hbb hbn)))
 all_goals (have hl:zs.length≤100:=by have:=len_pow hN rfl (6+1) HNL.out;omega)
 all_goals (have sz:=fun W hrW=>size_any ao cap zs W (by omega) hrW hW hN)
 all_goals (rw [hnb] at sz)
 all_goals (have HN:Below wn.heap.size wn wn:=Below.refl _ _)
 all_goals (go_quiet (((go_at_call 132);exact Calls.quiet_of_same (sz _ hr2))))
 all_goals (have HB5:True:=trivial)
 all_goals (
   go_wp2_with (first
     |(go_at_call 132;with_reducible refine (sz _ (RU hr2 (by apply_rules [HN,Below.refl,bel,Below.drew,bt3]))).mono ?_;rintro e wq ⟨rfl,hq⟩;subst wq)
     |(go_at_call 109;with_reducible refine (down_any ao cap zs D _ (by omega) (by omega) (RU hr2 (by apply_rules [HN,Below.refl,bel,Below.drew,bt3])) hW).mono ?_;rintro e w1 ⟨⟨v1,rfl,hv1⟩,hb1⟩;obtain ⟨ao1,cap1,zs1,rfl,hc1,hn1,hval1,hN1,hW1,hr1⟩:=hv1.dest;replace HB:Below ((w.alloc ob).alloc oz).heap.size ((w.alloc ob).alloc oz) w1:=bt2 hb1 (by apply_rules [HB,Below.refl,bel,Below.drew,bt3]);replace HN:Below wn.heap.size wn w1:=bt2 hb1 (by apply_rules [HN,Below.refl,bel,Below.drew,bt3]);clear hb1 hv1;rw [HQ.out] at hval1)
     |(go_at_call 108;with_reducible refine (low_any ao1 cap1 zs1 _ (by have:=small_len hN1 hval1 hql64;omega) (RU hr1 (by apply_rules [Below.refl,bel,Below.drew,bt3])) hW1).mono ?_;rintro e wq ⟨rfl,hq⟩;rw [hval1,Nat.mod_eq_of_lt hql64];subst wq;clear hval1 hN1 hW1 hr1 hc1 hn1)
     |(go_at_call 130;with_reducible refine (up_any ao1 cap1 zs1 D _ (by have:=small_len hN1 hval1 hql64;omega) (by omega) (RU hr1 (by apply_rules [Below.refl,bel,Below.drew,bt3])) hW1).mono ?_;rintro e w4 ⟨⟨v4,rfl,hv4⟩,hb4⟩;obtain ⟨ao4,cap4,zs4,rfl,hc4,hn4,hval4,hN4,hW4,hr4⟩:=hv4.dest;replace HB:Below ((w.alloc ob).alloc oz).heap.size ((w.alloc ob).alloc oz) w4:=bt2 hb4 (by apply_rules [HB,Below.refl,bel,Below.drew,bt3]);replace HN:Below wn.heap.size wn w4:=bt2 hb4 (by apply_rules [HN,Below.refl,bel,Below.drew,bt3]);clear hb4 hv4;rw [hval1] at hval4)
     |(go_at_call 130;with_reducible refine (up_any ao6 cap6 zs6 (D-1) _ (by have:=small_len hN6 hval6 (by omega);omega) (by omega) (RU hr6 (by apply_rules [Below.refl,bel,Below.drew,bt3])) hW6).mono ?_;rintro e w7 ⟨⟨v7,rfl,hv7⟩,hb7⟩;obtain ⟨ao7,cap7,zs7,rfl,hc7,hn7,hval7,hN7,hW7,hr7⟩:=hv7.dest;replace HB:Below ((w.alloc ob).alloc oz).heap.size ((w.alloc ob).alloc oz) w7:=bt2 hb7 (by apply_rules [HB,Below.refl,bel,Below.drew,bt3]);replace HN:Below wn.heap.size wn w7:=bt2 hb7 (by apply_rules [HN,Below.refl,bel,Below.drew,bt3]);replace HB5:Below w5.heap.size w5 w7:=bt2 hb7 (by apply_rules [HB5,Below.refl,bel,Below.drew,bt3]);clear hb7 hv7;rw [hval6,Nat.one_mul,HH.out] at hval7)
     |(go_at_call 134;with_reducible refine (less_any ao ao4 cap cap4 zs zs4 _ (by omega) (norm_len hN4 _ (Nat.lt_of_le_of_lt (Nat.le_trans (Nat.le_of_eq hval4) HQD.out) (nv_lt hW))) (Nat.le_trans (Nat.le_of_eq hval4) HQD.out) (RU hr2 (by apply_rules [HN,Below.refl,bel,Below.drew,bt3])) (RU hr4 (by apply_rules [Below.refl,bel,Below.drew,bt3])) hW hW4).mono ?_;rintro e w5 ⟨⟨v5,rfl,hv5⟩,hb5⟩;obtain ⟨ao5,cap5,zs5,rfl,hc5,hn5,hval5,hN5,hW5,hr5⟩:=hv5.dest;replace HB:Below ((w.alloc ob).alloc oz).heap.size ((w.alloc ob).alloc oz) w5:=bt2 hb5 (by apply_rules [HB,Below.refl,bel,Below.drew,bt3]);replace HN:Below wn.heap.size wn w5:=bt2 hb5 (by apply_rules [HN,Below.refl,bel,Below.drew,bt3]);clear hb5 hv5;rw [hval4,HR.out] at hval5;replace HB5:Below w5.heap.size w5 w5:=Below.refl _ _)
     |(go_at_call 107;with_reducible refine (nat_1 _).mono ?_;rintro e w6 ⟨⟨v6,rfl,hv6⟩,hb6⟩;obtain ⟨ao6,cap6,zs6,rfl,hc6,hn6,hval6,hN6,hW6,hr6⟩:=hv6.dest;replace HB:Below ((w.alloc ob).alloc oz).heap.size ((w.alloc ob).alloc oz) w6:=bt2 hb6 (by apply_rules [HB,Below.refl,bel,Below.drew,bt3]);replace HN:Below wn.heap.size wn w6:=bt2 hb6 (by apply_rules [HN,Below.refl,bel,Below.drew,bt3]);replace HB5:Below w5.heap.size w5 w6:=bt2 hb6 (by apply_rules [HB5,Below.refl,bel,Below.drew,bt3]);clear hb6 hv6)
     |(go_at_call 135;with_reducible refine (against_any ao5 ao7 cap5 cap7 zs5 zs7 _ (len5 hN5 hval5 HR.out HQD.out hW hl) (len7 hN7 hval7 HH.out hDl) (RU hr5 (by apply_rules [HB5,Below.refl,bel,Below.drew,bt3])) (RU hr7 (by apply_rules [Below.refl,bel,Below.drew,bt3])) hW5 hW7 hN5 hN7).mono ?_;rintro e wq ⟨rfl,kq,hq⟩;subst wq;rw [hval5,hval7,HAG.out];obtain ⟨f0,f1,f2⟩:=kF HB)
     |(go_at_call 133;with_reducible refine (held_any m k1 (-149) _).mono ?_;rintro e w9 ⟨rfl,hb9⟩;rw [HD.out];replace HB:Below ((w.alloc ob).alloc oz).heap.size ((w.alloc ob).alloc oz) w9:=bt2 hb9 (by apply_rules [HB,Below.refl,bel,Below.drew,bt3]);replace HN:Below wn.heap.size wn w9:=bt2 hb9 (by apply_rules [HN,Below.refl,bel,Below.drew,bt3]);obtain ⟨r0,r1,r2,r3,q0,q1,q2,q3⟩:=kA HB)
     |(go_at_call 133;with_reducible refine (held_lit m (-148) _).mono ?_;rintro e w9 ⟨rfl,hb9⟩;rw [HD.out];replace HB:Below ((w.alloc ob).alloc oz).heap.size ((w.alloc ob).alloc oz) w9:=bt2 hb9 (by apply_rules [HB,Below.refl,bel,Below.drew,bt3]);replace HN:Below wn.heap.size wn w9:=bt2 hb9 (by apply_rules [HN,Below.refl,bel,Below.drew,bt3]);obtain ⟨r0,r1,r2,r3,q0,q1,q2,q3⟩:=kA HB)
     |(go_at_call 133;with_reducible refine (held_any m q (-149) _).mono ?_;rintro e w9 ⟨rfl,hb9⟩;rw [HD.out];replace HB:Below ((w.alloc ob).alloc oz).heap.size ((w.alloc ob).alloc oz) w9:=bt2 hb9 (by apply_rules [HB,Below.refl,bel,Below.drew,bt3]);replace HN:Below wn.heap.size wn w9:=bt2 hb9 (by apply_rules [HN,Below.refl,bel,Below.drew,bt3]);obtain ⟨r0,r1,r2,r3,q0,q1,q2,q3⟩:=kA HB)))
 refine bodyPost_ret (v:=.agg #[.int .u8 (vS (-149)),.bool m,.int .u64 (vM q (-149)),.int .i64 (vP (-149))]) (by simp [results,Tryz.f105,go_sem,r0,r1,r2,r3]) rfl ?_
 exact ⟨by rw [HD.out],kB HB⟩
 refine bodyPost_ret (v:=.agg #[.int .u8 (vS (-149)),.bool m,.int .u64 (vM q (-149)),.int .i64 (vP (-149))]) (by simp [results,Tryz.f105,go_sem,r0,r1,r2,r3]) rfl ?_
 exact ⟨by rw [HD.out],kB HB⟩
 refine bodyPost_ret (v:=.agg #[.int .u8 (vS (-149)),.bool m,.int .u64 (vM k1 (-149)),.int .i64 (vP (-149))]) (by simp [results,Tryz.f105,go_sem,r0,r1,r2,r3]) rfl ?_
 exact ⟨by rw [HD.out],kB HB⟩
 refine bodyPost_ret (v:=.agg #[.int .u8 (vS (-148)),.bool m,.int .u64 (vM 8388608 (-148)),.int .i64 (vP (-148))]) (by simp [results,Tryz.f105,go_sem,r0,r1,r2,r3]) rfl ?_
 exact ⟨by show _=Ending.returned (hdV m 8388608 (-148));rw [HD.out],kB HB⟩
 refine bodyPost_ret (v:=.agg #[.int .u8 (vS (-149)),.bool m,.int .u64 (vM k1 (-149)),.int .i64 (vP (-149))]) (by simp [results,Tryz.f105,go_sem,r0,r1,r2,r3]) rfl ?_
 exact ⟨by rw [HD.out],kB HB⟩
 refine bodyPost_ret (v:=.agg #[.int .u8 (vS (-148)),.bool m,.int .u64 (vM 8388608 (-148)),.int .i64 (vP (-148))]) (by simp [results,Tryz.f105,go_sem,r0,r1,r2,r3]) rfl ?_
 exact ⟨by show _=Ending.returned (hdV m 8388608 (-148));rw [HD.out],kB HB⟩
abbrev rM3Ll:=rM3La.1
abbrev rM3Le:=rM3La.2.1
abbrev rM3Lg:=rM3La.2.2.1
abbrev rM3Lgo:=rM3La.2.2.2.1
abbrev rM3Lx:=rM3La.2.2.2.2.1
abbrev rM3Lxo:=rM3La.2.2.2.2.2

end Go.Proofs.YtibhlcfligfhdaaGreat
