import Derived.Test.YtibhlcfligfhdaaGreatCSRnC
namespace Go.Proofs.YtibhlcfligfhdaaGreat
open Go.RowKit
set_option maxRecDepth 100000
set_option maxHeartbeats 40000000 in
theorem rn3La :
   (∀ (m:Bool) (ao:Option Addr) (cap:Nat) (zs:List Nat) (P:Int) (nb D q R half:Nat) (K:Int) (w:World),(zs.length≤100)→(ReadsU w ao zs w.heap.size)→(Words zs)→(Norm zs)→(zs.length≠0)→(nbits (nv zs)=nb)→(nb≤4000)→(-5000≤P)→(P≤5000)→(P+nb-24 < -149)→(-149=K)→(P<K)→(K-P=D)→(D≤nb+1)→(nv zs / 2 ^ D=q)→(q<16777216)→(nv zs-q*2 ^ D=R)→(2 ^ (D-1)=half)→(R<half)→Calls Tryz.prog 105 #[.agg #[.int .i64 24,.int .i64 (-149),.int .i64 104],.bool m,.slice ao zs.length cap,.int .i64 P,.bool false] w fun e w'=>e=.returned (hdV m q K)∧Below w.heap.size w w') ∧
   (∀ (m:Bool) (ao:Option Addr) (cap:Nat) (zs:List Nat) (P:Int) (nb D q R half:Nat) (K:Int) (w:World),(zs.length≤100)→(ReadsU w ao zs w.heap.size)→(Words zs)→(Norm zs)→(zs.length≠0)→(nbits (nv zs)=nb)→(nb≤4000)→(-5000≤P)→(P≤5000)→(P+nb-24 < -149)→(-149=K)→(P<K)→(K-P=D)→(D≤nb+1)→(nv zs / 2 ^ D=q)→(q<16777216)→(nv zs-q*2 ^ D=R)→(2 ^ (D-1)=half)→(R=half)→(q % 2=0)→Calls Tryz.prog 105 #[.agg #[.int .i64 24,.int .i64 (-149),.int .i64 104],.bool m,.slice ao zs.length cap,.int .i64 P,.bool false] w fun e w'=>e=.returned (hdV m q K)∧Below w.heap.size w w') ∧
   (∀ (m:Bool) (ao:Option Addr) (cap:Nat) (zs:List Nat) (P:Int) (nb D q R half:Nat) (K:Int) (w:World),(zs.length≤100)→(ReadsU w ao zs w.heap.size)→(Words zs)→(Norm zs)→(zs.length≠0)→(nbits (nv zs)=nb)→(nb≤4000)→(-5000≤P)→(P≤5000)→(P+nb-24 < -149)→(-149=K)→(P<K)→(K-P=D)→(D≤nb+1)→(nv zs / 2 ^ D=q)→(q<16777216)→(nv zs-q*2 ^ D=R)→(2 ^ (D-1)=half)→(half<R)→∀ (k1:Nat),(q+1=k1)→(k1≠16777216)→Calls Tryz.prog 105 #[.agg #[.int .i64 24,.int .i64 (-149),.int .i64 104],.bool m,.slice ao zs.length cap,.int .i64 P,.bool false] w fun e w'=>e=.returned (hdV m k1 K)∧Below w.heap.size w w') ∧
   (∀ (m:Bool) (ao:Option Addr) (cap:Nat) (zs:List Nat) (P:Int) (nb D q R half:Nat) (K:Int) (w:World),(zs.length≤100)→(ReadsU w ao zs w.heap.size)→(Words zs)→(Norm zs)→(zs.length≠0)→(nbits (nv zs)=nb)→(nb≤4000)→(-5000≤P)→(P≤5000)→(P+nb-24 < -149)→(-149=K)→(P<K)→(K-P=D)→(D≤nb+1)→(nv zs / 2 ^ D=q)→(q<16777216)→(nv zs-q*2 ^ D=R)→(2 ^ (D-1)=half)→(half<R)→(q+1=16777216)→Calls Tryz.prog 105 #[.agg #[.int .i64 24,.int .i64 (-149),.int .i64 104],.bool m,.slice ao zs.length cap,.int .i64 P,.bool false] w fun e w'=>e=.returned (hdV m 8388608 (K+1))∧Below w.heap.size w w') ∧
   (∀ (m:Bool) (ao:Option Addr) (cap:Nat) (zs:List Nat) (P:Int) (nb D q R half:Nat) (K:Int) (w:World),(zs.length≤100)→(ReadsU w ao zs w.heap.size)→(Words zs)→(Norm zs)→(zs.length≠0)→(nbits (nv zs)=nb)→(nb≤4000)→(-5000≤P)→(P≤5000)→(P+nb-24 < -149)→(-149=K)→(P<K)→(K-P=D)→(D≤nb+1)→(nv zs / 2 ^ D=q)→(q<16777216)→(nv zs-q*2 ^ D=R)→(2 ^ (D-1)=half)→(R=half)→(q % 2=1)→∀ (k1:Nat),(q+1=k1)→(k1≠16777216)→Calls Tryz.prog 105 #[.agg #[.int .i64 24,.int .i64 (-149),.int .i64 104],.bool m,.slice ao zs.length cap,.int .i64 P,.bool false] w fun e w'=>e=.returned (hdV m k1 K)∧Below w.heap.size w w') ∧
   (∀ (m:Bool) (ao:Option Addr) (cap:Nat) (zs:List Nat) (P:Int) (nb D q R half:Nat) (K:Int) (w:World),(zs.length≤100)→(ReadsU w ao zs w.heap.size)→(Words zs)→(Norm zs)→(zs.length≠0)→(nbits (nv zs)=nb)→(nb≤4000)→(-5000≤P)→(P≤5000)→(P+nb-24 < -149)→(-149=K)→(P<K)→(K-P=D)→(D≤nb+1)→(nv zs / 2 ^ D=q)→(q<16777216)→(nv zs-q*2 ^ D=R)→(2 ^ (D-1)=half)→(R=half)→(q % 2=1)→(q+1=16777216)→Calls Tryz.prog 105 #[.agg #[.int .i64 24,.int .i64 (-149),.int .i64 104],.bool m,.slice ao zs.length cap,.int .i64 P,.bool false] w fun e w'=>e=.returned (hdV m 8388608 (K+1))∧Below w.heap.size w w'):=by
 refine ⟨?_,?_,?_,?_,?_,?_⟩
 intro m ao cap zs P nb D q R half K w hl hr hW hN hz hnb hnl hP hP2 hA hK hKP hX hD hq hql hR hh hs
 rotate_left
 intro m ao cap zs P nb D q R half K w hl hr hW hN hz hnb hnl hP hP2 hA hK hKP hX hD hq hql hR hh hs hq2
 rotate_left
 intro m ao cap zs P nb D q R half K w hl hr hW hN hz hnb hnl hP hP2 hA hK hKP hX hD hq hql hR hh hs k1 hk1 ho
 rotate_left
 intro m ao cap zs P nb D q R half K w hl hr hW hN hz hnb hnl hP hP2 hA hK hKP hX hD hq hql hR hh hs ho
 rotate_left
 intro m ao cap zs P nb D q R half K w hl hr hW hN hz hnb hnl hP hP2 hA hK hKP hX hD hq hql hR hh hs hq2 k1 hk1 ho
 rotate_left
 intro m ao cap zs P nb D q R half K w hl hr hW hN hz hnb hnl hP hP2 hA hK hKP hX hD hq hql hR hh hs hq2 ho
 rotate_left
 all_goals (have hz':((zs.length:Int) == 0)=false:=by rw [beq_eq_false_iff_ne];omega)
 all_goals (have sz:=fun W hrW=>size_any ao cap zs W (by omega) hrW hW hN)
 all_goals (rw [hnb] at sz)
 all_goals (have hql64:q<18446744073709551616:=by have:=hql;omega)
 all_goals (have hD1:1≤D:=by omega)
 all_goals (have hDl:D≤4001:=by omega)
 all_goals (have hqD:q*2 ^ D≤nv zs:=by rw [←hq];exact Nat.div_mul_le_self _ _)
 all_goals (have hDI:(D:Int)≤(nb:Int)+1:=by have:=hD;omega)
 all_goals (have HQ:Hid (nv zs / 2 ^ D=q):=hq)
 all_goals (have HR:Hid (nv zs-q*2 ^ D=R):=hR)
 all_goals (have HH:Hid (2 ^ (D-1)=half):=hh)
 all_goals (have HQD:Hid (q*2 ^ D≤nv zs):=hqD)
 all_goals (have HDw:Hid (IntKind.i64.wrap (D:Int)=D):=by rw [Hid,IntKind.wrap_i64];omega)
 have HAG:Hid (ag R half = -1):=by rw [Hid];exact ag_lt hs
 rotate_left
 have HAG:Hid (ag R half=0):=by rw [Hid];rw [hs];exact ag_eq _
 rotate_left
 have HAG:Hid (ag R half=1):=by rw [Hid];exact ag_gt hs
 rotate_left
 have HAG:Hid (ag R half=1):=by rw [Hid];exact ag_gt hs
 rotate_left
 have HAG:Hid (ag R half=0):=by rw [Hid];rw [hs];exact ag_eq _
 rotate_left
 have HAG:Hid (ag R half=0):=by rw [Hid];rw [hs];exact ag_eq _
 rotate_left
 all_goals (have hD1':(D:Int)-1=((D-1:Nat):Int):=by omega)
 all_goals (subst hK)
 all_goals (have hX' : -149-P=(D:Int):=hX)
 have ho':((q:Int) == 16777216)=false:=by rw [beq_eq_false_iff_ne];omega
 have HD:Hid (hdV m q (-149)=.agg #[.int .u8 (vS (-149)),.bool m,.int .u64 (vM q (-149)),.int .i64 (vP (-149))]):=hdV_agg m q (-149)
 rotate_left
 have hq3:((q:Int) % 2 == 1)=false:=by rw [beq_eq_false_iff_ne];omega
 have ho':((q:Int) == 16777216)=false:=by rw [beq_eq_false_iff_ne];omega
 have HD:Hid (hdV m q (-149)=.agg #[.int .u8 (vS (-149)),.bool m,.int .u64 (vM q (-149)),.int .i64 (vP (-149))]):=hdV_agg m q (-149)
 rotate_left
 have hk1':(q:Int)+1=(k1:Int):=by omega
 have ho':((k1:Int) == 16777216)=false:=by rw [beq_eq_false_iff_ne];omega
 have HD:Hid (hdV m k1 (-149)=.agg #[.int .u8 (vS (-149)),.bool m,.int .u64 (vM k1 (-149)),.int .i64 (vP (-149))]):=hdV_agg m k1 (-149)
 rotate_left
 have ho':(q:Int)+1=16777216:=by omega
 have HD:Hid (hdV m 8388608 (-148)=.agg #[.int .u8 (vS (-148)),.bool m,.int .u64 (vM 8388608 (-148)),.int .i64 (vP (-148))]):=hdV_agg m 8388608 (-148)
 rotate_left
 have hq3:(q:Int) % 2=1:=by omega
 have hk1':(q:Int)+1=(k1:Int):=by omega
 have ho':((k1:Int) == 16777216)=false:=by rw [beq_eq_false_iff_ne];omega
 have HD:Hid (hdV m k1 (-149)=.agg #[.int .u8 (vS (-149)),.bool m,.int .u64 (vM k1 (-149)),.int .i64 (vP (-149))]):=hdV_agg m k1 (-149)
 rotate_left
 have hq3:(q:Int) % 2=1:=by omega
 have ho':(q:Int)+1=16777216:=by omega
 have HD:Hid (hdV m 8388608 (-148)=.agg #[.int .u8 (vS (-148)),.bool m,.int .u64 (vM 8388608 (-148)),.int .i64 (vP (-148))]):=hdV_agg m 8388608 (-148)
 rotate_left
 all_goals (have hr2:ReadsU ((w.alloc ob).alloc oz) ao zs ((w.alloc ob).alloc oz).heap.size:=RU hr (bel (bel (Below.refl _ _))))
 all_goals (clear hq hR hh hqD hr)
 all_goals (go_enter Tryz.func105,Tryz.ntmps105)
 all_goals (go_wp2)
 all_goals (go_quiet (((go_at_call 132);exact Calls.quiet_of_same (sz _ hr2))))
 all_goals (have HB:Below ((w.alloc ob).alloc oz).heap.size ((w.alloc ob).alloc oz) ((w.alloc ob).alloc oz):=Below.refl _ _)
 all_goals (have HB5:True:=trivial)
 all_goals (
   go_wp2_with (first
     |(go_at_call 132;with_reducible refine (sz _ (RU hr2 (by apply_rules [HB,Below.refl,bel,Below.drew,bt3]))).mono ?_;rintro e wq ⟨rfl,hq⟩;subst wq)
     |(go_at_call 109;with_reducible refine (down_any ao cap zs D _ (by omega) (by omega) (RU hr2 (by apply_rules [HB,Below.refl,bel,Below.drew,bt3])) hW).mono ?_;rintro e w1 ⟨⟨v1,rfl,hv1⟩,hb1⟩;obtain ⟨ao1,cap1,zs1,rfl,hc1,hn1,hval1,hN1,hW1,hr1⟩:=hv1.dest;replace HB:Below ((w.alloc ob).alloc oz).heap.size ((w.alloc ob).alloc oz) w1:=bt2 hb1 (by apply_rules [HB,Below.refl,bel,Below.drew,bt3]);clear hb1 hv1;rw [HQ.out] at hval1)
     |(go_at_call 108;with_reducible refine (low_any ao1 cap1 zs1 _ (by have:=small_len hN1 hval1 hql64;omega) (RU hr1 (by apply_rules [Below.refl,bel,Below.drew,bt3])) hW1).mono ?_;rintro e wq ⟨rfl,hq⟩;rw [hval1,Nat.mod_eq_of_lt hql64];subst wq;clear hval1 hN1 hW1 hr1 hc1 hn1)
     |(go_at_call 130;with_reducible refine (up_any ao1 cap1 zs1 D _ (by have:=small_len hN1 hval1 hql64;omega) (by omega) (RU hr1 (by apply_rules [Below.refl,bel,Below.drew,bt3])) hW1).mono ?_;rintro e w4 ⟨⟨v4,rfl,hv4⟩,hb4⟩;obtain ⟨ao4,cap4,zs4,rfl,hc4,hn4,hval4,hN4,hW4,hr4⟩:=hv4.dest;replace HB:Below ((w.alloc ob).alloc oz).heap.size ((w.alloc ob).alloc oz) w4:=bt2 hb4 (by apply_rules [HB,Below.refl,bel,Below.drew,bt3]);clear hb4 hv4;rw [hval1] at hval4)
     |(go_at_call 130;with_reducible refine (up_any ao6 cap6 zs6 (D-1) _ (by have:=small_len hN6 hval6 (by omega);omega) (by omega) (RU hr6 (by apply_rules [Below.refl,bel,Below.drew,bt3])) hW6).mono ?_;rintro e w7 ⟨⟨v7,rfl,hv7⟩,hb7⟩;obtain ⟨ao7,cap7,zs7,rfl,hc7,hn7,hval7,hN7,hW7,hr7⟩:=hv7.dest;replace HB:Below ((w.alloc ob).alloc oz).heap.size ((w.alloc ob).alloc oz) w7:=bt2 hb7 (by apply_rules [HB,Below.refl,bel,Below.drew,bt3]);replace HB5:Below w5.heap.size w5 w7:=bt2 hb7 (by apply_rules [HB5,Below.refl,bel,Below.drew,bt3]);clear hb7 hv7;rw [hval6,Nat.one_mul,HH.out] at hval7)
     |(go_at_call 134;with_reducible refine (less_any ao ao4 cap cap4 zs zs4 _ (by omega) (norm_len hN4 _ (Nat.lt_of_le_of_lt (Nat.le_trans (Nat.le_of_eq hval4) HQD.out) (nv_lt hW))) (Nat.le_trans (Nat.le_of_eq hval4) HQD.out) (RU hr2 (by apply_rules [HB,Below.refl,bel,Below.drew,bt3])) (RU hr4 (by apply_rules [Below.refl,bel,Below.drew,bt3])) hW hW4).mono ?_;rintro e w5 ⟨⟨v5,rfl,hv5⟩,hb5⟩;obtain ⟨ao5,cap5,zs5,rfl,hc5,hn5,hval5,hN5,hW5,hr5⟩:=hv5.dest;replace HB:Below ((w.alloc ob).alloc oz).heap.size ((w.alloc ob).alloc oz) w5:=bt2 hb5 (by apply_rules [HB,Below.refl,bel,Below.drew,bt3]);clear hb5 hv5;rw [hval4,HR.out] at hval5;replace HB5:Below w5.heap.size w5 w5:=Below.refl _ _)
     |(go_at_call 107;with_reducible refine (nat_1 _).mono ?_;rintro e w6 ⟨⟨v6,rfl,hv6⟩,hb6⟩;obtain ⟨ao6,cap6,zs6,rfl,hc6,hn6,hval6,hN6,hW6,hr6⟩:=hv6.dest;replace HB:Below ((w.alloc ob).alloc oz).heap.size ((w.alloc ob).alloc oz) w6:=bt2 hb6 (by apply_rules [HB,Below.refl,bel,Below.drew,bt3]);replace HB5:Below w5.heap.size w5 w6:=bt2 hb6 (by apply_rules [HB5,Below.refl,bel,Below.drew,bt3]);clear hb6 hv6)
     |(go_at_call 135;with_reducible refine (against_any ao5 ao7 cap5 cap7 zs5 zs7 _ (len5 hN5 hval5 HR.out HQD.out hW hl) (len7 hN7 hval7 HH.out hDl) (RU hr5 (by apply_rules [HB5,Below.refl,bel,Below.drew,bt3])) (RU hr7 (by apply_rules [Below.refl,bel,Below.drew,bt3])) hW5 hW7 hN5 hN7).mono ?_;rintro e wq ⟨rfl,kq,hq⟩;subst wq;rw [hval5,hval7,HAG.out];obtain ⟨f0,f1,f2⟩:=kF HB)
     |(go_at_call 133;with_reducible refine (held_any m k1 (-149) _).mono ?_;rintro e w9 ⟨rfl,hb9⟩;rw [HD.out];replace HB:Below ((w.alloc ob).alloc oz).heap.size ((w.alloc ob).alloc oz) w9:=bt2 hb9 (by apply_rules [HB,Below.refl,bel,Below.drew,bt3]);obtain ⟨r0,r1,r2,r3,q0,q1,q2,q3⟩:=kA HB)
     |(go_at_call 133;with_reducible refine (held_lit m (-148) _).mono ?_;rintro e w9 ⟨rfl,hb9⟩;rw [HD.out];replace HB:Below ((w.alloc ob).alloc oz).heap.size ((w.alloc ob).alloc oz) w9:=bt2 hb9 (by apply_rules [HB,Below.refl,bel,Below.drew,bt3]);obtain ⟨r0,r1,r2,r3,q0,q1,q2,q3⟩:=kA HB)
     |(go_at_call 133;with_reducible refine (held_any m q (-149) _).mono ?_;rintro e w9 ⟨rfl,hb9⟩;rw [HD.out];replace HB:Below ((w.alloc ob).alloc oz).heap.size ((w.alloc ob).alloc oz) w9:=bt2 hb9 (by apply_rules [HB,Below.refl,bel,Below.drew,bt3]);obtain ⟨r0,r1,r2,r3,q0,q1,q2,q3⟩:=kA HB)))
 refine bodyPost_ret (v:=.agg #[.int .u8 (vS (-149)),.bool m,.int .u64 (vM q (-149)),.int .i64 (vP (-149))]) (by simp [results,Tryz.f105,go_sem,r0,r1,r2,r3]) rfl ?_
 exact ⟨by rw [HD.out],kB HB⟩
 refine bodyPost_ret (v:=.agg #[.int .u8 (vS (-149)),.bool m,.int .u64 (vM q (-149)),.int .i64 (vP (-149))]) (by simp [results,Tryz.f105,go_sem,r0,r1,r2,r3]) rfl ?_
 exact ⟨by rw [HD.out],kB HB⟩
 refine bodyPost_ret (v:=.agg #[.int .u8 (vS (-149)),.bool m,.int .u64 (vM k1 (-149)),.int .i64 (vP (-149))]) (by simp [results,Tryz.f105,go_sem,r0,r1,r2,r3]) rfl ?_
 exact ⟨by rw [HD.out],kB HB⟩
 refine bodyPost_ret (v:=.agg #[.int .u8 (vS (-148)),.bool m,.int .u64 (vM 8388608 (-148)),.int .i64 (vP (-148))]) (by simp [results,Tryz.f105,go_sem,r0,r1,r2,r3]) rfl ?_
 exact ⟨by show _=Ending.returned (hdV m 8388608 (-148));rw [HD.out],kB HB⟩
 refine bodyPost_ret (v:=.agg #[.int .u8 (vS (-149)),.bool m,.int .u64 (vM k1 (-149)),.int .i64 (vP (-149))]) (by simp [results,Tryz.f105,go_sem,r0,r1,r2,r3]) rfl ?_
 exact ⟨by rw [HD.out],kB HB⟩
 refine bodyPost_ret (v:=.agg #[.int .u8 (vS (-148)),.bool m,.int .u64 (vM 8388608 (-148)),.int .i64 (vP (-148))]) (by simp [results,Tryz.f105,go_sem,r0,r1,r2,r3]) rfl ?_
 exact ⟨by show _=Ending.returned (hdV m 8388608 (-148));rw [HD.out],kB HB⟩
abbrev rnd3Ll:=rn3La.1
abbrev rnd3Le:=rn3La.2.1
abbrev rnd3Lg:=rn3La.2.2.1
abbrev rnd3Lgo:=rn3La.2.2.2.1
abbrev rnd3Lx:=rn3La.2.2.2.2.1
abbrev rnd3Lxo:=rn3La.2.2.2.2.2

end Go.Proofs.YtibhlcfligfhdaaGreat
