import Derived.Test.YtibhlcfligfhdaaGreatCSRnC
import Derived.Test.YtibhlcfligfhdaaGreatCSRnD0
namespace Go.Proofs.YtibhlcfligfhdaaGreat
set_option maxHeartbeats 40000000
open Go.RowKit
set_option maxRecDepth 100000
theorem rn3Ha :
   (∀ (m:Bool) (ao:Option Addr) (cap:Nat) (zs:List Nat) (P:Int) (nb D q R half:Nat) (K:Int) (w:World),(zs.length≤100)→(ReadsU w ao zs w.heap.size)→(Words zs)→(Norm zs)→(zs.length≠0)→(nbits (nv zs)=nb)→(nb≤4000)→(-5000≤P)→(P≤5000)→(¬ P+nb-24 < -149)→(P+nb-24=K)→(P<K)→(K-P=D)→(D≤nb+1)→(nv zs / 2 ^ D=q)→(q<16777216)→(nv zs-q*2 ^ D=R)→(2 ^ (D-1)=half)→(R<half)→Calls Tryz.prog 105 #[.agg #[.int .i64 24,.int .i64 (-149),.int .i64 104],.bool m,.slice ao zs.length cap,.int .i64 P,.bool false] w fun e w'=>e=.returned (hdV m q K)∧Below w.heap.size w w') ∧
   (∀ (m:Bool) (ao:Option Addr) (cap:Nat) (zs:List Nat) (P:Int) (nb D q R half:Nat) (K:Int) (w:World),(zs.length≤100)→(ReadsU w ao zs w.heap.size)→(Words zs)→(Norm zs)→(zs.length≠0)→(nbits (nv zs)=nb)→(nb≤4000)→(-5000≤P)→(P≤5000)→(¬ P+nb-24 < -149)→(P+nb-24=K)→(P<K)→(K-P=D)→(D≤nb+1)→(nv zs / 2 ^ D=q)→(q<16777216)→(nv zs-q*2 ^ D=R)→(2 ^ (D-1)=half)→(R=half)→(q % 2=0)→Calls Tryz.prog 105 #[.agg #[.int .i64 24,.int .i64 (-149),.int .i64 104],.bool m,.slice ao zs.length cap,.int .i64 P,.bool false] w fun e w'=>e=.returned (hdV m q K)∧Below w.heap.size w w') ∧
   (∀ (m:Bool) (ao:Option Addr) (cap:Nat) (zs:List Nat) (P:Int) (nb D q R half:Nat) (K:Int) (w:World),(zs.length≤100)→(ReadsU w ao zs w.heap.size)→(Words zs)→(Norm zs)→(zs.length≠0)→(nbits (nv zs)=nb)→(nb≤4000)→(-5000≤P)→(P≤5000)→(¬ P+nb-24 < -149)→(P+nb-24=K)→(P<K)→(K-P=D)→(D≤nb+1)→(nv zs / 2 ^ D=q)→(q<16777216)→(nv zs-q*2 ^ D=R)→(2 ^ (D-1)=half)→(half<R)→∀ (k1:Nat),(q+1=k1)→(k1≠16777216)→Calls Tryz.prog 105 #[.agg #[.int .i64 24,.int .i64 (-149),.int .i64 104],.bool m,.slice ao zs.length cap,.int .i64 P,.bool false] w fun e w'=>e=.returned (hdV m k1 K)∧Below w.heap.size w w') ∧
   (∀ (m:Bool) (ao:Option Addr) (cap:Nat) (zs:List Nat) (P:Int) (nb D q R half:Nat) (K:Int) (w:World),(zs.length≤100)→(ReadsU w ao zs w.heap.size)→(Words zs)→(Norm zs)→(zs.length≠0)→(nbits (nv zs)=nb)→(nb≤4000)→(-5000≤P)→(P≤5000)→(¬ P+nb-24 < -149)→(P+nb-24=K)→(P<K)→(K-P=D)→(D≤nb+1)→(nv zs / 2 ^ D=q)→(q<16777216)→(nv zs-q*2 ^ D=R)→(2 ^ (D-1)=half)→(half<R)→(q+1=16777216)→Calls Tryz.prog 105 #[.agg #[.int .i64 24,.int .i64 (-149),.int .i64 104],.bool m,.slice ao zs.length cap,.int .i64 P,.bool false] w fun e w'=>e=.returned (hdV m 8388608 (K+1))∧Below w.heap.size w w') ∧
   (∀ (m:Bool) (ao:Option Addr) (cap:Nat) (zs:List Nat) (P:Int) (nb D q R half:Nat) (K:Int) (w:World),(zs.length≤100)→(ReadsU w ao zs w.heap.size)→(Words zs)→(Norm zs)→(zs.length≠0)→(nbits (nv zs)=nb)→(nb≤4000)→(-5000≤P)→(P≤5000)→(¬ P+nb-24 < -149)→(P+nb-24=K)→(P<K)→(K-P=D)→(D≤nb+1)→(nv zs / 2 ^ D=q)→(q<16777216)→(nv zs-q*2 ^ D=R)→(2 ^ (D-1)=half)→(R=half)→(q % 2=1)→∀ (k1:Nat),(q+1=k1)→(k1≠16777216)→Calls Tryz.prog 105 #[.agg #[.int .i64 24,.int .i64 (-149),.int .i64 104],.bool m,.slice ao zs.length cap,.int .i64 P,.bool false] w fun e w'=>e=.returned (hdV m k1 K)∧Below w.heap.size w w') ∧
   (∀ (m:Bool) (ao:Option Addr) (cap:Nat) (zs:List Nat) (P:Int) (nb D q R half:Nat) (K:Int) (w:World),(zs.length≤100)→(ReadsU w ao zs w.heap.size)→(Words zs)→(Norm zs)→(zs.length≠0)→(nbits (nv zs)=nb)→(nb≤4000)→(-5000≤P)→(P≤5000)→(¬ P+nb-24 < -149)→(P+nb-24=K)→(P<K)→(K-P=D)→(D≤nb+1)→(nv zs / 2 ^ D=q)→(q<16777216)→(nv zs-q*2 ^ D=R)→(2 ^ (D-1)=half)→(R=half)→(q % 2=1)→(q+1=16777216)→Calls Tryz.prog 105 #[.agg #[.int .i64 24,.int .i64 (-149),.int .i64 104],.bool m,.slice ao zs.length cap,.int .i64 P,.bool false] w fun e w'=>e=.returned (hdV m 8388608 (K+1))∧Below w.heap.size w w'):=by
 refine ⟨?_,?_,?_,?_,?_,?_⟩
 intro m ao cap zs P nb D q R half K w hl hr hW hN hz hnb hnl hP hP2 hA hK hKP hX hD hq hql hR hh hs
 rotate_left
 intro m ao cap zs P nb D q R half K w hl hr hW hN hz hnb hnl hP hP2 hA hK hKP hX hD hq hql hR hh hs hq2
 rotate_left
 intro m ao cap zs P nb D q R half K w hl hr hW hN hz hnb hnl hP hP2 hA hK hKP hX hD hq hql hR hh hs k1 hk1 ho
 rotate_left
 intro m ao cap zs P nb D q R half K w hl hr hW hN hz hnb hnl hP hP2 hA hK hKP hX hD hq hql hR hh hs ho
 rotate_left
 intro m ao cap zs P nb D q R half K w hl hr hW hN hz hnb hnl hP hP2 hA hK hKP hX hD hq hql hR hh hs hq2 k1 hk1 ho
 rotate_left
 intro m ao cap zs P nb D q R half K w hl hr hW hN hz hnb hnl hP hP2 hA hK hKP hX hD hq hql hR hh hs hq2 ho
 rotate_left
 all_goals (have hz':((zs.length:Int) == 0)=false:=by rw [beq_eq_false_iff_ne];omega)
 all_goals (have sz:=fun W hrW=>size_any ao cap zs W (by omega) hrW hW hN)
 all_goals (rw [hnb] at sz)
 all_goals (have hql64:q<18446744073709551616:=by have:=hql;omega)
 all_goals (have hD1:1≤D:=by omega)
 all_goals (have hDl:D≤4001:=by omega)
 all_goals (have hqD:q*2 ^ D≤nv zs:=by rw [←hq];exact Nat.div_mul_le_self _ _)
 all_goals (have hDI:(D:Int)≤(nb:Int)+1:=by have:=hD;omega)
 all_goals (have HQ:Hid (nv zs / 2 ^ D=q):=hq)
 all_goals (have HR:Hid (nv zs-q*2 ^ D=R):=hR)
 all_goals (have HH:Hid (2 ^ (D-1)=half):=hh)
 all_goals (have HQD:Hid (q*2 ^ D≤nv zs):=hqD)
 all_goals (have HDw:Hid (IntKind.i64.wrap (D:Int)=D):=by rw [Hid,IntKind.wrap_i64];omega)
 have HAG:Hid (ag R half = -1):=by rw [Hid];exact ag_lt hs
 rotate_left
 have HAG:Hid (ag R half=0):=by rw [Hid];rw [hs];exact ag_eq _
 rotate_left
 have HAG:Hid (ag R half=1):=by rw [Hid];exact ag_gt hs
 rotate_left
 have HAG:Hid (ag R half=1):=by rw [Hid];exact ag_gt hs
 rotate_left
 have HAG:Hid (ag R half=0):=by rw [Hid];rw [hs];exact ag_eq _
 rotate_left
 have HAG:Hid (ag R half=0):=by rw [Hid];rw [hs];exact ag_eq _
 rotate_left
 all_goals (have hD1':(D:Int)-1=((D-1:Nat):Int):=by omega)
 all_goals (have hA':(-149:Int)≤K:=by omega)
 have ho':((q:Int) == 16777216)=false:=by rw [beq_eq_false_iff_ne];omega
 have HD:Hid (hdV m q K=.agg #[.int .u8 (vS K),.bool m,.int .u64 (vM q K),.int .i64 (vP K)]):=hdV_agg m q K
 rotate_left
 have hq3:((q:Int) % 2 == 1)=false:=by rw [beq_eq_false_iff_ne];omega
 have ho':((q:Int) == 16777216)=false:=by rw [beq_eq_false_iff_ne];omega
 have HD:Hid (hdV m q K=.agg #[.int .u8 (vS K),.bool m,.int .u64 (vM q K),.int .i64 (vP K)]):=hdV_agg m q K
 rotate_left
 have hk1':(q:Int)+1=(k1:Int):=by omega
 have ho':((k1:Int) == 16777216)=false:=by rw [beq_eq_false_iff_ne];omega
 have HD:Hid (hdV m k1 K=.agg #[.int .u8 (vS K),.bool m,.int .u64 (vM k1 K),.int .i64 (vP K)]):=hdV_agg m k1 K
 rotate_left
 have ho':(q:Int)+1=16777216:=by omega
 have HD:Hid (hdV m 8388608 (K+1)=.agg #[.int .u8 (vS (K+1)),.bool m,.int .u64 (vM 8388608 (K+1)),.int .i64 (vP (K+1))]):=hdV_agg m 8388608 (K+1)
 rotate_left
 have hq3:(q:Int) % 2=1:=by omega
 have hk1':(q:Int)+1=(k1:Int):=by omega
 have ho':((k1:Int) == 16777216)=false:=by rw [beq_eq_false_iff_ne];omega
 have HD:Hid (hdV m k1 K=.agg #[.int .u8 (vS K),.bool m,.int .u64 (vM k1 K),.int .i64 (vP K)]):=hdV_agg m k1 K
 rotate_left
 have hq3:(q:Int) % 2=1:=by omega
 have ho':(q:Int)+1=16777216:=by omega
 have HD:Hid (hdV m 8388608 (K+1)=.agg #[.int .u8 (vS (K+1)),.bool m,.int .u64 (vM 8388608 (K+1)),.int .i64 (vP (K+1))]):=hdV_agg m 8388608 (K+1)
 rotate_left
 all_goals (have hr2:ReadsU ((w.alloc ob).alloc oz) ao zs ((w.alloc ob).alloc oz).heap.size:=RU hr (bel (bel (Below.refl _ _))))
 all_goals (clear hq hR hh hqD hr)
 all_goals (go_enter Tryz.func105,Tryz.ntmps105)
 all_goals (go_wp2)
 all_goals (go_quiet (((go_at_call 132);exact Calls.quiet_of_same (sz _ hr2))))
 all_goals (have HB:Below ((w.alloc ob).alloc oz).heap.size ((w.alloc ob).alloc oz) ((w.alloc ob).alloc oz):=Below.refl _ _)
 all_goals (have HB5:True:=trivial)
 all_goals (
   go_wp2_with (first
     |(go_at_call 132;with_reducible refine (sz _ (RU hr2 (by apply_rules [HB,Below.refl,bel,Below.drew,bt3]))).mono ?_;rintro e wq ⟨rfl,hq⟩;subst wq)
     |(go_at_call 109;with_reducible refine (down_any ao cap zs D _ (by omega) (by omega) (RU hr2 (by apply_rules [HB,Below.refl,bel,Below.drew,bt3])) hW).mono ?_;rintro e w1 ⟨⟨v1,rfl,hv1⟩,hb1⟩;obtain ⟨ao1,cap1,zs1,rfl,hc1,hn1,hval1,hN1,hW1,hr1⟩:=hv1.dest;replace HB:Below ((w.alloc ob).alloc oz).heap.size ((w.alloc ob).alloc oz) w1:=bt2 hb1 (by apply_rules [HB,Below.refl,bel,Below.drew,bt3]);clear hb1 hv1;rw [HQ.out] at hval1)
     |(go_at_call 108;with_reducible refine (low_any ao1 cap1 zs1 _ (by have:=small_len hN1 hval1 hql64;omega) (RU hr1 (by apply_rules [Below.refl,bel,Below.drew,bt3])) hW1).mono ?_;rintro e wq ⟨rfl,hq⟩;rw [hval1,Nat.mod_eq_of_lt hql64];subst wq;clear hval1 hN1 hW1 hr1 hc1 hn1)
     |(go_at_call 130;with_reducible refine (up_any ao1 cap1 zs1 D _ (by have:=small_len hN1 hval1 hql64;omega) (by omega) (RU hr1 (by apply_rules [Below.refl,bel,Below.drew,bt3])) hW1).mono ?_;rintro e w4 ⟨⟨v4,rfl,hv4⟩,hb4⟩;obtain ⟨ao4,cap4,zs4,rfl,hc4,hn4,hval4,hN4,hW4,hr4⟩:=hv4.dest;replace HB:Below ((w.alloc ob).alloc oz).heap.size ((w.alloc ob).alloc oz) w4:=bt2 hb4 (by apply_rules [HB,Below.refl,bel,Below.drew,bt3]);clear hb4 hv4;rw [hval1] at hval4)
     |(go_at_call 130;with_reducible refine (up_any ao6 cap6 zs6 (D-1) _ (by have:=small_len hN6 hval6 (by omega);omega) (by omega) (RU hr6 (by apply_rules [Below.refl,bel,Below.drew,bt3])) hW6).mono ?_;rintro e w7 ⟨⟨v7,rfl,hv7⟩,hb7⟩;obtain ⟨ao7,cap7,zs7,rfl,hc7,hn7,hval7,hN7,hW7,hr7⟩:=hv7.dest;replace HB:Below ((w.alloc ob).alloc oz).heap.size ((w.alloc ob).alloc oz) w7:=bt2 hb7 (by apply_rules [HB,Below.refl,bel,Below.drew,bt3]);replace HB5:Below w5.heap.size w5 w7:=bt2 hb7 (by apply_rules [HB5,Below.refl,bel,Below.drew,bt3]);clear hb7 hv7;rw [hval6,Nat.one_mul,HH.out] at hval7)
     |(go_at_call 134;with_reducible refine (less_any ao ao4 cap cap4 zs zs4 _ (by omega) (norm_len hN4 _ (Nat.lt_of_le_of_lt (Nat.le_trans (Nat.le_of_eq hval4) HQD.out) (nv_lt hW))) (Nat.le_trans (Nat.le_of_eq hval4) HQD.out) (RU hr2 (by apply_rules [HB,Below.refl,bel,Below.drew,bt3])) (RU hr4 (by apply_rules [Below.refl,bel,Below.drew,bt3])) hW hW4).mono ?_;rintro e w5 ⟨⟨v5,rfl,hv5⟩,hb5⟩;obtain ⟨ao5,cap5,zs5,rfl,hc5,hn5,hval5,hN5,hW5,hr5⟩:=hv5.dest;replace HB:Below ((w.alloc ob).alloc oz).heap.size ((w.alloc ob).alloc oz) w5:=bt2 hb5 (by apply_rules [HB,Below.refl,bel,Below.drew,bt3]);clear hb5 hv5;rw [hval4,HR.out] at hval5;replace HB5:Below w5.heap.size w5 w5:=Below.refl _ _)
     |(go_at_call 107;with_reducible refine (nat_1 _).mono ?_;rintro e w6 ⟨⟨v6,rfl,hv6⟩,hb6⟩;obtain ⟨ao6,cap6,zs6,rfl,hc6,hn6,hval6,hN6,hW6,hr6⟩:=hv6.dest;replace HB:Below ((w.alloc ob).alloc oz).heap.size ((w.alloc ob).alloc oz) w6:=bt2 hb6 (by apply_rules [HB,Below.refl,bel,Below.drew,bt3]);replace HB5:Below w5.heap.size w5 w6:=bt2 hb6 (by apply_rules [HB5,Below.refl,bel,Below.drew,bt3]);clear hb6 hv6)
     |(go_at_call 135;with_reducible refine (against_any ao5 ao7 cap5 cap7 zs5 zs7 _ (len5 hN5 hval5 HR.out HQD.out hW hl) (len7 hN7 hval7 HH.out hDl) (RU hr5 (by apply_rules [HB5,Below.refl,bel,Below.drew,bt3])) (RU hr7 (by apply_rules [Below.refl,bel,Below.drew,bt3])) hW5 hW7 hN5 hN7).mono ?_;rintro e wq ⟨rfl,kq,hq⟩;subst wq;rw [hval5,hval7,HAG.out];obtain ⟨f0,f1,f2⟩:=kF HB)
     |(go_at_call 133;with_reducible refine (held_any m k1 K _).mono ?_;rintro e w9 ⟨rfl,hb9⟩;rw [HD.out];replace HB:Below ((w.alloc ob).alloc oz).heap.size ((w.alloc ob).alloc oz) w9:=bt2 hb9 (by apply_rules [HB,Below.refl,bel,Below.drew,bt3]);obtain ⟨r0,r1,r2,r3,q0,q1,q2,q3⟩:=kA HB)
     |(go_at_call 133;with_reducible refine (held_lit m (K+1) _).mono ?_;rintro e w9 ⟨rfl,hb9⟩;rw [HD.out];replace HB:Below ((w.alloc ob).alloc oz).heap.size ((w.alloc ob).alloc oz) w9:=bt2 hb9 (by apply_rules [HB,Below.refl,bel,Below.drew,bt3]);obtain ⟨r0,r1,r2,r3,q0,q1,q2,q3⟩:=kA HB)
     |(go_at_call 133;with_reducible refine (held_any m q K _).mono ?_;rintro e w9 ⟨rfl,hb9⟩;rw [HD.out];replace HB:Below ((w.alloc ob).alloc oz).heap.size ((w.alloc ob).alloc oz) w9:=bt2 hb9 (by apply_rules [HB,Below.refl,bel,Below.drew,bt3]);obtain ⟨r0,r1,r2,r3,q0,q1,q2,q3⟩:=kA HB)))
 refine bodyPost_ret (v:=.agg #[.int .u8 (vS K),.bool m,.int .u64 (vM q K),.int .i64 (vP K)]) (by simp [results,Tryz.f105,go_sem,r0,r1,r2,r3]) rfl ?_
 rotate_left
 refine bodyPost_ret (v:=.agg #[.int .u8 (vS K),.bool m,.int .u64 (vM q K),.int .i64 (vP K)]) (by simp [results,Tryz.f105,go_sem,r0,r1,r2,r3]) rfl ?_
 rotate_left
 refine bodyPost_ret (v:=.agg #[.int .u8 (vS K),.bool m,.int .u64 (vM k1 K),.int .i64 (vP K)]) (by simp [results,Tryz.f105,go_sem,r0,r1,r2,r3]) rfl ?_
 rotate_left
 refine bodyPost_ret (v:=.agg #[.int .u8 (vS (K+1)),.bool m,.int .u64 (vM 8388608 (K+1)),.int .i64 (vP (K+1))]) (by simp [results,Tryz.f105,go_sem,r0,r1,r2,r3]) rfl ?_
 rotate_left
 refine bodyPost_ret (v:=.agg #[.int .u8 (vS K),.bool m,.int .u64 (vM k1 K),.int .i64 (vP K)]) (by simp [results,Tryz.f105,go_sem,r0,r1,r2,r3]) rfl ?_
 rotate_left
 refine bodyPost_ret (v:=.agg #[.int .u8 (vS (K+1)),.bool m,.int .u64 (vM 8388608 (K+1)),.int .i64 (vP (K+1))]) (by simp [results,Tryz.f105,go_sem,r0,r1,r2,r3]) rfl ?_
 rotate_left
 all_goals (exact ⟨by rw [HD.out],kB HB⟩)
abbrev rnd3Hl:=rn3Ha.1
abbrev rnd3He:=rn3Ha.2.1
abbrev rnd3Hg:=rn3Ha.2.2.1
abbrev rnd3Hgo:=rn3Ha.2.2.2.1
abbrev rnd3Hx:=rn3Ha.2.2.2.2.1
abbrev rnd3Hxo:=rn3Ha.2.2.2.2.2

theorem nb_log (N:Nat) (h:N≠0):nbits N=N.log2+1:=by unfold nbits;rw [if_neg h]
theorem rne_one (n:Nat):rne n 1=n:=by
 unfold rne
 rw [Nat.div_one,Nat.mod_one,if_neg (by omega),Nat.add_zero]
theorem last_eq (N:Nat) (h:N≠0) (P K:Int) (hK:max (P+nbits N-24) (-149)=K):lastOf Ieee.single N P=K:=by
 rw [nb_log N h] at hK
 unfold lastOf
 rw [←hK,show Ieee.single.leastPlace = -149 from rfl,show Ieee.single.fractionBits=23 from rfl]
 congr 1
 omega
theorem rg_up (N:Nat) (h:N≠0) (P K:Int) (X:Nat) (hK:max (P+nbits N-24) (-149)=K) (hX:P-K=X):rg Ieee.single N P=(K+149).toNat*8388608+N*2 ^ X:=by
 unfold rg
 rw [if_neg h,last_eq N h P K hK,hX,show (K-P).toNat=0 by omega,Nat.pow_zero,rne_one,Nat.shiftLeft_eq,show Ieee.single.leastPlace = -149 from rfl,show K - -149=K+149 by omega]
 rfl
theorem rg_dn (N:Nat) (h:N≠0) (P K:Int) (D:Nat) (hK:max (P+nbits N-24) (-149)=K) (hX:K-P=D):rg Ieee.single N P=(K+149).toNat*8388608+rne N (2 ^ D):=by
 unfold rg
 rw [if_neg h,last_eq N h P K hK,hX,show (P-K).toNat=0 by omega,Nat.shiftLeft_eq,Nat.pow_zero,Nat.mul_one,show Ieee.single.leastPlace = -149 from rfl,show K - -149=K+149 by omega]
 rfl
def Fits (n:Nat) (p:Int) (r:Nat):Prop:=∃ k:Nat,p = -149+(k:Int)∧n<16777216∧(k=0∨8388608≤n)∧r=k*8388608+n
theorem fits_over (K:Int) (q r:Nat) (hK : -149≤K) (h1:q+1=16777216) (h3:r=(K+149).toNat*8388608+(q+1)):Fits 8388608 (K+1) r:=by
 refine ⟨(K+149).toNat+1,by omega,by omega,Or.inr (Nat.le_refl _),?_⟩
 rw [h1] at h3
 clear h1
 generalize (K+149).toNat=t at *
 omega
theorem nb_bounds (N:Nat) (h:N≠0):2 ^ (nbits N-1)≤N∧N<2 ^ nbits N∧1≤nbits N:=by
 rw [nb_log N h]
 exact ⟨Nat.log2_self_le h,Nat.lt_log2_self,by omega⟩
theorem p24:(2:Nat) ^ 24=16777216:=rfl
theorem p23:(2:Nat) ^ 23=8388608:=rfl
theorem rnd_any (m:Bool) (ao:Option Addr) (cap:Nat) (zs:List Nat) (P:Int) (w:World) (hl:zs.length≤100) (hr:ReadsU w ao zs w.heap.size) (hW:Words zs) (hN:Norm zs) (hP : -5000≤P) (hP2:P≤5000) :
   Calls Tryz.prog 105 #[.agg #[.int .i64 24,.int .i64 (-149),.int .i64 104],.bool m,.slice ao zs.length cap,.int .i64 P,.bool false] w fun e w'=>(∃ n p,e=.returned (hdV m n p)∧Fits n p (rg Ieee.single (nv zs) P))∧Below w.heap.size w w':=by
 by_cases hz:zs.length=0
 · have e0:nv zs=0:=by rw [List.length_eq_zero_iff.1 hz];rfl
   refine (rnd0 m ao cap zs P w hz).mono fun e w' ⟨he,hb⟩=>⟨⟨0,-149,he,0,by omega,by omega,Or.inl rfl,?_⟩,hb⟩
   rw [e0];unfold rg;rw [if_pos rfl]
 have h0:nv zs≠0:=by
   intro h
   have:=norm_len hN 0 (by rw [h];decide)
   omega
 obtain ⟨b1,b2,b3⟩:=nb_bounds (nv zs) h0
 have hnl:nbits (nv zs)≤4000:=by
   have h1:=nv_lt hW
   have h2:(4294967296:Nat) ^ zs.length=2 ^ (32*zs.length):=by rw [show (4294967296:Nat)=2 ^ 32 from rfl,←Nat.pow_mul]
   rw [h2] at h1
   have:=(Nat.pow_lt_pow_iff_right (a:=2) (by decide)).1 (Nat.lt_of_le_of_lt b1 h1)
   omega
 obtain ⟨nb,hnb⟩:∃ nb,nbits (nv zs)=nb:=⟨_,rfl⟩
 obtain ⟨K,hK⟩:∃ K,max (P+nbits (nv zs)-24) (-149)=K:=⟨_,rfl⟩
 by_cases hKP:K≤P
 · obtain ⟨X,hX⟩:∃ X:Nat,P-K=X:=⟨(P-K).toNat,by omega⟩
   have hrg:=rg_up (nv zs) h0 P K X hK hX
   rw [hnb] at hK b1 b2 b3 hnl
   have hMX:nv zs*2 ^ X<16777216:=by
     have h1:nv zs*2 ^ X<2 ^ nb*2 ^ X:=Nat.mul_lt_mul_of_pos_right b2 (Nat.two_pow_pos _)
     rw [←Nat.pow_add] at h1
     have h2:2 ^ (nb+X)≤2 ^ 24:=Nat.pow_le_pow_right (by decide) (by omega)
     rw [p24] at h2
     omega
   by_cases hA:P+nb-24 < -149
   · obtain rfl:K = -149:=by omega
     refine (rnd1a m ao cap zs P nb X _ w hl hr hW hN hz hnb hnl hP hP2 hA hX rfl (by omega)).mono fun e w' ⟨he,hb⟩=>⟨⟨_,_,he,0,by omega,hMX,Or.inl rfl,?_⟩,hb⟩
     rw [hrg,show ((-149:Int)+149).toNat=0 from rfl]
   · have hK2:P+nb-24=K:=by omega
     refine (rnd1b m ao cap zs P nb X _ K w hl hr hW hN hz hnb hnl hP hP2 hA hK2 hKP hX rfl (by omega)).mono fun e w' ⟨he,hb⟩=>⟨⟨_,_,he,(K+149).toNat,by omega,hMX,Or.inr ?_,hrg⟩,hb⟩
     have h1:2 ^ (nb-1)*2 ^ X≤nv zs*2 ^ X:=Nat.mul_le_mul_right _ b1
     rw [←Nat.pow_add,show nb-1+X=23 by omega,p23] at h1
     exact h1
 · obtain ⟨D,hD⟩:∃ D:Nat,K-P=D:=⟨(K-P).toNat,by omega⟩
   have hrg:=rg_dn (nv zs) h0 P K D hK hD
   rw [hnb] at hK b1 b2 b3 hnl
   by_cases hDn:D≤nb+1
   · have hql:nv zs / 2 ^ D<16777216:=by
       rw [Nat.div_lt_iff_lt_mul (Nat.two_pow_pos D),←p24,←Nat.pow_add]
       exact Nat.lt_of_lt_of_le b2 (Nat.pow_le_pow_right (by decide) (by omega))
     have hqg:¬ P+nb-24 < -149→8388608≤nv zs / 2 ^ D:=by
       intro h
       rw [Nat.le_div_iff_mul_le (Nat.two_pow_pos D),←p23,←Nat.pow_add]
       exact Nat.le_trans (Nat.pow_le_pow_right (by decide) (by omega)) b1
     obtain ⟨q,hq⟩:∃ q,nv zs / 2 ^ D=q:=⟨_,rfl⟩
     obtain ⟨R,hR⟩:∃ R,nv zs % 2 ^ D=R:=⟨_,rfl⟩
     obtain ⟨half,hh⟩:∃ half,2 ^ (D-1)=half:=⟨_,rfl⟩
     have h2h:2 ^ D=2*half:=by rw [←hh,←Nat.pow_succ'];congr 1;omega
     have hR2:nv zs-q*2 ^ D=R:=by
       have:=Nat.div_add_mod (nv zs) (2 ^ D)
       rw [hq,hR,Nat.mul_comm] at this
       omega
     have hrn:rne (nv zs) (2 ^ D)=q+(if half<R∨(R=half∧q % 2=1) then 1 else 0):=by
       unfold rne
       rw [hq,hR,h2h]
       congr 1
       have hc:(2*half<2*R∨2*half=2*R∧q % 2=1)↔(half<R∨(R=half∧q % 2=1)):=by omega
       by_cases c:half<R∨(R=half∧q % 2=1)
       · rw [if_pos c,if_pos (hc.2 c)]
       · rw [if_neg c,if_neg (fun x=>c (hc.1 x))]
     rw [hrn] at hrg
     rw [hq] at hql hqg
     have hfit:∀ n:Nat,n<16777216→(¬ P+nb-24 < -149→8388608≤n)→rg Ieee.single (nv zs) P=(K+149).toNat*8388608+n→Fits n K (rg Ieee.single (nv zs) P):=by
       intro n h1 h2 h3
       refine ⟨(K+149).toNat,by omega,h1,?_,h3⟩
       by_cases hA:P+nb-24 < -149
       · left;omega
       · exact Or.inr (h2 hA)
     have hfit2:q+1=16777216→rg Ieee.single (nv zs) P=(K+149).toNat*8388608+(q+1)→Fits 8388608 (K+1) (rg Ieee.single (nv zs) P):=by
       intro h1 h3
       exact fits_over K q _ (by omega) h1 h3
     by_cases hA:P+nb-24 < -149
     · have hK2 : -149=K:=by omega
       by_cases c1:half<R
       · rw [if_pos (Or.inl c1)] at hrg
         by_cases ho:q+1=16777216
         · exact (rnd3Lgo m ao cap zs P nb D q R half K w hl hr hW hN hz hnb hnl hP hP2 hA hK2 (by omega) hD hDn hq hql hR2 hh c1 ho).mono fun e w' ⟨he,hb⟩=>⟨⟨_,_,he,hfit2 ho hrg⟩,hb⟩
         · exact (rnd3Lg m ao cap zs P nb D q R half K w hl hr hW hN hz hnb hnl hP hP2 hA hK2 (by omega) hD hDn hq hql hR2 hh c1 _ rfl ho).mono fun e w' ⟨he,hb⟩=>⟨⟨_,_,he,hfit (q+1) (by omega) (fun h=>absurd hA h) hrg⟩,hb⟩
       by_cases c2:R=half
       · by_cases c3:q % 2=1
         · rw [if_pos (Or.inr ⟨c2,c3⟩)] at hrg
           by_cases ho:q+1=16777216
           · exact (rnd3Lxo m ao cap zs P nb D q R half K w hl hr hW hN hz hnb hnl hP hP2 hA hK2 (by omega) hD hDn hq hql hR2 hh c2 c3 ho).mono fun e w' ⟨he,hb⟩=>⟨⟨_,_,he,hfit2 ho hrg⟩,hb⟩
           · exact (rnd3Lx m ao cap zs P nb D q R half K w hl hr hW hN hz hnb hnl hP hP2 hA hK2 (by omega) hD hDn hq hql hR2 hh c2 c3 _ rfl ho).mono fun e w' ⟨he,hb⟩=>⟨⟨_,_,he,hfit (q+1) (by omega) (fun h=>absurd hA h) hrg⟩,hb⟩
         · rw [if_neg (by omega),Nat.add_zero] at hrg
           exact (rnd3Le m ao cap zs P nb D q R half K w hl hr hW hN hz hnb hnl hP hP2 hA hK2 (by omega) hD hDn hq hql hR2 hh c2 (by omega)).mono fun e w' ⟨he,hb⟩=>⟨⟨_,_,he,hfit q hql hqg hrg⟩,hb⟩
       · rw [if_neg (by omega),Nat.add_zero] at hrg
         exact (rnd3Ll m ao cap zs P nb D q R half K w hl hr hW hN hz hnb hnl hP hP2 hA hK2 (by omega) hD hDn hq hql hR2 hh (by omega)).mono fun e w' ⟨he,hb⟩=>⟨⟨_,_,he,hfit q hql hqg hrg⟩,hb⟩
     · have hK2:P+nb-24=K:=by omega
       have hg:=hqg hA
       by_cases c1:half<R
       · rw [if_pos (Or.inl c1)] at hrg
         by_cases ho:q+1=16777216
         · exact (rnd3Hgo m ao cap zs P nb D q R half K w hl hr hW hN hz hnb hnl hP hP2 hA hK2 (by omega) hD hDn hq hql hR2 hh c1 ho).mono fun e w' ⟨he,hb⟩=>⟨⟨_,_,he,hfit2 ho hrg⟩,hb⟩
         · exact (rnd3Hg m ao cap zs P nb D q R half K w hl hr hW hN hz hnb hnl hP hP2 hA hK2 (by omega) hD hDn hq hql hR2 hh c1 _ rfl ho).mono fun e w' ⟨he,hb⟩=>⟨⟨_,_,he,hfit (q+1) (by omega) (fun _=>by omega) hrg⟩,hb⟩
       by_cases c2:R=half
       · by_cases c3:q % 2=1
         · rw [if_pos (Or.inr ⟨c2,c3⟩)] at hrg
           by_cases ho:q+1=16777216
           · exact (rnd3Hxo m ao cap zs P nb D q R half K w hl hr hW hN hz hnb hnl hP hP2 hA hK2 (by omega) hD hDn hq hql hR2 hh c2 c3 ho).mono fun e w' ⟨he,hb⟩=>⟨⟨_,_,he,hfit2 ho hrg⟩,hb⟩
           · exact (rnd3Hx m ao cap zs P nb D q R half K w hl hr hW hN hz hnb hnl hP hP2 hA hK2 (by omega) hD hDn hq hql hR2 hh c2 c3 _ rfl ho).mono fun e w' ⟨he,hb⟩=>⟨⟨_,_,he,hfit (q+1) (by omega) (fun _=>by omega) hrg⟩,hb⟩
         · rw [if_neg (by omega),Nat.add_zero] at hrg
           exact (rnd3He m ao cap zs P nb D q R half K w hl hr hW hN hz hnb hnl hP hP2 hA hK2 (by omega) hD hDn hq hql hR2 hh c2 (by omega)).mono fun e w' ⟨he,hb⟩=>⟨⟨_,_,he,hfit q hql hqg hrg⟩,hb⟩
       · rw [if_neg (by omega),Nat.add_zero] at hrg
         exact (rnd3Hl m ao cap zs P nb D q R half K w hl hr hW hN hz hnb hnl hP hP2 hA hK2 (by omega) hD hDn hq hql hR2 hh (by omega)).mono fun e w' ⟨he,hb⟩=>⟨⟨_,_,he,hfit q hql hqg hrg⟩,hb⟩
   · have hA:P+nb-24 < -149:=by omega
     have hK2:K = -149:=by omega
     subst hK2
     refine (rnd2 m ao cap zs P nb w hl hr hW hN hz hnb hnl hP hP2 hA (by omega) (by omega)).mono fun e w' ⟨he,hb⟩=>⟨⟨_,_,he,0,by omega,by omega,Or.inl rfl,?_⟩,hb⟩
     have h1:nv zs<2 ^ D:=Nat.lt_of_lt_of_le b2 (Nat.pow_le_pow_right (by decide) (by omega))
     have h2:2*nv zs<2 ^ D:=by
       have h3:2 ^ (nb+1)≤2 ^ D:=Nat.pow_le_pow_right (by decide) (by omega)
       rw [Nat.pow_succ] at h3
       omega
     rw [hrg]
     unfold rne
     rw [Nat.div_eq_of_lt h1,Nat.mod_eq_of_lt h1,if_neg (by omega),show ((-149:Int)+149).toNat=0 from rfl]
theorem lay_any (m:Bool) (n:Nat) (p:Int) (r:Nat) (w:World) (h:Fits n p r) :
   Calls Tryz.prog 104 #[hdV m n p] w fun e w'=>e=.returned (.int .u32 (wrd m (min r 2139095040):Nat))∧Below w.heap.size w w':=by
 obtain ⟨k,rfl,hn,hk,rfl⟩:=h
 unfold hdV
 by_cases hp:(104:Int) < -149+(k:Int)
 · rw [if_pos hp,show min (k*8388608+n) 2139095040=2139095040 by omega]
   exact lay_endless m w
 · rw [if_neg hp,show min (k*8388608+n) 2139095040=k*8388608+n by omega]
   exact lay_fin m n k w hn (by omega) hk
abbrev oV (s:Int) (m:Bool) (n p:Int):Obj:=.cells #[.int .u8 s,.bool m,.int .u64 n,.int .i64 p] 133
theorem cin (w:World) (o:Obj) (p:Addr) (h:p.block<w.heap.size):(w.alloc o).cell? p=w.cell? p:=((Below.refl w.heap.size w).alloc (Nat.le_refl _) o).cell h
theorem sz1 (w:World) (o:Obj):(w.alloc o).heap.size=w.heap.size+1:=by simp
theorem jF {w W:World} {sa:Int} {ma:Bool} {na pa:Int} {sb:Int} {mb:Bool} {nb pb:Int} (h:Below ((((w.alloc ob).alloc (oV sa ma na pa)).alloc (oV sb mb nb pb)).alloc oz).heap.size ((((w.alloc ob).alloc (oV sa ma na pa)).alloc (oV sb mb nb pb)).alloc oz) W) :
   W.cell? ⟨w.heap.size,0,none⟩=some (.int .i64 24)∧W.cell? ⟨w.heap.size,1,none⟩=some (.int .i64 (-149))∧W.cell? ⟨w.heap.size,2,none⟩=some (.int .i64 104)∧W.cell? ⟨w.heap.size+1,0,none⟩=some (.int .u8 sa)∧W.cell? ⟨w.heap.size+1,1,none⟩=some (.bool ma)∧W.cell? ⟨w.heap.size+1,2,none⟩=some (.int .u64 na)∧W.cell? ⟨w.heap.size+1,3,none⟩=some (.int .i64 pa)∧W.cell? ⟨w.heap.size+1+1,0,none⟩=some (.int .u8 sb)∧W.cell? ⟨w.heap.size+1+1,1,none⟩=some (.bool mb)∧W.cell? ⟨w.heap.size+1+1,2,none⟩=some (.int .u64 nb)∧W.cell? ⟨w.heap.size+1+1,3,none⟩=some (.int .i64 pb):=by
 refine ⟨?_,?_,?_,?_,?_,?_,?_,?_,?_,?_,?_⟩
 · refine (h.cell (p:=⟨w.heap.size,0,none⟩) (by simp only [sz1];omega)).trans ?_
   rw [cin _ _ _ (by simp only [sz1];omega),cin _ _ _ (by simp only [sz1];omega),cin _ _ _ (by simp only [sz1];omega)]
   exact World.cell?_alloc_new _ _ _ _
 · refine (h.cell (p:=⟨w.heap.size,1,none⟩) (by simp only [sz1];omega)).trans ?_
   rw [cin _ _ _ (by simp only [sz1];omega),cin _ _ _ (by simp only [sz1];omega),cin _ _ _ (by simp only [sz1];omega)]
   exact World.cell?_alloc_new _ _ _ _
 · refine (h.cell (p:=⟨w.heap.size,2,none⟩) (by simp only [sz1];omega)).trans ?_
   rw [cin _ _ _ (by simp only [sz1];omega),cin _ _ _ (by simp only [sz1];omega),cin _ _ _ (by simp only [sz1];omega)]
   exact World.cell?_alloc_new _ _ _ _
 · refine (h.cell (p:=⟨w.heap.size+1,0,none⟩) (by simp only [sz1];omega)).trans ?_
   rw [cin _ _ _ (by simp only [sz1];omega),cin _ _ _ (by simp only [sz1];omega)]
   rw [show w.heap.size+1=(w.alloc ob).heap.size by simp only [sz1]]
   exact World.cell?_alloc_new _ _ _ _
 · refine (h.cell (p:=⟨w.heap.size+1,1,none⟩) (by simp only [sz1];omega)).trans ?_
   rw [cin _ _ _ (by simp only [sz1];omega),cin _ _ _ (by simp only [sz1];omega)]
   rw [show w.heap.size+1=(w.alloc ob).heap.size by simp only [sz1]]
   exact World.cell?_alloc_new _ _ _ _
 · refine (h.cell (p:=⟨w.heap.size+1,2,none⟩) (by simp only [sz1];omega)).trans ?_
   rw [cin _ _ _ (by simp only [sz1];omega),cin _ _ _ (by simp only [sz1];omega)]
   rw [show w.heap.size+1=(w.alloc ob).heap.size by simp only [sz1]]
   exact World.cell?_alloc_new _ _ _ _
 · refine (h.cell (p:=⟨w.heap.size+1,3,none⟩) (by simp only [sz1];omega)).trans ?_
   rw [cin _ _ _ (by simp only [sz1];omega),cin _ _ _ (by simp only [sz1];omega)]
   rw [show w.heap.size+1=(w.alloc ob).heap.size by simp only [sz1]]
   exact World.cell?_alloc_new _ _ _ _
 · refine (h.cell (p:=⟨w.heap.size+1+1,0,none⟩) (by simp only [sz1];omega)).trans ?_
   rw [cin _ _ _ (by simp only [sz1];omega)]
   rw [show w.heap.size+1+1=((w.alloc ob).alloc (oV sa ma na pa)).heap.size by simp only [sz1]]
   exact World.cell?_alloc_new _ _ _ _
 · refine (h.cell (p:=⟨w.heap.size+1+1,1,none⟩) (by simp only [sz1];omega)).trans ?_
   rw [cin _ _ _ (by simp only [sz1];omega)]
   rw [show w.heap.size+1+1=((w.alloc ob).alloc (oV sa ma na pa)).heap.size by simp only [sz1]]
   exact World.cell?_alloc_new _ _ _ _
 · refine (h.cell (p:=⟨w.heap.size+1+1,2,none⟩) (by simp only [sz1];omega)).trans ?_
   rw [cin _ _ _ (by simp only [sz1];omega)]
   rw [show w.heap.size+1+1=((w.alloc ob).alloc (oV sa ma na pa)).heap.size by simp only [sz1]]
   exact World.cell?_alloc_new _ _ _ _
 · refine (h.cell (p:=⟨w.heap.size+1+1,3,none⟩) (by simp only [sz1];omega)).trans ?_
   rw [cin _ _ _ (by simp only [sz1];omega)]
   rw [show w.heap.size+1+1=((w.alloc ob).alloc (oV sa ma na pa)).heap.size by simp only [sz1]]
   exact World.cell?_alloc_new _ _ _ _
theorem jA {w W:World} {sa:Int} {ma:Bool} {na pa:Int} {sb:Int} {mb:Bool} {nb pb:Int} (h:Below ((((w.alloc ob).alloc (oV sa ma na pa)).alloc (oV sb mb nb pb)).alloc oz).heap.size ((((w.alloc ob).alloc (oV sa ma na pa)).alloc (oV sb mb nb pb)).alloc oz) W) :
   W.cell? ⟨w.heap.size+1+1+1,0,none⟩=some (.int .u8 0)∧W.cell? ⟨w.heap.size+1+1+1,1,none⟩=some (.bool false)∧W.cell? ⟨w.heap.size+1+1+1,2,none⟩=some (.int .u64 0)∧W.cell? ⟨w.heap.size+1+1+1,3,none⟩=some (.int .i64 0)∧W.frozen? ⟨w.heap.size+1+1+1,0,none⟩=false∧W.frozen? ⟨w.heap.size+1+1+1,1,none⟩=false∧W.frozen? ⟨w.heap.size+1+1+1,2,none⟩=false∧W.frozen? ⟨w.heap.size+1+1+1,3,none⟩=false:=by
 refine ⟨?_,?_,?_,?_,?_,?_,?_,?_⟩
 · refine (h.cell (p:=⟨w.heap.size+1+1+1,0,none⟩) (by simp only [sz1];omega)).trans ?_
   rw [show w.heap.size+1+1+1=(((w.alloc ob).alloc (oV sa ma na pa)).alloc (oV sb mb nb pb)).heap.size by simp only [sz1]]
   exact World.cell?_alloc_new _ _ _ _
 · refine (h.cell (p:=⟨w.heap.size+1+1+1,1,none⟩) (by simp only [sz1];omega)).trans ?_
   rw [show w.heap.size+1+1+1=(((w.alloc ob).alloc (oV sa ma na pa)).alloc (oV sb mb nb pb)).heap.size by simp only [sz1]]
   exact World.cell?_alloc_new _ _ _ _
 · refine (h.cell (p:=⟨w.heap.size+1+1+1,2,none⟩) (by simp only [sz1];omega)).trans ?_
   rw [show w.heap.size+1+1+1=(((w.alloc ob).alloc (oV sa ma na pa)).alloc (oV sb mb nb pb)).heap.size by simp only [sz1]]
   exact World.cell?_alloc_new _ _ _ _
 · refine (h.cell (p:=⟨w.heap.size+1+1+1,3,none⟩) (by simp only [sz1];omega)).trans ?_
   rw [show w.heap.size+1+1+1=(((w.alloc ob).alloc (oV sa ma na pa)).alloc (oV sb mb nb pb)).heap.size by simp only [sz1]]
   exact World.cell?_alloc_new _ _ _ _
 · refine (h.frozen (p:=⟨w.heap.size+1+1+1,0,none⟩) (by simp only [sz1];omega)).trans ?_
   rw [show w.heap.size+1+1+1=(((w.alloc ob).alloc (oV sa ma na pa)).alloc (oV sb mb nb pb)).heap.size by simp only [sz1]]
   exact World.frozen?_alloc_new _ _ _ _
 · refine (h.frozen (p:=⟨w.heap.size+1+1+1,1,none⟩) (by simp only [sz1];omega)).trans ?_
   rw [show w.heap.size+1+1+1=(((w.alloc ob).alloc (oV sa ma na pa)).alloc (oV sb mb nb pb)).heap.size by simp only [sz1]]
   exact World.frozen?_alloc_new _ _ _ _
 · refine (h.frozen (p:=⟨w.heap.size+1+1+1,2,none⟩) (by simp only [sz1];omega)).trans ?_
   rw [show w.heap.size+1+1+1=(((w.alloc ob).alloc (oV sa ma na pa)).alloc (oV sb mb nb pb)).heap.size by simp only [sz1]]
   exact World.frozen?_alloc_new _ _ _ _
 · refine (h.frozen (p:=⟨w.heap.size+1+1+1,3,none⟩) (by simp only [sz1];omega)).trans ?_
   rw [show w.heap.size+1+1+1=(((w.alloc ob).alloc (oV sa ma na pa)).alloc (oV sb mb nb pb)).heap.size by simp only [sz1]]
   exact World.frozen?_alloc_new _ _ _ _
theorem jS {w W:World} {sa:Int} {ma:Bool} {na pa:Int} {sb:Int} {mb:Bool} {nb pb:Int} {a b c d:Value} (h:Below ((((w.alloc ob).alloc (oV sa ma na pa)).alloc (oV sb mb nb pb)).alloc oz).heap.size ((((w.alloc ob).alloc (oV sa ma na pa)).alloc (oV sb mb nb pb)).alloc oz) W) :
   ((((W.setCell ⟨w.heap.size+1+1+1,0,none⟩ a).setCell ⟨w.heap.size+1+1+1,1,none⟩ b).setCell ⟨w.heap.size+1+1+1,2,none⟩ c).setCell ⟨w.heap.size+1+1+1,3,none⟩ d).cell? ⟨w.heap.size,0,none⟩=some (.int .i64 24)∧((((W.setCell ⟨w.heap.size+1+1+1,0,none⟩ a).setCell ⟨w.heap.size+1+1+1,1,none⟩ b).setCell ⟨w.heap.size+1+1+1,2,none⟩ c).setCell ⟨w.heap.size+1+1+1,3,none⟩ d).cell? ⟨w.heap.size,1,none⟩=some (.int .i64 (-149))∧((((W.setCell ⟨w.heap.size+1+1+1,0,none⟩ a).setCell ⟨w.heap.size+1+1+1,1,none⟩ b).setCell ⟨w.heap.size+1+1+1,2,none⟩ c).setCell ⟨w.heap.size+1+1+1,3,none⟩ d).cell? ⟨w.heap.size,2,none⟩=some (.int .i64 104)∧((((W.setCell ⟨w.heap.size+1+1+1,0,none⟩ a).setCell ⟨w.heap.size+1+1+1,1,none⟩ b).setCell ⟨w.heap.size+1+1+1,2,none⟩ c).setCell ⟨w.heap.size+1+1+1,3,none⟩ d).cell? ⟨w.heap.size+1,0,none⟩=some (.int .u8 sa)∧((((W.setCell ⟨w.heap.size+1+1+1,0,none⟩ a).setCell ⟨w.heap.size+1+1+1,1,none⟩ b).setCell ⟨w.heap.size+1+1+1,2,none⟩ c).setCell ⟨w.heap.size+1+1+1,3,none⟩ d).cell? ⟨w.heap.size+1,1,none⟩=some (.bool ma)∧((((W.setCell ⟨w.heap.size+1+1+1,0,none⟩ a).setCell ⟨w.heap.size+1+1+1,1,none⟩ b).setCell ⟨w.heap.size+1+1+1,2,none⟩ c).setCell ⟨w.heap.size+1+1+1,3,none⟩ d).cell? ⟨w.heap.size+1,2,none⟩=some (.int .u64 na)∧((((W.setCell ⟨w.heap.size+1+1+1,0,none⟩ a).setCell ⟨w.heap.size+1+1+1,1,none⟩ b).setCell ⟨w.heap.size+1+1+1,2,none⟩ c).setCell ⟨w.heap.size+1+1+1,3,none⟩ d).cell? ⟨w.heap.size+1,3,none⟩=some (.int .i64 pa)∧((((W.setCell ⟨w.heap.size+1+1+1,0,none⟩ a).setCell ⟨w.heap.size+1+1+1,1,none⟩ b).setCell ⟨w.heap.size+1+1+1,2,none⟩ c).setCell ⟨w.heap.size+1+1+1,3,none⟩ d).cell? ⟨w.heap.size+1+1,0,none⟩=some (.int .u8 sb)∧((((W.setCell ⟨w.heap.size+1+1+1,0,none⟩ a).setCell ⟨w.heap.size+1+1+1,1,none⟩ b).setCell ⟨w.heap.size+1+1+1,2,none⟩ c).setCell ⟨w.heap.size+1+1+1,3,none⟩ d).cell? ⟨w.heap.size+1+1,1,none⟩=some (.bool mb)∧((((W.setCell ⟨w.heap.size+1+1+1,0,none⟩ a).setCell ⟨w.heap.size+1+1+1,1,none⟩ b).setCell ⟨w.heap.size+1+1+1,2,none⟩ c).setCell ⟨w.heap.size+1+1+1,3,none⟩ d).cell? ⟨w.heap.size+1+1,2,none⟩=some (.int .u64 nb)∧((((W.setCell ⟨w.heap.size+1+1+1,0,none⟩ a).setCell ⟨w.heap.size+1+1+1,1,none⟩ b).setCell ⟨w.heap.size+1+1+1,2,none⟩ c).setCell ⟨w.heap.size+1+1+1,3,none⟩ d).cell? ⟨w.heap.size+1+1,3,none⟩=some (.int .i64 pb):=by
 have h0:=jF h
 refine ⟨?_,?_,?_,?_,?_,?_,?_,?_,?_,?_,?_⟩
 all_goals rw [World.cell?_setCell_other _ _ _ _ (by simp <;> omega),World.cell?_setCell_other _ _ _ _ (by simp <;> omega),World.cell?_setCell_other _ _ _ _ (by simp <;> omega),World.cell?_setCell_other _ _ _ _ (by simp <;> omega)]
 · exact h0.1
 · exact h0.2.1
 · exact h0.2.2.1
 · exact h0.2.2.2.1
 · exact h0.2.2.2.2.1
 · exact h0.2.2.2.2.2.1
 · exact h0.2.2.2.2.2.2.1
 · exact h0.2.2.2.2.2.2.2.1
 · exact h0.2.2.2.2.2.2.2.2.1
 · exact h0.2.2.2.2.2.2.2.2.2.1
 · exact h0.2.2.2.2.2.2.2.2.2.2
theorem jB {w W:World} {sa:Int} {ma:Bool} {na pa:Int} {sb:Int} {mb:Bool} {nb pb:Int} {a b c d:Value} (h:Below ((((w.alloc ob).alloc (oV sa ma na pa)).alloc (oV sb mb nb pb)).alloc oz).heap.size ((((w.alloc ob).alloc (oV sa ma na pa)).alloc (oV sb mb nb pb)).alloc oz) W) :
   Below w.heap.size w ((((W.setCell ⟨w.heap.size+1+1+1,0,none⟩ a).setCell ⟨w.heap.size+1+1+1,1,none⟩ b).setCell ⟨w.heap.size+1+1+1,2,none⟩ c).setCell ⟨w.heap.size+1+1+1,3,none⟩ d):=by
 have h1:Below w.heap.size w W:=(bel (bel (bel (bel (Below.refl _ _))))).trans (h.mono (by simp;omega))
 exact (((h1.setCell (p:=⟨w.heap.size+1+1+1,0,none⟩) (by simp;omega) a).setCell (p:=⟨w.heap.size+1+1+1,1,none⟩) (by simp;omega) b).setCell (p:=⟨w.heap.size+1+1+1,2,none⟩) (by simp;omega) c).setCell (p:=⟨w.heap.size+1+1+1,3,none⟩) (by simp;omega) d
theorem len_pow {zs:List Nat} (hN:Norm zs) {x:Nat} (h:nv zs=x) (k:Nat) (hx:x<2 ^ (32*k)):zs.length≤k:=norm_len hN k (by rw [h,show (4294967296:Nat)=2 ^ 32 from rfl,←Nat.pow_mul];exact hx)
theorem up_pow (n X k:Nat) (hn:n<16777216) (hX:X+24≤32*k):n*2 ^ X<2 ^ (32*k):=by
 have h1:n*2 ^ X<2 ^ 24*2 ^ X:=Nat.mul_lt_mul_of_pos_right hn (Nat.two_pow_pos _)
 rw [←Nat.pow_add] at h1
 exact Nat.lt_of_lt_of_le h1 (Nat.pow_le_pow_right (by decide) (by omega))
theorem sum_pow {x y k:Nat} (hx:x<2 ^ (32*k)) (hy:y<2 ^ (32*k)):x+y<2 ^ (32*(k+1)):=by
 have h:2*2 ^ (32*k)≤2 ^ (32*(k+1)):=by
   rw [←Nat.pow_succ'];exact Nat.pow_le_pow_right (by decide) (by omega)
 generalize 2 ^ (32*k)=a at *
 omega
end Go.Proofs.YtibhlcfligfhdaaGreat
