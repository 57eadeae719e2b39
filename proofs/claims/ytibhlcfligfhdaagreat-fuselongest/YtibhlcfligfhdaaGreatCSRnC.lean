import Derived.Test.YtibhlcfligfhdaaGreatCSLay
namespace Go.Proofs.YtibhlcfligfhdaaGreat
set_option maxHeartbeats 4000000
open Go.RowKit
set_option maxRecDepth 100000
def vS (p:Int):Int:=if 104<p then 2 else 3
def vM (n:Nat) (p:Int):Int:=if 104<p then 0 else n
def vP (p:Int):Int:=if 104<p then 0 else p
theorem hdV_agg (m:Bool) (n:Nat) (p:Int):hdV m n p=.agg #[.int .u8 (vS p),.bool m,.int .u64 (vM n p),.int .i64 (vP p)]:=by
 unfold hdV vS vM vP;split <;> rfl
theorem RU {a W:World} {ao:Option Addr} {zs:List Nat} (h:ReadsU a ao zs a.heap.size) (hb:Below a.heap.size a W):ReadsU W ao zs W.heap.size:=(h.below hb).mono hb.size
theorem ag_lt {x y:Nat} (h:x<y):ag x y = -1:=by unfold ag;rw [if_pos h]
theorem ag_eq (x:Nat):ag x x=0:=by unfold ag;rw [if_neg (Nat.lt_irrefl _),if_pos rfl]
theorem ag_gt {x y:Nat} (h:y<x):ag x y=1:=by unfold ag;rw [if_neg (by omega),if_neg (by omega)]
theorem rnd0 (m:Bool) (ao:Option Addr) (cap:Nat) (zs:List Nat) (P:Int) (w:World) (hz:zs.length=0) :
   Calls Tryz.prog 105 #[.agg #[.int .i64 24,.int .i64 (-149),.int .i64 104],.bool m,.slice ao zs.length cap,.int .i64 P,.bool false] w fun e w'=>e=.returned (hdV m 0 (-149))∧Below w.heap.size w w':=by
 have hz':(zs.length:Int)=0:=by omega
 have HD:Hid (hdV m 0 (-149)=.agg #[.int .u8 3,.bool m,.int .u64 0,.int .i64 (-149)]):=by rw [Hid,hdV,if_neg (by omega)];rfl
 go_enter Tryz.func105,Tryz.ntmps105
 go_wp2_with (go_at_call 131;with_reducible refine (nought_any m _).mono ?_;rintro e w2 ⟨rfl,hb2⟩;have HB:Below ((w.alloc ob).alloc oz).heap.size ((w.alloc ob).alloc oz) w2:=bt2 hb2 (by apply_rules [Below.refl,bel,Below.drew,bt3]);obtain ⟨r0,r1,r2,r3,q0,q1,q2,q3⟩:=kA HB)
 refine bodyPost_ret (v:=.agg #[.int .u8 3,.bool m,.int .u64 0,.int .i64 (-149)]) (by simp [results,Tryz.f105,go_sem,r0,r1,r2,r3]) rfl ?_
 exact ⟨by rw [HD.out],kB HB⟩
theorem rnd2 (m:Bool) (ao:Option Addr) (cap:Nat) (zs:List Nat) (P:Int) (nb:Nat) (w:World) (hl:zs.length≤100) (hr:ReadsU w ao zs w.heap.size) (hW:Words zs) (hN:Norm zs) (hz:zs.length≠0) (hnb:nbits (nv zs)=nb) (hnl:nb≤4000) (hP : -5000≤P) (hP2:P≤5000) (hA:P+nb-24 < -149) (hkP:P < -149) (hD:(nb:Int)+1 < -149-P) :
   Calls Tryz.prog 105 #[.agg #[.int .i64 24,.int .i64 (-149),.int .i64 104],.bool m,.slice ao zs.length cap,.int .i64 P,.bool false] w fun e w'=>e=.returned (hdV m 0 (-149))∧Below w.heap.size w w':=by
 have hz':((zs.length:Int) == 0)=false:=by rw [beq_eq_false_iff_ne];omega
 have sz:=fun W hrW=>size_any ao cap zs W (by omega) hrW hW hN
 rw [hnb] at sz
 have HD:Hid (hdV m 0 (-149)=.agg #[.int .u8 3,.bool m,.int .u64 0,.int .i64 (-149)]):=by rw [Hid,hdV,if_neg (by omega)];rfl
 have hr2:ReadsU ((w.alloc ob).alloc oz) ao zs ((w.alloc ob).alloc oz).heap.size:=RU hr (bel (bel (Below.refl _ _)))
 go_enter Tryz.func105,Tryz.ntmps105
 go_wp2
 go_quiet (((go_at_call 132);exact Calls.quiet_of_same (sz _ hr2)))
 go_wp2_with (first
   |(go_at_call 132;with_reducible refine (sz _ (RU hr2 (by apply_rules [Below.refl,bel,Below.drew,bt3]))).mono ?_;rintro e wq ⟨rfl,hq⟩;subst wq)
   |(go_at_call 131;with_reducible refine (nought_any m _).mono ?_;rintro e w2 ⟨rfl,hb2⟩;have HB:Below ((w.alloc ob).alloc oz).heap.size ((w.alloc ob).alloc oz) w2:=bt2 hb2 (by apply_rules [Below.refl,bel,Below.drew,bt3]);obtain ⟨r0,r1,r2,r3,q0,q1,q2,q3⟩:=kA HB))
 refine bodyPost_ret (v:=.agg #[.int .u8 3,.bool m,.int .u64 0,.int .i64 (-149)]) (by simp [results,Tryz.f105,go_sem,r0,r1,r2,r3]) rfl ?_
 exact ⟨by rw [HD.out],kB HB⟩
theorem rnd1b (m:Bool) (ao:Option Addr) (cap:Nat) (zs:List Nat) (P:Int) (nb X M:Nat) (K:Int) (w:World) (hl:zs.length≤100) (hr:ReadsU w ao zs w.heap.size) (hW:Words zs) (hN:Norm zs) (hz:zs.length≠0) (hnb:nbits (nv zs)=nb) (hnl:nb≤4000) (hP : -5000≤P) (hP2:P≤5000) (hA:¬ P+nb-24 < -149) (hK:P+nb-24=K) (hKP:K≤P) (hX:P-K=X) (hM:nv zs*2 ^ X=M) (hMl:M<18446744073709551616) :
   Calls Tryz.prog 105 #[.agg #[.int .i64 24,.int .i64 (-149),.int .i64 104],.bool m,.slice ao zs.length cap,.int .i64 P,.bool false] w fun e w'=>e=.returned (hdV m M K)∧Below w.heap.size w w':=by
 have hz':((zs.length:Int) == 0)=false:=by rw [beq_eq_false_iff_ne];omega
 have sz:=fun W hrW=>size_any ao cap zs W (by omega) hrW hW hN
 rw [hnb] at sz
 have HM:Hid (nv zs*2 ^ X=M):=hM
 have hX5:X≤10000:=by omega
 have hA':(-149:Int)≤K:=by omega
 have HXw:Hid (IntKind.i64.wrap (P-K)=X):=by rw [Hid,IntKind.wrap_i64];omega
 have HXw':Hid (IntKind.i64.wrap (X:Int)=X):=by rw [Hid,IntKind.wrap_i64];omega
 have HD:Hid (hdV m M K=.agg #[.int .u8 (vS K),.bool m,.int .u64 (vM M K),.int .i64 (vP K)]):=hdV_agg m M K
 have hr2:ReadsU ((w.alloc ob).alloc oz) ao zs ((w.alloc ob).alloc oz).heap.size:=RU hr (bel (bel (Below.refl _ _)))
 clear hM
 go_enter Tryz.func105,Tryz.ntmps105
 go_wp2
 go_quiet (((go_at_call 132);exact Calls.quiet_of_same (sz _ hr2)))
 go_wp2
 go_region_held3 (fun w'=>w'.cell? ⟨w.heap.size,0,none⟩=some (.int .i64 24)∧w'.cell? ⟨w.heap.size,1,none⟩=some (.int .i64 (-149))∧w'.cell? ⟨w.heap.size,2,none⟩=some (.int .i64 104)) ((first|((try dsimp only);with_reducible refine kS ?_;(repeat (first|exact Below.refl _ _|with_reducible first|refine bel ?_|refine Below.drew ?_|refine bt3 ?_|with_reducible refine bt2 hb1 ?_|with_reducible refine bt2 hb2 ?_));done)|(refine kF ?_;(repeat (first|exact Below.refl _ _|with_reducible first|refine bel ?_|refine Below.drew ?_|refine bt3 ?_|with_reducible refine bt2 hb1 ?_|with_reducible refine bt2 hb2 ?_));done))) (first
   |(go_at_call 130;(first|rw [HXw.out]|rw [HXw'.out]);with_reducible refine (up_any ao cap zs X _ (by omega) (by omega) (RU hr2 (by (repeat (first|exact Below.refl _ _|with_reducible first|refine bel ?_|refine Below.drew ?_|refine bt3 ?_|with_reducible refine bt2 hb1 ?_|with_reducible refine bt2 hb2 ?_)))) hW).mono ?_;rintro e w1 ⟨⟨v1,rfl,hv1⟩,hb1⟩;obtain ⟨ao1,cap1,zs1,rfl,hc1,hn1,hval1,hN1,hW1,hr1⟩:=hv1.dest)
   |(go_at_call 108;with_reducible refine (low_any ao1 cap1 zs1 _ (by have:=small_len hN1 (hval1.trans HM.out) hMl;omega) (RU hr1 (by (repeat (first|exact Below.refl _ _|with_reducible first|refine bel ?_|refine Below.drew ?_|refine bt3 ?_|with_reducible refine bt2 hb1 ?_|with_reducible refine bt2 hb2 ?_)))) hW1).mono ?_;rintro e wq ⟨rfl,hq⟩;rw [hval1,HM.out,Nat.mod_eq_of_lt hMl];subst wq)
   |(go_at_call 133;with_reducible refine (held_any m M K _).mono ?_;rintro e w2 ⟨rfl,hb2⟩;rw [HD.out];obtain ⟨r0,r1,r2,r3,q0,q1,q2,q3⟩:=kA (w:=w) (W:=w2) (by (repeat (first|exact Below.refl _ _|with_reducible first|refine bel ?_|refine Below.drew ?_|refine bt3 ?_|with_reducible refine bt2 hb1 ?_|with_reducible refine bt2 hb2 ?_)))))
 go_wp2
 refine bodyPost_ret (v:=.agg #[.int .u8 (vS K),.bool m,.int .u64 (vM M K),.int .i64 (vP K)]) (by simp [results,Tryz.f105,go_sem,r0,r1,r2,r3]) rfl ?_
 exact ⟨by rw [HD.out],kB (by (repeat (first|exact Below.refl _ _|with_reducible first|refine bel ?_|refine Below.drew ?_|refine bt3 ?_|with_reducible refine bt2 hb1 ?_|with_reducible refine bt2 hb2 ?_)))⟩
theorem len5 {zs5 zs:List Nat} (hN:Norm zs5) {R q2:Nat} (h:nv zs5=R) (hR:nv zs-q2=R) (_:q2≤nv zs) (hW:Words zs) (hl:zs.length≤100):zs5.length≤1000000:=by
 have:=norm_len hN zs.length (by have:=nv_lt hW;omega)
 omega
theorem held_lit (m:Bool) (p:Int) (w:World):Calls Tryz.prog 133 #[.agg #[.int .i64 24,.int .i64 (-149),.int .i64 104],.bool m,.int .u64 8388608,.int .i64 p] w fun e w'=>e=.returned (hdV m 8388608 p)∧Below w.heap.size w w':=held_any m 8388608 p w
theorem nat_1 (w:World):Calls Tryz.prog 107 #[.int .u64 1] w fun e w'=>(∃ v,e=.returned v∧NatV w' v 1)∧Below w.heap.size w w':=nat_any 1 w (by decide)
theorem len7 {zs7:List Nat} (hN:Norm zs7) {half D:Nat} (h:nv zs7=half) (hh:2 ^ (D-1)=half) (hD:D≤4001):zs7.length≤1000000:=by
 have h1:∀ k,D-1<32*k→zs7.length≤k:=fun k hk=>norm_len hN k (by
   rw [h,←hh,show (4294967296:Nat)=2 ^ 32 from rfl,←Nat.pow_mul]
   exact Nat.pow_lt_pow_right (by decide) hk)
 have:=h1 200 (by omega)
 omega
end Go.Proofs.YtibhlcfligfhdaaGreat
