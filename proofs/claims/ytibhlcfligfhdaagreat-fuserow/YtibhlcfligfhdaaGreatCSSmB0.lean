import Derived.Test.YtibhlcfligfhdaaGreatCSRnD2
namespace Go.Proofs.YtibhlcfligfhdaaGreat
set_option maxHeartbeats 40000000
open Go.RowKit
set_option maxRecDepth 100000
theorem smAl :
   (∀ (ma:Bool) (na nb X Y:Nat) (pa pb:Int) (w:World),(na<16777216)→(nb<16777216)→(-149≤pa)→(pa≤104)→(-149≤pb)→(pb≤104)→(pb<pa)→(pa-pb=X)→(0=Y)→Calls Tryz.prog 138 #[.agg #[.int .i64 24,.int .i64 (-149),.int .i64 104],.agg #[.int .u8 3,.bool ma,.int .u64 na,.int .i64 pa],.agg #[.int .u8 3,.bool ma,.int .u64 nb,.int .i64 pb]] w fun e w'=>(∃ n q,e=.returned (hdV ma n q)∧Fits n q (rg Ieee.single (na*2 ^ X+nb*2 ^ Y) pb))∧Below w.heap.size w w') ∧
   (∀ (ma:Bool) (na nb X Y:Nat) (pa pb:Int) (w:World),(na<16777216)→(nb<16777216)→(-149≤pa)→(pa≤104)→(-149≤pb)→(pb≤104)→(¬ pb<pa)→(0=X)→(pb-pa=Y)→Calls Tryz.prog 138 #[.agg #[.int .i64 24,.int .i64 (-149),.int .i64 104],.agg #[.int .u8 3,.bool ma,.int .u64 na,.int .i64 pa],.agg #[.int .u8 3,.bool ma,.int .u64 nb,.int .i64 pb]] w fun e w'=>(∃ n q,e=.returned (hdV ma n q)∧Fits n q (rg Ieee.single (na*2 ^ X+nb*2 ^ Y) pa))∧Below w.heap.size w w'):=by
 refine ⟨?_,?_⟩
 all_goals intro ma na nb X Y pa pb w hna hnb h1 h2 h3 h4 ho hX hY
 all_goals (have hXl:X≤600:=by omega)
 all_goals (have hYl:Y≤600:=by omega)
 all_goals (have HXw:Hid (IntKind.i64.wrap (X:Int)=X):=by rw [Hid,IntKind.wrap_i64];omega)
 all_goals (have HYw:Hid (IntKind.i64.wrap (Y:Int)=Y):=by rw [Hid,IntKind.wrap_i64];omega)
 all_goals (have HPx:=up_pow na X 20 hna (by omega))
 all_goals (have HPy:=up_pow nb Y 20 hnb (by omega))
 all_goals (have HB:Below ((((w.alloc ob).alloc (oV 3 ma na pa)).alloc (oV 3 ma nb pb)).alloc oz).heap.size ((((w.alloc ob).alloc (oV 3 ma na pa)).alloc (oV 3 ma nb pb)).alloc oz) ((((w.alloc ob).alloc (oV 3 ma na pa)).alloc (oV 3 ma nb pb)).alloc oz):=Below.refl _ _)
 have HZw:Hid (IntKind.i64.wrap 0=(Y:Int)):=by rw [Hid,←hY];rfl
 rotate_left
 have HZw:Hid (IntKind.i64.wrap 0=(X:Int)):=by rw [Hid,←hX];rfl
 rotate_left
 all_goals (have HPz:Hid (na*2 ^ X+nb*2 ^ Y<2 ^ (32*(20+1))):=sum_pow (k:=20) HPx HPy)
 clear hY
 rotate_left
 clear hX
 rotate_left
 all_goals (go_enter Tryz.func138,Tryz.ntmps138)
 all_goals (go_wp2)
 all_goals (
   go_region_held3 (fun w'=>w'.cell? ⟨w.heap.size,0,none⟩=some (.int .i64 24)∧w'.cell? ⟨w.heap.size,1,none⟩=some (.int .i64 (-149))∧w'.cell? ⟨w.heap.size,2,none⟩=some (.int .i64 104)∧w'.cell? ⟨w.heap.size+1,0,none⟩=some (.int .u8 3)∧w'.cell? ⟨w.heap.size+1,1,none⟩=some (.bool ma)∧w'.cell? ⟨w.heap.size+1,2,none⟩=some (.int .u64 (na:Nat))∧w'.cell? ⟨w.heap.size+1,3,none⟩=some (.int .i64 pa)∧w'.cell? ⟨w.heap.size+1+1,0,none⟩=some (.int .u8 3)∧w'.cell? ⟨w.heap.size+1+1,1,none⟩=some (.bool ma)∧w'.cell? ⟨w.heap.size+1+1,2,none⟩=some (.int .u64 (nb:Nat))∧w'.cell? ⟨w.heap.size+1+1,3,none⟩=some (.int .i64 pb)) ((first|((try dsimp only);with_reducible refine jS ?_;(repeat (first|exact HB|exact Below.refl _ _|with_reducible first|refine bel ?_|refine Below.drew ?_|refine bt3 ?_));done)|(refine jF ?_;(repeat (first|exact HB|exact Below.refl _ _|with_reducible first|refine bel ?_|refine Below.drew ?_|refine bt3 ?_));done))) (first
     |(go_at_call 107;with_reducible refine (nat_any na _ (by omega)).mono ?_;rintro e w1 ⟨⟨v1,rfl,hv1⟩,hb1⟩;obtain ⟨ao1,cap1,zs1,rfl,hc1,hn1,hval1,hN1,hW1,hr1⟩:=hv1.dest;replace HB:Below ((((w.alloc ob).alloc (oV 3 ma na pa)).alloc (oV 3 ma nb pb)).alloc oz).heap.size ((((w.alloc ob).alloc (oV 3 ma na pa)).alloc (oV 3 ma nb pb)).alloc oz) w1:=bt2 hb1 (by apply_rules [HB,Below.refl,bel,Below.drew,bt3]);clear hb1 hv1)
     |(go_at_call 130;(first|rw [HXw.out]|rw [HZw.out]);with_reducible refine (up_any ao1 cap1 zs1 X _ (by have:=small_len hN1 hval1 (by omega);omega) (by omega) (RU hr1 (by apply_rules [Below.refl,bel,Below.drew,bt3])) hW1).mono ?_;rintro e w2 ⟨⟨v2,rfl,hv2⟩,hb2⟩;obtain ⟨ao2,cap2,zs2,rfl,hc2,hn2,hval2,hN2,hW2,hr2⟩:=hv2.dest;replace HB:Below ((((w.alloc ob).alloc (oV 3 ma na pa)).alloc (oV 3 ma nb pb)).alloc oz).heap.size ((((w.alloc ob).alloc (oV 3 ma na pa)).alloc (oV 3 ma nb pb)).alloc oz) w2:=bt2 hb2 (by apply_rules [HB,Below.refl,bel,Below.drew,bt3]);clear hb2 hv2;rw [hval1] at hval2)))
 all_goals (have HBx:Below w2.heap.size w2 w2:=Below.refl _ _)
 all_goals (obtain ⟨x0,x1,x2,x3,x4,x5,x6,x7,x8,x9,x10⟩:=jF HB)
 all_goals (go_wp2)
 all_goals (
   go_region_held3 (fun w'=>w'.cell? ⟨w.heap.size,0,none⟩=some (.int .i64 24)∧w'.cell? ⟨w.heap.size,1,none⟩=some (.int .i64 (-149))∧w'.cell? ⟨w.heap.size,2,none⟩=some (.int .i64 104)∧w'.cell? ⟨w.heap.size+1,0,none⟩=some (.int .u8 3)∧w'.cell? ⟨w.heap.size+1,1,none⟩=some (.bool ma)∧w'.cell? ⟨w.heap.size+1,2,none⟩=some (.int .u64 (na:Nat))∧w'.cell? ⟨w.heap.size+1,3,none⟩=some (.int .i64 pa)∧w'.cell? ⟨w.heap.size+1+1,0,none⟩=some (.int .u8 3)∧w'.cell? ⟨w.heap.size+1+1,1,none⟩=some (.bool ma)∧w'.cell? ⟨w.heap.size+1+1,2,none⟩=some (.int .u64 (nb:Nat))∧w'.cell? ⟨w.heap.size+1+1,3,none⟩=some (.int .i64 pb)) ((first|((try dsimp only);with_reducible refine jS ?_;(repeat (first|exact HB|exact Below.refl _ _|with_reducible first|refine bel ?_|refine Below.drew ?_|refine bt3 ?_));done)|(refine jF ?_;(repeat (first|exact HB|exact Below.refl _ _|with_reducible first|refine bel ?_|refine Below.drew ?_|refine bt3 ?_));done))) (first
     |(go_at_call 107;with_reducible refine (nat_any nb _ (by omega)).mono ?_;rintro e w3 ⟨⟨v3,rfl,hv3⟩,hb3⟩;obtain ⟨ao3,cap3,zs3,rfl,hc3,hn3,hval3,hN3,hW3,hr3⟩:=hv3.dest;replace HB:Below ((((w.alloc ob).alloc (oV 3 ma na pa)).alloc (oV 3 ma nb pb)).alloc oz).heap.size ((((w.alloc ob).alloc (oV 3 ma na pa)).alloc (oV 3 ma nb pb)).alloc oz) w3:=bt2 hb3 (by apply_rules [HB,Below.refl,bel,Below.drew,bt3]);replace HBx:Below w2.heap.size w2 w3:=bt2 hb3 (by apply_rules [HBx,Below.refl,bel,Below.drew,bt3]);clear hb3 hv3)
     |(go_at_call 130;(first|rw [HYw.out]|rw [HZw.out]);with_reducible refine (up_any ao3 cap3 zs3 Y _ (by have:=small_len hN3 hval3 (by omega);omega) (by omega) (RU hr3 (by apply_rules [Below.refl,bel,Below.drew,bt3])) hW3).mono ?_;rintro e w5 ⟨⟨v5,rfl,hv5⟩,hb5⟩;obtain ⟨ao5,cap5,zs5,rfl,hc5,hn5,hval5,hN5,hW5,hr5⟩:=hv5.dest;replace HB:Below ((((w.alloc ob).alloc (oV 3 ma na pa)).alloc (oV 3 ma nb pb)).alloc oz).heap.size ((((w.alloc ob).alloc (oV 3 ma na pa)).alloc (oV 3 ma nb pb)).alloc oz) w5:=bt2 hb5 (by apply_rules [HB,Below.refl,bel,Below.drew,bt3]);replace HBx:Below w2.heap.size w2 w5:=bt2 hb5 (by apply_rules [HBx,Below.refl,bel,Below.drew,bt3]);clear hb5 hv5;rw [hval3] at hval5)))
 all_goals (have hl2:zs2.length≤20:=len_pow hN2 hval2 20 HPx)
 all_goals (have hl5:zs5.length≤20:=len_pow hN5 hval5 20 HPy)
 all_goals (clear x0 x1 x2 x3 x4 x5 x6 x7 x8 x9 x10)
 all_goals (obtain ⟨x0,x1,x2,x3,x4,x5,x6,x7,x8,x9,x10⟩:=jF HB)
 all_goals (go_wp2)
 focus
   go_region_held3 (fun w'=>w'.cell? ⟨w.heap.size,0,none⟩=some (.int .i64 24)∧w'.cell? ⟨w.heap.size,1,none⟩=some (.int .i64 (-149))∧w'.cell? ⟨w.heap.size,2,none⟩=some (.int .i64 104)∧w'.cell? ⟨w.heap.size+1,0,none⟩=some (.int .u8 3)∧w'.cell? ⟨w.heap.size+1,1,none⟩=some (.bool ma)∧w'.cell? ⟨w.heap.size+1,2,none⟩=some (.int .u64 (na:Nat))∧w'.cell? ⟨w.heap.size+1,3,none⟩=some (.int .i64 pa)∧w'.cell? ⟨w.heap.size+1+1,0,none⟩=some (.int .u8 3)∧w'.cell? ⟨w.heap.size+1+1,1,none⟩=some (.bool ma)∧w'.cell? ⟨w.heap.size+1+1,2,none⟩=some (.int .u64 (nb:Nat))∧w'.cell? ⟨w.heap.size+1+1,3,none⟩=some (.int .i64 pb)) ((first|((try dsimp only);with_reducible refine jS ?_;(repeat (first|exact HB|exact Below.refl _ _|with_reducible first|refine bel ?_|refine Below.drew ?_|refine bt3 ?_));done)|(refine jF ?_;(repeat (first|exact HB|exact Below.refl _ _|with_reducible first|refine bel ?_|refine Below.drew ?_|refine bt3 ?_));done))) (first
     |(go_at_call 129;with_reducible refine (plus_any ao2 ao5 cap2 cap5 zs2 zs5 _ (by omega) (by omega) (RU hr2 (by apply_rules [HBx,Below.refl,bel,Below.drew,bt3])) (RU hr5 (by apply_rules [Below.refl,bel,Below.drew,bt3])) hW2 hW5).mono ?_;rintro e w8 ⟨⟨v8,rfl,hv8⟩,hb8⟩;obtain ⟨ao8,cap8,zs8,rfl,hc8,hn8,hval8,hN8,hW8,hr8⟩:=hv8.dest;replace HB:Below ((((w.alloc ob).alloc (oV 3 ma na pa)).alloc (oV 3 ma nb pb)).alloc oz).heap.size ((((w.alloc ob).alloc (oV 3 ma na pa)).alloc (oV 3 ma nb pb)).alloc oz) w8:=bt2 hb8 (by apply_rules [HB,Below.refl,bel,Below.drew,bt3]);clear hb8 hv8;rw [hval2,hval5] at hval8)
     |(go_at_call 105;with_reducible refine (rnd_any ma ao8 cap8 zs8 pb _ (by have:=len_pow hN8 hval8 (20+1) HPz.out;omega) (RU hr8 (by apply_rules [Below.refl,bel,Below.drew,bt3])) hW8 hN8 (by omega) (by omega)).mono ?_;rintro e w9 ⟨⟨n9,p9,rfl,hf9⟩,hb9⟩;rw [hdV_agg];replace HB:Below ((((w.alloc ob).alloc (oV 3 ma na pa)).alloc (oV 3 ma nb pb)).alloc oz).heap.size ((((w.alloc ob).alloc (oV 3 ma na pa)).alloc (oV 3 ma nb pb)).alloc oz) w9:=bt2 hb9 (by apply_rules [HB,Below.refl,bel,Below.drew,bt3]);obtain ⟨r0,r1,r2,r3,q0,q1,q2,q3⟩:=jA HB;rw [hval8] at hf9))
 rotate_left
 focus
   go_region_held3 (fun w'=>w'.cell? ⟨w.heap.size,0,none⟩=some (.int .i64 24)∧w'.cell? ⟨w.heap.size,1,none⟩=some (.int .i64 (-149))∧w'.cell? ⟨w.heap.size,2,none⟩=some (.int .i64 104)∧w'.cell? ⟨w.heap.size+1,0,none⟩=some (.int .u8 3)∧w'.cell? ⟨w.heap.size+1,1,none⟩=some (.bool ma)∧w'.cell? ⟨w.heap.size+1,2,none⟩=some (.int .u64 (na:Nat))∧w'.cell? ⟨w.heap.size+1,3,none⟩=some (.int .i64 pa)∧w'.cell? ⟨w.heap.size+1+1,0,none⟩=some (.int .u8 3)∧w'.cell? ⟨w.heap.size+1+1,1,none⟩=some (.bool ma)∧w'.cell? ⟨w.heap.size+1+1,2,none⟩=some (.int .u64 (nb:Nat))∧w'.cell? ⟨w.heap.size+1+1,3,none⟩=some (.int .i64 pb)) ((first|((try dsimp only);with_reducible refine jS ?_;(repeat (first|exact HB|exact Below.refl _ _|with_reducible first|refine bel ?_|refine Below.drew ?_|refine bt3 ?_));done)|(refine jF ?_;(repeat (first|exact HB|exact Below.refl _ _|with_reducible first|refine bel ?_|refine Below.drew ?_|refine bt3 ?_));done))) (first
     |(go_at_call 129;with_reducible refine (plus_any ao2 ao5 cap2 cap5 zs2 zs5 _ (by omega) (by omega) (RU hr2 (by apply_rules [HBx,Below.refl,bel,Below.drew,bt3])) (RU hr5 (by apply_rules [Below.refl,bel,Below.drew,bt3])) hW2 hW5).mono ?_;rintro e w8 ⟨⟨v8,rfl,hv8⟩,hb8⟩;obtain ⟨ao8,cap8,zs8,rfl,hc8,hn8,hval8,hN8,hW8,hr8⟩:=hv8.dest;replace HB:Below ((((w.alloc ob).alloc (oV 3 ma na pa)).alloc (oV 3 ma nb pb)).alloc oz).heap.size ((((w.alloc ob).alloc (oV 3 ma na pa)).alloc (oV 3 ma nb pb)).alloc oz) w8:=bt2 hb8 (by apply_rules [HB,Below.refl,bel,Below.drew,bt3]);clear hb8 hv8;rw [hval2,hval5] at hval8)
     |(go_at_call 105;with_reducible refine (rnd_any ma ao8 cap8 zs8 pa _ (by have:=len_pow hN8 hval8 (20+1) HPz.out;omega) (RU hr8 (by apply_rules [Below.refl,bel,Below.drew,bt3])) hW8 hN8 (by omega) (by omega)).mono ?_;rintro e w9 ⟨⟨n9,p9,rfl,hf9⟩,hb9⟩;rw [hdV_agg];replace HB:Below ((((w.alloc ob).alloc (oV 3 ma na pa)).alloc (oV 3 ma nb pb)).alloc oz).heap.size ((((w.alloc ob).alloc (oV 3 ma na pa)).alloc (oV 3 ma nb pb)).alloc oz) w9:=bt2 hb9 (by apply_rules [HB,Below.refl,bel,Below.drew,bt3]);obtain ⟨r0,r1,r2,r3,q0,q1,q2,q3⟩:=jA HB;rw [hval8] at hf9))
 rotate_left
 all_goals (go_wp2)
 all_goals (refine bodyPost_ret (v:=.agg #[.int .u8 (vS p9),.bool ma,.int .u64 (vM n9 p9),.int .i64 (vP p9)]) (by simp [results,Tryz.f138,go_sem,r0,r1,r2,r3]) rfl ?_)
 all_goals (exact ⟨⟨n9,p9,by rw [hdV_agg],hf9⟩,jB HB⟩)
abbrev sumLp:=smAl.1
abbrev sumGp:=smAl.2

theorem smCl :
   (∀ (ma:Bool) (mb:Bool),((ma == mb)=false)→∀ (na nb X Y:Nat) (pa pb:Int) (w:World),(na<16777216)→(nb<16777216)→(-149≤pa)→(pa≤104)→(-149≤pb)→(pb≤104)→(pb<pa)→(pa-pb=X)→(0=Y)→(na*2 ^ X=nb*2 ^ Y)→Calls Tryz.prog 138 #[.agg #[.int .i64 24,.int .i64 (-149),.int .i64 104],.agg #[.int .u8 3,.bool ma,.int .u64 na,.int .i64 pa],.agg #[.int .u8 3,.bool mb,.int .u64 nb,.int .i64 pb]] w fun e w'=>(∃ n q,e=.returned (hdV false n q)∧Fits n q 0)∧Below w.heap.size w w') ∧
   (∀ (ma:Bool) (mb:Bool),((ma == mb)=false)→∀ (na nb X Y:Nat) (pa pb:Int) (w:World),(na<16777216)→(nb<16777216)→(-149≤pa)→(pa≤104)→(-149≤pb)→(pb≤104)→(¬ pb<pa)→(0=X)→(pb-pa=Y)→(na*2 ^ X=nb*2 ^ Y)→Calls Tryz.prog 138 #[.agg #[.int .i64 24,.int .i64 (-149),.int .i64 104],.agg #[.int .u8 3,.bool ma,.int .u64 na,.int .i64 pa],.agg #[.int .u8 3,.bool mb,.int .u64 nb,.int .i64 pb]] w fun e w'=>(∃ n q,e=.returned (hdV false n q)∧Fits n q 0)∧Below w.heap.size w w'):=by
 refine ⟨?_,?_⟩
 all_goals intro ma mb hmm na nb X Y pa pb w hna hnb h1 h2 h3 h4 ho hX hY hc
 all_goals (have hXl:X≤600:=by omega)
 all_goals (have hYl:Y≤600:=by omega)
 all_goals (have HXw:Hid (IntKind.i64.wrap (X:Int)=X):=by rw [Hid,IntKind.wrap_i64];omega)
 all_goals (have HYw:Hid (IntKind.i64.wrap (Y:Int)=Y):=by rw [Hid,IntKind.wrap_i64];omega)
 all_goals (have HPx:=up_pow na X 20 hna (by omega))
 all_goals (have HPy:=up_pow nb Y 20 hnb (by omega))
 all_goals (have HB:Below ((((w.alloc ob).alloc (oV 3 ma na pa)).alloc (oV 3 mb nb pb)).alloc oz).heap.size ((((w.alloc ob).alloc (oV 3 ma na pa)).alloc (oV 3 mb nb pb)).alloc oz) ((((w.alloc ob).alloc (oV 3 ma na pa)).alloc (oV 3 mb nb pb)).alloc oz):=Below.refl _ _)
 have HZw:Hid (IntKind.i64.wrap 0=(Y:Int)):=by rw [Hid,←hY];rfl
 rotate_left
 have HZw:Hid (IntKind.i64.wrap 0=(X:Int)):=by rw [Hid,←hX];rfl
 rotate_left
 all_goals (have HAG:Hid (ag (na*2 ^ X) (nb*2 ^ Y)=0):=by rw [Hid];rw [hc];exact ag_eq _)
 all_goals (clear hc)
 clear hY
 rotate_left
 clear hX
 rotate_left
 all_goals (go_enter Tryz.func138,Tryz.ntmps138)
 all_goals (go_wp2)
 all_goals (
   go_region_held3 (fun w'=>w'.cell? ⟨w.heap.size,0,none⟩=some (.int .i64 24)∧w'.cell? ⟨w.heap.size,1,none⟩=some (.int .i64 (-149))∧w'.cell? ⟨w.heap.size,2,none⟩=some (.int .i64 104)∧w'.cell? ⟨w.heap.size+1,0,none⟩=some (.int .u8 3)∧w'.cell? ⟨w.heap.size+1,1,none⟩=some (.bool ma)∧w'.cell? ⟨w.heap.size+1,2,none⟩=some (.int .u64 (na:Nat))∧w'.cell? ⟨w.heap.size+1,3,none⟩=some (.int .i64 pa)∧w'.cell? ⟨w.heap.size+1+1,0,none⟩=some (.int .u8 3)∧w'.cell? ⟨w.heap.size+1+1,1,none⟩=some (.bool mb)∧w'.cell? ⟨w.heap.size+1+1,2,none⟩=some (.int .u64 (nb:Nat))∧w'.cell? ⟨w.heap.size+1+1,3,none⟩=some (.int .i64 pb)) ((first|((try dsimp only);with_reducible refine jS ?_;(repeat (first|exact HB|exact Below.refl _ _|with_reducible first|refine bel ?_|refine Below.drew ?_|refine bt3 ?_));done)|(refine jF ?_;(repeat (first|exact HB|exact Below.refl _ _|with_reducible first|refine bel ?_|refine Below.drew ?_|refine bt3 ?_));done))) (first
     |(go_at_call 107;with_reducible refine (nat_any na _ (by omega)).mono ?_;rintro e w1 ⟨⟨v1,rfl,hv1⟩,hb1⟩;obtain ⟨ao1,cap1,zs1,rfl,hc1,hn1,hval1,hN1,hW1,hr1⟩:=hv1.dest;replace HB:Below ((((w.alloc ob).alloc (oV 3 ma na pa)).alloc (oV 3 mb nb pb)).alloc oz).heap.size ((((w.alloc ob).alloc (oV 3 ma na pa)).alloc (oV 3 mb nb pb)).alloc oz) w1:=bt2 hb1 (by apply_rules [HB,Below.refl,bel,Below.drew,bt3]);clear hb1 hv1)
     |(go_at_call 130;(first|rw [HXw.out]|rw [HZw.out]);with_reducible refine (up_any ao1 cap1 zs1 X _ (by have:=small_len hN1 hval1 (by omega);omega) (by omega) (RU hr1 (by apply_rules [Below.refl,bel,Below.drew,bt3])) hW1).mono ?_;rintro e w2 ⟨⟨v2,rfl,hv2⟩,hb2⟩;obtain ⟨ao2,cap2,zs2,rfl,hc2,hn2,hval2,hN2,hW2,hr2⟩:=hv2.dest;replace HB:Below ((((w.alloc ob).alloc (oV 3 ma na pa)).alloc (oV 3 mb nb pb)).alloc oz).heap.size ((((w.alloc ob).alloc (oV 3 ma na pa)).alloc (oV 3 mb nb pb)).alloc oz) w2:=bt2 hb2 (by apply_rules [HB,Below.refl,bel,Below.drew,bt3]);clear hb2 hv2;rw [hval1] at hval2)))
 all_goals (have HBx:Below w2.heap.size w2 w2:=Below.refl _ _)
 all_goals (obtain ⟨x0,x1,x2,x3,x4,x5,x6,x7,x8,x9,x10⟩:=jF HB)
 all_goals (go_wp2)
 all_goals (
   go_region_held3 (fun w'=>w'.cell? ⟨w.heap.size,0,none⟩=some (.int .i64 24)∧w'.cell? ⟨w.heap.size,1,none⟩=some (.int .i64 (-149))∧w'.cell? ⟨w.heap.size,2,none⟩=some (.int .i64 104)∧w'.cell? ⟨w.heap.size+1,0,none⟩=some (.int .u8 3)∧w'.cell? ⟨w.heap.size+1,1,none⟩=some (.bool ma)∧w'.cell? ⟨w.heap.size+1,2,none⟩=some (.int .u64 (na:Nat))∧w'.cell? ⟨w.heap.size+1,3,none⟩=some (.int .i64 pa)∧w'.cell? ⟨w.heap.size+1+1,0,none⟩=some (.int .u8 3)∧w'.cell? ⟨w.heap.size+1+1,1,none⟩=some (.bool mb)∧w'.cell? ⟨w.heap.size+1+1,2,none⟩=some (.int .u64 (nb:Nat))∧w'.cell? ⟨w.heap.size+1+1,3,none⟩=some (.int .i64 pb)) ((first|((try dsimp only);with_reducible refine jS ?_;(repeat (first|exact HB|exact Below.refl _ _|with_reducible first|refine bel ?_|refine Below.drew ?_|refine bt3 ?_));done)|(refine jF ?_;(repeat (first|exact HB|exact Below.refl _ _|with_reducible first|refine bel ?_|refine Below.drew ?_|refine bt3 ?_));done))) (first
     |(go_at_call 107;with_reducible refine (nat_any nb _ (by omega)).mono ?_;rintro e w3 ⟨⟨v3,rfl,hv3⟩,hb3⟩;obtain ⟨ao3,cap3,zs3,rfl,hc3,hn3,hval3,hN3,hW3,hr3⟩:=hv3.dest;replace HB:Below ((((w.alloc ob).alloc (oV 3 ma na pa)).alloc (oV 3 mb nb pb)).alloc oz).heap.size ((((w.alloc ob).alloc (oV 3 ma na pa)).alloc (oV 3 mb nb pb)).alloc oz) w3:=bt2 hb3 (by apply_rules [HB,Below.refl,bel,Below.drew,bt3]);replace HBx:Below w2.heap.size w2 w3:=bt2 hb3 (by apply_rules [HBx,Below.refl,bel,Below.drew,bt3]);clear hb3 hv3)
     |(go_at_call 130;(first|rw [HYw.out]|rw [HZw.out]);with_reducible refine (up_any ao3 cap3 zs3 Y _ (by have:=small_len hN3 hval3 (by omega);omega) (by omega) (RU hr3 (by apply_rules [Below.refl,bel,Below.drew,bt3])) hW3).mono ?_;rintro e w5 ⟨⟨v5,rfl,hv5⟩,hb5⟩;obtain ⟨ao5,cap5,zs5,rfl,hc5,hn5,hval5,hN5,hW5,hr5⟩:=hv5.dest;replace HB:Below ((((w.alloc ob).alloc (oV 3 ma na pa)).alloc (oV 3 mb nb pb)).alloc oz).heap.size ((((w.alloc ob).alloc (oV 3 ma na pa)).alloc (oV 3 mb nb pb)).alloc oz) w5:=bt2 hb5 (by apply_rules [HB,Below.refl,bel,Below.drew,bt3]);replace HBx:Below w2.heap.size w2 w5:=bt2 hb5 (by apply_rules [HBx,Below.refl,bel,Below.drew,bt3]);clear hb5 hv5;rw [hval3] at hval5)))
 all_goals (have hl2:zs2.length≤20:=len_pow hN2 hval2 20 HPx)
 all_goals (have hl5:zs5.length≤20:=len_pow hN5 hval5 20 HPy)
 all_goals (clear x0 x1 x2 x3 x4 x5 x6 x7 x8 x9 x10)
 all_goals (obtain ⟨x0,x1,x2,x3,x4,x5,x6,x7,x8,x9,x10⟩:=jF HB)
 all_goals (
   go_wp2_with (first
     |(go_at_call 135;with_reducible refine (against_any ao2 ao5 cap2 cap5 zs2 zs5 _ (by omega) (by omega) (RU hr2 (by apply_rules [HBx,Below.refl,bel,Below.drew,bt3])) (RU hr5 (by apply_rules [Below.refl,bel,Below.drew,bt3])) hW2 hW5 hN2 hN5).mono ?_;rintro e wq ⟨rfl,kq,hq⟩;subst wq;rw [hval2,hval5,HAG.out])
     |(go_at_call 131;with_reducible refine (nought_any false _).mono ?_;rintro e w9 ⟨rfl,hb9⟩;replace HB:Below ((((w.alloc ob).alloc (oV 3 ma na pa)).alloc (oV 3 mb nb pb)).alloc oz).heap.size ((((w.alloc ob).alloc (oV 3 ma na pa)).alloc (oV 3 mb nb pb)).alloc oz) w9:=bt2 hb9 (by apply_rules [HB,Below.refl,bel,Below.drew,bt3]);obtain ⟨r0,r1,r2,r3,q0,q1,q2,q3⟩:=jA HB)))
 all_goals (refine bodyPost_ret (v:=.agg #[.int .u8 3,.bool false,.int .u64 0,.int .i64 (-149)]) (by simp [results,Tryz.f138,go_sem,r0,r1,r2,r3]) rfl ?_)
 all_goals (exact ⟨⟨0,-149,by rw [hdV,if_neg (by omega)];rfl,0,by omega,by omega,Or.inl rfl,rfl⟩,jB HB⟩)
abbrev sumLz:=smCl.1
abbrev sumGz:=smCl.2

end Go.Proofs.YtibhlcfligfhdaaGreat
