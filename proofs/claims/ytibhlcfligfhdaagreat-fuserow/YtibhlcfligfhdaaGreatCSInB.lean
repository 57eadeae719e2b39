import Derived.Test.YtibhlcfligfhdaaGreatCSSmB7
import Derived.Test.YtibhlcfligfhdaaGreatCABinA
namespace Go.Proofs.YtibhlcfligfhdaaGreat
set_option maxHeartbeats 40000000
open Go.RowKit
set_option maxRecDepth 100000
theorem down_nv (v:Value) (x n:Nat) (w:World) (h:NatV w v x) (hx:x<18446744073709551616) (hn:n≤100000) :
   Calls Tryz.prog 109 #[v,.int .i64 n] w fun e w'=>(∃ v',e=.returned v'∧NatV w' v' (x / 2 ^ n))∧Below w.heap.size w w':=by
 obtain ⟨ao,cap,zs,rfl,hc,hn',hval,hN,hW,hr⟩:=h
 have:=down_any ao cap zs n w (by have:=small_len hN hval hx;omega) hn hr hW
 rw [hval] at this
 exact this
theorem nat_0 (w:World):Calls Tryz.prog 107 #[.int .u64 0] w fun e w'=>(∃ v,e=.returned v∧NatV w' v 0)∧Below w.heap.size w w':=nat_any 0 w (by decide)
theorem low_nv (v:Value) (x:Nat) (w:World) (h:NatV w v x) (hx:x<18446744073709551616) :
   Calls Tryz.prog 108 #[v] w fun e w'=>e=.returned (.int .u64 (x:Nat))∧w'=w:=by
 obtain ⟨ao,cap,zs,rfl,hc,hn',hval,hN,hW,hr⟩:=h
 have:=low_any ao cap zs w (by have:=small_len hN hval hx;omega) hr hW
 rw [hval,Nat.mod_eq_of_lt hx] at this
 exact this
theorem tw_none (a:Nat) (w:World) (ht:∀ w,Calls Tryz.prog 100 #[.int .u32 a] w fun e w'=>e=.returned (.agg #[.int .u8 1,.bool false,.int .u64 0,.int .i64 0])∧Below w.heap.size w w') :
   Calls Tryz.prog 93 #[.int .u32 a] w fun e w'=>e=.returned (.int .i32 (0))∧Below w.heap.size w w':=by
 go_enter Tryz.func93,Tryz.ntmps93
 go_wp2_with (go_at_call 100;with_reducible refine (ht _).mono ?_;rintro e w1 ⟨rfl,h1⟩)
 go_ret
 exact ⟨rfl,bt2 h1 (Below.refl _ _) |> bel⟩
theorem tw_ef (a:Nat) (w:World) (ht:∀ w,Calls Tryz.prog 100 #[.int .u32 a] w fun e w'=>e=.returned (.agg #[.int .u8 2,.bool false,.int .u64 0,.int .i64 0])∧Below w.heap.size w w') :
   Calls Tryz.prog 93 #[.int .u32 a] w fun e w'=>e=.returned (.int .i32 (2147483647))∧Below w.heap.size w w':=by
 go_enter Tryz.func93,Tryz.ntmps93
 go_wp2_with (go_at_call 100;with_reducible refine (ht _).mono ?_;rintro e w1 ⟨rfl,h1⟩)
 go_ret
 exact ⟨rfl,bt2 h1 (Below.refl _ _) |> bel⟩
theorem tw_et (a:Nat) (w:World) (ht:∀ w,Calls Tryz.prog 100 #[.int .u32 a] w fun e w'=>e=.returned (.agg #[.int .u8 2,.bool true,.int .u64 0,.int .i64 0])∧Below w.heap.size w w') :
   Calls Tryz.prog 93 #[.int .u32 a] w fun e w'=>e=.returned (.int .i32 (-2147483648))∧Below w.heap.size w w':=by
 go_enter Tryz.func93,Tryz.ntmps93
 go_wp2_with (go_at_call 100;with_reducible refine (ht _).mono ?_;rintro e w1 ⟨rfl,h1⟩)
 go_ret
 exact ⟨rfl,bt2 h1 (Below.refl _ _) |> bel⟩
theorem tw_bf (a:Nat) (n:Nat) (p:Int) (hn:((n:Int) == 0)=false) (hp:8<p) (w:World) (ht:∀ w,Calls Tryz.prog 100 #[.int .u32 a] w fun e w'=>e=.returned (.agg #[.int .u8 3,.bool false,.int .u64 n,.int .i64 p])∧Below w.heap.size w w') :
   Calls Tryz.prog 93 #[.int .u32 a] w fun e w'=>e=.returned (.int .i32 (2147483647))∧Below w.heap.size w w':=by
 have hp':decide (p≤8)=false:=decide_eq_false (by omega)
 go_enter Tryz.func93,Tryz.ntmps93
 go_wp2_with (go_at_call 100;with_reducible refine (ht _).mono ?_;rintro e w1 ⟨rfl,h1⟩)
 go_ret
 exact ⟨rfl,bt2 h1 (Below.refl _ _) |> bel⟩
theorem tw_bt (a:Nat) (n:Nat) (p:Int) (hn:((n:Int) == 0)=false) (hp:8<p) (w:World) (ht:∀ w,Calls Tryz.prog 100 #[.int .u32 a] w fun e w'=>e=.returned (.agg #[.int .u8 3,.bool true,.int .u64 n,.int .i64 p])∧Below w.heap.size w w') :
   Calls Tryz.prog 93 #[.int .u32 a] w fun e w'=>e=.returned (.int .i32 (-2147483648))∧Below w.heap.size w w':=by
 have hp':decide (p≤8)=false:=decide_eq_false (by omega)
 go_enter Tryz.func93,Tryz.ntmps93
 go_wp2_with (go_at_call 100;with_reducible refine (ht _).mono ?_;rintro e w1 ⟨rfl,h1⟩)
 go_ret
 exact ⟨rfl,bt2 h1 (Below.refl _ _) |> bel⟩
theorem twA :
   (∀ (a:Nat) (n k T:Nat),(((n:Int) == 0)=false)→(n<16777216)→(k≤8)→(n*2 ^ k=T)→(T≤4294967296)→(T<2147483648)→∀ (w:World),(∀ w,Calls Tryz.prog 100 #[.int .u32 a] w fun e w'=>e=.returned (.agg #[.int .u8 3,.bool false,.int .u64 n,.int .i64 (k:Int)])∧Below w.heap.size w w')→Calls Tryz.prog 93 #[.int .u32 a] w fun e w'=>e=.returned (.int .i32 (T))∧Below w.heap.size w w') ∧
   (∀ (a:Nat) (n k T:Nat),(((n:Int) == 0)=false)→(n<16777216)→(k≤8)→(n*2 ^ k=T)→(T≤4294967296)→(2147483648≤T)→∀ (w:World),(∀ w,Calls Tryz.prog 100 #[.int .u32 a] w fun e w'=>e=.returned (.agg #[.int .u8 3,.bool false,.int .u64 n,.int .i64 (k:Int)])∧Below w.heap.size w w')→Calls Tryz.prog 93 #[.int .u32 a] w fun e w'=>e=.returned (.int .i32 (2147483647))∧Below w.heap.size w w') ∧
   (∀ (a:Nat) (n k T:Nat),(((n:Int) == 0)=false)→(n<16777216)→(k≤8)→(n*2 ^ k=T)→(T≤4294967296)→(T≤2147483648)→∀ (w:World),(∀ w,Calls Tryz.prog 100 #[.int .u32 a] w fun e w'=>e=.returned (.agg #[.int .u8 3,.bool true,.int .u64 n,.int .i64 (k:Int)])∧Below w.heap.size w w')→Calls Tryz.prog 93 #[.int .u32 a] w fun e w'=>e=.returned (.int .i32 (-(T:Int)))∧Below w.heap.size w w') ∧
   (∀ (a:Nat) (n k T:Nat),(((n:Int) == 0)=false)→(n<16777216)→(k≤8)→(n*2 ^ k=T)→(T≤4294967296)→(2147483648<T)→∀ (w:World),(∀ w,Calls Tryz.prog 100 #[.int .u32 a] w fun e w'=>e=.returned (.agg #[.int .u8 3,.bool true,.int .u64 n,.int .i64 (k:Int)])∧Below w.heap.size w w')→Calls Tryz.prog 93 #[.int .u32 a] w fun e w'=>e=.returned (.int .i32 (-2147483648))∧Below w.heap.size w w'):=by
 refine ⟨?_,?_,?_,?_⟩
 all_goals intro a n k T hn hn2 hk hT hTm hc w ht
 all_goals (have hk0:(0:Int)≤(k:Int):=by omega)
 all_goals (have hk8:(k:Int)≤8:=by omega)
 all_goals (have hTI:(n:Int)*2 ^ k=(T:Int):=by rw [←hT];simp)
 all_goals (have hTl:T<9223372036854775808:=by omega)
 all_goals (clear hT)
 have hc':decide ((2147483647:Int)<(T:Int))=false:=decide_eq_false (by omega)
 have hc2:decide ((T:Int) < -2147483648)=false:=decide_eq_false (by omega)
 rotate_left
 have hc':(2147483647:Int)<(T:Int):=by omega
 rotate_left
 have hc':decide ((2147483647:Int) < -(T:Int))=false:=decide_eq_false (by omega)
 have hc2:decide (-(T:Int) < -2147483648)=false:=decide_eq_false (by omega)
 rotate_left
 have hc':decide ((2147483647:Int) < -(T:Int))=false:=decide_eq_false (by omega)
 have hc2 : -(T:Int) < -2147483648:=by omega
 rotate_left
 all_goals (go_enter Tryz.func93,Tryz.ntmps93)
 all_goals (go_wp2_with (go_at_call 100;with_reducible refine (ht _).mono ?_;rintro e w1 ⟨rfl,h1⟩))
 all_goals (go_ret)
 all_goals (exact ⟨rfl,bt2 h1 (Below.refl _ _) |> bel⟩)
abbrev tw_pfa:=twA.1
abbrev tw_pfb:=twA.2.1
abbrev tw_pta:=twA.2.2.1
abbrev tw_ptb:=twA.2.2.2
theorem twB :
   (∀ (a:Nat) (n D T:Nat) (p:Int),(((n:Int) == 0)=false)→(n<16777216)→(p<0)→(-p=D)→(D≤1000)→(n / 2 ^ D=T)→∀ (w:World),(∀ w,Calls Tryz.prog 100 #[.int .u32 a] w fun e w'=>e=.returned (.agg #[.int .u8 3,.bool false,.int .u64 n,.int .i64 p])∧Below w.heap.size w w')→Calls Tryz.prog 93 #[.int .u32 a] w fun e w'=>e=.returned (.int .i32 ((T:Int)))∧Below w.heap.size w w') ∧
   (∀ (a:Nat) (D T:Nat) (p:Int),(p<0)→(-p=D)→(D≤1000)→(0 / 2 ^ D=T)→∀ (w:World),(∀ w,Calls Tryz.prog 100 #[.int .u32 a] w fun e w'=>e=.returned (.agg #[.int .u8 3,.bool false,.int .u64 0,.int .i64 p])∧Below w.heap.size w w')→Calls Tryz.prog 93 #[.int .u32 a] w fun e w'=>e=.returned (.int .i32 (0))∧Below w.heap.size w w') ∧
   (∀ (a:Nat) (n D T:Nat) (p:Int),(((n:Int) == 0)=false)→(n<16777216)→(p<0)→(-p=D)→(D≤1000)→(n / 2 ^ D=T)→∀ (U:Int),(-(T:Int)=U)→∀ (w:World),(∀ w,Calls Tryz.prog 100 #[.int .u32 a] w fun e w'=>e=.returned (.agg #[.int .u8 3,.bool true,.int .u64 n,.int .i64 p])∧Below w.heap.size w w')→Calls Tryz.prog 93 #[.int .u32 a] w fun e w'=>e=.returned (.int .i32 (U))∧Below w.heap.size w w') ∧
   (∀ (a:Nat) (D T:Nat) (p:Int),(p<0)→(-p=D)→(D≤1000)→(0 / 2 ^ D=T)→∀ (w:World),(∀ w,Calls Tryz.prog 100 #[.int .u32 a] w fun e w'=>e=.returned (.agg #[.int .u8 3,.bool true,.int .u64 0,.int .i64 p])∧Below w.heap.size w w')→Calls Tryz.prog 93 #[.int .u32 a] w fun e w'=>e=.returned (.int .i32 (0))∧Below w.heap.size w w'):=by
 refine ⟨?_,?_,?_,?_⟩
 intro a n D T p hn hn2 hp hD hDl hT w ht
 rotate_left
 intro a D T p hp hD hDl hT w ht
 rotate_left
 intro a n D T p hn hn2 hp hD hDl hT U hU w ht
 rotate_left
 intro a D T p hp hD hDl hT w ht
 rotate_left
 have hTl:T<16777216:=by rw [←hT];exact Nat.lt_of_le_of_lt (Nat.div_le_self _ _) hn2
 focus
   have HT:Hid (n / 2 ^ D=T):=hT
 rotate_left
 have hTl:T<16777216:=by rw [←hT];exact Nat.lt_of_le_of_lt (Nat.div_le_self _ _) (by omega)
 focus
   have HT:Hid (0 / 2 ^ D=T):=hT
 rotate_left
 have hTl:T<16777216:=by rw [←hT];exact Nat.lt_of_le_of_lt (Nat.div_le_self _ _) hn2
 focus
   have HT:Hid (n / 2 ^ D=T):=hT
 rotate_left
 have hTl:T<16777216:=by rw [←hT];exact Nat.lt_of_le_of_lt (Nat.div_le_self _ _) (by omega)
 focus
   have HT:Hid (0 / 2 ^ D=T):=hT
 rotate_left
 all_goals (have HTw:Hid (IntKind.i64.wrap (T:Int)=T):=by rw [Hid,IntKind.wrap_i64];omega)
 all_goals (have HDw:Hid (IntKind.i64.wrap (D:Int)=D):=by rw [Hid,IntKind.wrap_i64];omega)
 all_goals (have HDw2:Hid (IntKind.i64.wrap (-p)=D):=by rw [Hid,IntKind.wrap_i64];omega)
 all_goals (have hp8:p≤8:=by omega)
 all_goals (have hp0:decide (p ≥ 0)=false:=decide_eq_false (by omega))
 all_goals (have hp0':decide (0≤p)=false:=decide_eq_false (by omega))
 have hc':decide ((2147483647:Int)<(T:Int))=false:=decide_eq_false (by omega)
 have hc2:decide ((T:Int) < -2147483648)=false:=decide_eq_false (by omega)
 have hTI:(T:Int)<16777216:=by omega
 rotate_left
 have hc':decide ((2147483647:Int)<0)=false:=decide_eq_false (by omega)
 have hc2:decide (0 < -2147483648)=false:=decide_eq_false (by omega)
 have hTI:(T:Int)<16777216:=by omega
 rotate_left
 have hc':decide ((2147483647:Int)<U)=false:=decide_eq_false (by omega)
 have hc2:decide (U < -2147483648)=false:=decide_eq_false (by omega)
 have hUl : -16777216<U:=by omega
 have hUh:U<16777216:=by omega
 rotate_left
 have hc':decide ((2147483647:Int)<0)=false:=decide_eq_false (by omega)
 have hc2:decide (0 < -2147483648)=false:=decide_eq_false (by omega)
 have hTI:(T:Int)<16777216:=by omega
 rotate_left
 all_goals (clear hT)
 all_goals (go_enter Tryz.func93,Tryz.ntmps93)
 all_goals (go_wp2_with (go_at_call 100;with_reducible refine (ht _).mono ?_;rintro e w1 ⟨rfl,h1⟩))
 have HB:Below (w1.alloc (oV 3 false n p)).heap.size (w1.alloc (oV 3 false n p)) (w1.alloc (oV 3 false n p)):=Below.refl _ _
 have HA:=nv_nil (w1.alloc (oV 3 false n p))
 focus
   go_region_held3 (fun w'=>w'.cell? ⟨w1.heap.size,0,none⟩=some (.int .u8 3)∧w'.cell? ⟨w1.heap.size,1,none⟩=some (.bool false)∧w'.cell? ⟨w1.heap.size,2,none⟩=some (.int .u64 (n:Nat))∧w'.cell? ⟨w1.heap.size,3,none⟩=some (.int .i64 p)) ((refine g1 ?_;(repeat (first|exact HB|exact Below.refl _ _|with_reducible first|refine bel ?_|refine Below.drew ?_|refine bt3 ?_));done)) (first
     |(go_at_call 107;with_reducible refine (nat_any n _ (by omega)).mono ?_;rintro e w3 ⟨⟨v3,rfl,hv3⟩,hb3⟩;replace HB:Below (w1.alloc (oV 3 false n p)).heap.size (w1.alloc (oV 3 false n p)) w3:=bt2 hb3 (by apply_rules [HB,Below.refl,bel,Below.drew,bt3]);replace HA:=hv3;clear hb3 hv3)
     |(go_at_call 109;(first|rw [HDw.out]|rw [HDw2.out]);with_reducible refine (down_nv v3 n D _ (HA.on (by apply_rules [Below.refl,bel,Below.drew,bt3])) (by omega) (by omega)).mono ?_;rintro e w5 ⟨⟨v5,rfl,hv5⟩,hb5⟩;replace HB:Below (w1.alloc (oV 3 false n p)).heap.size (w1.alloc (oV 3 false n p)) w5:=bt2 hb5 (by apply_rules [HB,Below.refl,bel,Below.drew,bt3]);replace HA:=hv5;clear hb5 hv5)
     |(go_at_call 108;with_reducible refine (low_nv v5 _ _ (HA.on (by apply_rules [Below.refl,bel,Below.drew,bt3])) (by rw [HT.out];omega)).mono ?_;rintro e wq ⟨rfl,hq⟩;subst wq;rw [HT.out]))
 rotate_left
 have HB:Below (w1.alloc (oV 3 false 0 p)).heap.size (w1.alloc (oV 3 false 0 p)) (w1.alloc (oV 3 false 0 p)):=Below.refl _ _
 have HA:=nv_nil (w1.alloc (oV 3 false 0 p))
 focus
   go_region_held3 (fun w'=>w'.cell? ⟨w1.heap.size,0,none⟩=some (.int .u8 3)∧w'.cell? ⟨w1.heap.size,1,none⟩=some (.bool false)∧w'.cell? ⟨w1.heap.size,2,none⟩=some (.int .u64 0)∧w'.cell? ⟨w1.heap.size,3,none⟩=some (.int .i64 p)) ((refine g1 ?_;(repeat (first|exact HB|exact Below.refl _ _|with_reducible first|refine bel ?_|refine Below.drew ?_|refine bt3 ?_));done)) (first
     |(go_at_call 107;with_reducible refine (nat_0 _).mono ?_;rintro e w3 ⟨⟨v3,rfl,hv3⟩,hb3⟩;replace HB:Below (w1.alloc (oV 3 false 0 p)).heap.size (w1.alloc (oV 3 false 0 p)) w3:=bt2 hb3 (by apply_rules [HB,Below.refl,bel,Below.drew,bt3]);replace HA:=hv3;clear hb3 hv3)
     |(go_at_call 109;(first|rw [HDw.out]|rw [HDw2.out]);with_reducible refine (down_nv v3 0 D _ (HA.on (by apply_rules [Below.refl,bel,Below.drew,bt3])) (by omega) (by omega)).mono ?_;rintro e w5 ⟨⟨v5,rfl,hv5⟩,hb5⟩;replace HB:Below (w1.alloc (oV 3 false 0 p)).heap.size (w1.alloc (oV 3 false 0 p)) w5:=bt2 hb5 (by apply_rules [HB,Below.refl,bel,Below.drew,bt3]);replace HA:=hv5;clear hb5 hv5)
     |(go_at_call 108;with_reducible refine (low_nv v5 _ _ (HA.on (by apply_rules [Below.refl,bel,Below.drew,bt3])) (by rw [HT.out];omega)).mono ?_;rintro e wq ⟨rfl,hq⟩;subst wq;rw [HT.out]))
 rotate_left
 have HB:Below (w1.alloc (oV 3 true n p)).heap.size (w1.alloc (oV 3 true n p)) (w1.alloc (oV 3 true n p)):=Below.refl _ _
 have HA:=nv_nil (w1.alloc (oV 3 true n p))
 focus
   go_region_held3 (fun w'=>w'.cell? ⟨w1.heap.size,0,none⟩=some (.int .u8 3)∧w'.cell? ⟨w1.heap.size,1,none⟩=some (.bool true)∧w'.cell? ⟨w1.heap.size,2,none⟩=some (.int .u64 (n:Nat))∧w'.cell? ⟨w1.heap.size,3,none⟩=some (.int .i64 p)) ((refine g1 ?_;(repeat (first|exact HB|exact Below.refl _ _|with_reducible first|refine bel ?_|refine Below.drew ?_|refine bt3 ?_));done)) (first
     |(go_at_call 107;with_reducible refine (nat_any n _ (by omega)).mono ?_;rintro e w3 ⟨⟨v3,rfl,hv3⟩,hb3⟩;replace HB:Below (w1.alloc (oV 3 true n p)).heap.size (w1.alloc (oV 3 true n p)) w3:=bt2 hb3 (by apply_rules [HB,Below.refl,bel,Below.drew,bt3]);replace HA:=hv3;clear hb3 hv3)
     |(go_at_call 109;(first|rw [HDw.out]|rw [HDw2.out]);with_reducible refine (down_nv v3 n D _ (HA.on (by apply_rules [Below.refl,bel,Below.drew,bt3])) (by omega) (by omega)).mono ?_;rintro e w5 ⟨⟨v5,rfl,hv5⟩,hb5⟩;replace HB:Below (w1.alloc (oV 3 true n p)).heap.size (w1.alloc (oV 3 true n p)) w5:=bt2 hb5 (by apply_rules [HB,Below.refl,bel,Below.drew,bt3]);replace HA:=hv5;clear hb5 hv5)
     |(go_at_call 108;with_reducible refine (low_nv v5 _ _ (HA.on (by apply_rules [Below.refl,bel,Below.drew,bt3])) (by rw [HT.out];omega)).mono ?_;rintro e wq ⟨rfl,hq⟩;subst wq;rw [HT.out]))
 rotate_left
 have HB:Below (w1.alloc (oV 3 true 0 p)).heap.size (w1.alloc (oV 3 true 0 p)) (w1.alloc (oV 3 true 0 p)):=Below.refl _ _
 have HA:=nv_nil (w1.alloc (oV 3 true 0 p))
 focus
   go_region_held3 (fun w'=>w'.cell? ⟨w1.heap.size,0,none⟩=some (.int .u8 3)∧w'.cell? ⟨w1.heap.size,1,none⟩=some (.bool true)∧w'.cell? ⟨w1.heap.size,2,none⟩=some (.int .u64 0)∧w'.cell? ⟨w1.heap.size,3,none⟩=some (.int .i64 p)) ((refine g1 ?_;(repeat (first|exact HB|exact Below.refl _ _|with_reducible first|refine bel ?_|refine Below.drew ?_|refine bt3 ?_));done)) (first
     |(go_at_call 107;with_reducible refine (nat_0 _).mono ?_;rintro e w3 ⟨⟨v3,rfl,hv3⟩,hb3⟩;replace HB:Below (w1.alloc (oV 3 true 0 p)).heap.size (w1.alloc (oV 3 true 0 p)) w3:=bt2 hb3 (by apply_rules [HB,Below.refl,bel,Below.drew,bt3]);replace HA:=hv3;clear hb3 hv3)
     |(go_at_call 109;(first|rw [HDw.out]|rw [HDw2.out]);with_reducible refine (down_nv v3 0 D _ (HA.on (by apply_rules [Below.refl,bel,Below.drew,bt3])) (by omega) (by omega)).mono ?_;rintro e w5 ⟨⟨v5,rfl,hv5⟩,hb5⟩;replace HB:Below (w1.alloc (oV 3 true 0 p)).heap.size (w1.alloc (oV 3 true 0 p)) w5:=bt2 hb5 (by apply_rules [HB,Below.refl,bel,Below.drew,bt3]);replace HA:=hv5;clear hb5 hv5)
     |(go_at_call 108;with_reducible refine (low_nv v5 _ _ (HA.on (by apply_rules [Below.refl,bel,Below.drew,bt3])) (by rw [HT.out];omega)).mono ?_;rintro e wq ⟨rfl,hq⟩;subst wq;rw [HT.out]))
 rotate_left
 all_goals (obtain ⟨c0,c1,c2,c3⟩:=g1 HB)
 all_goals (clear hD hp hp0 hp0' hp8 ht HA)
 rw [HTw.out]
 rotate_left
 skip
 rotate_left
 rw [HTw.out]
 rotate_left
 skip
 rotate_left
 all_goals (go_wp2)
 all_goals (go_ret)
 exact ⟨rfl,bt2 (show Below (w1.alloc (oV 3 false n p)).heap.size (w1.alloc (oV 3 false n p)) _ from by (repeat (first|exact HB|exact Below.refl _ _|with_reducible first|refine bel ?_|refine Below.drew ?_|refine bt3 ?_))) (bel (bt2 h1 (Below.refl _ _)))⟩
 exact ⟨rfl,bt2 (show Below (w1.alloc (oV 3 false 0 p)).heap.size (w1.alloc (oV 3 false 0 p)) _ from by (repeat (first|exact HB|exact Below.refl _ _|with_reducible first|refine bel ?_|refine Below.drew ?_|refine bt3 ?_))) (bel (bt2 h1 (Below.refl _ _)))⟩
 exact ⟨rfl,bt2 (show Below (w1.alloc (oV 3 true n p)).heap.size (w1.alloc (oV 3 true n p)) _ from by (repeat (first|exact HB|exact Below.refl _ _|with_reducible first|refine bel ?_|refine Below.drew ?_|refine bt3 ?_))) (bel (bt2 h1 (Below.refl _ _)))⟩
 exact ⟨rfl,bt2 (show Below (w1.alloc (oV 3 true 0 p)).heap.size (w1.alloc (oV 3 true 0 p)) _ from by (repeat (first|exact HB|exact Below.refl _ _|with_reducible first|refine bel ?_|refine Below.drew ?_|refine bt3 ?_))) (bel (bt2 h1 (Below.refl _ _)))⟩
abbrev tw_nfn:=twB.1
abbrev tw_nfz:=twB.2.1
abbrev tw_ntn:=twB.2.2.1
abbrev tw_ntz:=twB.2.2.2
theorem rd_vali (a:Nat):rdm a*2 ^ rdk a=val (a % 2147483648):=by
 unfold rdm rdk val
 split
 · simp
 · rw [show a % 2147483648 % 8388608=a % 8388608 by omega]
theorem key_sgi (a:Nat) (h:a<4294967296):key a=if sg a then -((a % 2147483648:Nat):Int) else ((a % 2147483648:Nat):Int):=by
 unfold key sg
 by_cases h':2147483648≤a
 · rw [if_neg (by omega),decide_eq_true h'];rfl
 · rw [if_pos (by omega),decide_eq_false h'];simp;omega
def tT (a:Nat):Nat:=val (a % 2147483648) / 2 ^ 149
def twV (a:Nat):Int:=if ok a=false then 0 else if 1325400064≤a % 2147483648 then (if sg a then -2147483648 else 2147483647) else if sg a then -(tT a:Int) else (tT a:Int)
theorem two31:val 1325400064=2147483648*2 ^ 149:=by decide +kernel
theorem tT_lt (a:Nat):tT a<2147483648↔a % 2147483648<1325400064:=by
 unfold tT
 rw [Nat.div_lt_iff_lt_mul (Nat.two_pow_pos 149),←two31,val_lt_iff]
theorem tT_neg (a:Nat) (h:rdk a≤149):rdm a / 2 ^ (149-rdk a)=tT a:=by
 unfold tT
 rw [←rd_vali a,show (2:Nat) ^ 149=2 ^ (149-rdk a)*2 ^ rdk a by rw [←Nat.pow_add];congr 1;omega]
 rw [Nat.mul_div_mul_right _ _ (Nat.two_pow_pos _)]
theorem tT_pos (a:Nat) (h:149≤rdk a):rdm a*2 ^ (rdk a-149)=tT a:=by
 unfold tT
 rw [←rd_vali a,show (2:Nat) ^ rdk a=2 ^ (rdk a-149)*2 ^ 149 by rw [←Nat.pow_add];congr 1;omega,←Nat.mul_assoc,Nat.mul_div_cancel _ (Nat.two_pow_pos _)]
theorem int_val (a:Nat) (ha:a<4294967296) (fa:a % 2147483648<1325400064):floatToIntVal .f32 a .i32=some (if sg a then -(tT a:Int) else (tT a:Int)):=by
 have hT:=(tT_lt a).2 fa
 have hint:(FloatKind.f32.decode a).toInt .zero=some (if sg a then -(tT a:Int) else (tT a:Int)):=by
   show (Ieee.single.read a).toInt .zero=_
   rw [read_rd a (by omega)]
   simp only [Ieee.Datum.toInt,Ieee.Datum.integral,cutz_eq]
   have hc:rdm a <<< (-149+(rdk a:Int)).toNat / 2 ^ (-(-149+(rdk a:Int))).toNat=tT a:=by
     rw [Nat.shiftLeft_eq]
     by_cases hk1:rdk a≤149
     · rw [show (-149+(rdk a:Int)).toNat=0 by omega,show (-(-149+(rdk a:Int))).toNat=149-rdk a by omega,Nat.pow_zero,Nat.mul_one]
       exact tT_neg a hk1
     · rw [show (-149+(rdk a:Int)).toNat=rdk a-149 by omega,show (-(-149+(rdk a:Int))).toNat=0 by omega,Nat.pow_zero,Nat.div_one]
       exact tT_pos a (by omega)
   rw [hc]
   unfold Ieee.signed
   rw [Nat.shiftLeft_eq,Nat.pow_zero,Nat.mul_one,sg_sn a ha]
 unfold floatToIntVal
 rw [hint]
 show (if IntKind.i32.min≤_∧_≤IntKind.i32.max then some _ else none)=some _
 rw [if_pos]
 have h1:IntKind.i32.min = -2147483648:=rfl
 have h2:IntKind.i32.max=2147483647:=rfl
 rw [h1,h2]
 split <;> omega
theorem ptoward_any (a:Nat) (w:World) (ha:a<4294967296) :
   Calls Tryz.prog 121 #[.int .u32 a] w fun e w'=>e=.returned (.int .i32 (twV a))∧w'=w:=by
 unfold twV
 cases oa:ok a with
 |false=>rw [if_pos rfl];exact toward_nan a w oa
 | true=>
   rw [if_neg (by simp)]
   have kw:=key_sgi a ha
   have mo:=ok_mod oa
   have k1:key 1325400064=1325400064:=rfl
   have k2:key 3472883712 = -1325400064:=rfl
   have o1:=order_key a 1325400064 ha (by decide) oa (by decide)
   have o2:=order_key a 3472883712 ha (by decide) oa (by decide)
   rw [k1] at o1
   rw [k2] at o2
   simp only [compare,compareOfLessAndEq] at o1 o2
   by_cases hr:1325400064≤a % 2147483648
   · rw [if_pos hr]
     cases hs:sg a with
     | false=>
       rw [hs] at kw
       simp only [Bool.false_eq_true,if_false] at kw ⊢
       refine toward_max a w oa ?_
       rw [o1,if_neg (by omega)]
       by_cases e:key a=1325400064
       · right;rw [if_pos e]
       · left;rw [if_neg e]
     | true=>
       rw [hs] at kw
       simp only [if_true] at kw ⊢
       refine toward_min a w oa (by rw [o1,if_pos (by omega)]) ?_
       rw [o2]
       by_cases e:key a < -1325400064
       · left;rw [if_pos e]
       · right;rw [if_neg e,if_pos (by omega)]
   · rw [if_neg hr]
     have kb : -1325400064<key a∧key a<1325400064:=by rw [kw];split <;> omega
     exact toward_int a _ w oa (by rw [o1,if_pos kb.2]) (by rw [o2,if_neg (by omega),if_neg (by omega)]) (int_val a ha (by omega))
theorem rtoward_any (a:Nat) (w:World) (ha:a<4294967296) :
   Calls Tryz.prog 93 #[.int .u32 a] w fun e w'=>e=.returned (.int .i32 (twV a))∧Below w.heap.size w w':=by
 have ht:=fun w=>take_any a w ha
 unfold twV
 cases oa:ok a with
 |false=>rw [tv_none oa] at ht;rw [if_pos rfl];exact tw_none a w ht
 | true=>
   rw [if_neg (by simp)]
   have mo:=ok_mod oa
   by_cases hi:a % 2147483648=2139095040
   · rw [tv_inf hi] at ht
     rw [if_pos (by omega)]
     cases hs:sg a with
     |false=>rw [hs] at ht;exact tw_ef a w ht
     |true=>rw [hs] at ht;exact tw_et a w ht
   · have fa : a % 2147483648<2139095040:=by omega
     rw [tv_fin fa] at ht
     obtain ⟨ka,na⟩:=rd_k fa
     obtain ⟨g1',g2',g3'⟩:=rd_rung a
     by_cases hneg:rdk a<149
     · have hT:=tT_neg a (by omega)
       have hr:¬ 1325400064≤a % 2147483648:=by omega
       rw [if_neg hr]
       by_cases hz:rdm a=0
       · have hT0:tT a=0:=by rw [←hT,hz];simp
         rw [hz] at ht
         rw [hT0]
         cases hs:sg a with
         |false=>rw [hs] at ht;exact tw_nfz a (149-rdk a) 0 _ (by omega) (by omega) (by omega) (by simp) w ht
         |true=>rw [hs] at ht;exact tw_ntz a (149-rdk a) 0 _ (by omega) (by omega) (by omega) (by simp) w ht
       · have hz':((rdm a:Int) == 0)=false:=by rw [beq_eq_false_iff_ne];omega
         cases hs:sg a with
         |false=>rw [hs] at ht;exact tw_nfn a (rdm a) (149-rdk a) (tT a) _ hz' na (by omega) (by omega) (by omega) hT w ht
         |true=>rw [hs] at ht;exact tw_ntn a (rdm a) (149-rdk a) (tT a) _ hz' na (by omega) (by omega) (by omega) hT _ rfl w ht
     · have hz : rdm a≠0:=by omega
       have hz':((rdm a:Int) == 0)=false:=by rw [beq_eq_false_iff_ne];omega
       by_cases hbig:157<rdk a
       · rw [if_pos (by omega)]
         cases hs:sg a with
         |false=>rw [hs] at ht;exact tw_bf a _ _ hz' (by omega) w ht
         |true=>rw [hs] at ht;exact tw_bt a _ _ hz' (by omega) w ht
       · have hT:=tT_pos a (by omega)
         obtain ⟨k,hk⟩:∃ k,rdk a-149=k:=⟨_,rfl⟩
         rw [show -149+(rdk a:Int)=(k:Int) by omega] at ht
         rw [hk] at hT
         have hTm:tT a≤4294967296:=by
           rw [←hT]
           have h1:2 ^ k≤2 ^ 8:=Nat.pow_le_pow_right (by decide) (by omega)
           exact Nat.le_trans (Nat.mul_le_mul (Nat.le_of_lt na) h1) (by decide)
         have hlt:=tT_lt a
         by_cases hr:1325400064≤a % 2147483648
         · rw [if_pos hr]
           have hT2:2147483648≤tT a:=by omega
           cases hs:sg a with
           |false=>rw [hs] at ht;exact tw_pfb a _ k _ hz' na (by omega) hT hTm hT2 w ht
           | true=>
             rw [hs] at ht
             by_cases he:tT a=2147483648
             · have:=tw_pta a _ k _ hz' na (by omega) hT hTm (by omega) w ht
               rw [he] at this
               exact this
             · exact tw_ptb a _ k _ hz' na (by omega) hT hTm (by omega) w ht
         · rw [if_neg hr]
           cases hs:sg a with
           |false=>rw [hs] at ht;exact tw_pfa a _ k _ hz' na (by omega) hT hTm (by omega) w ht
           |true=>rw [hs] at ht;exact tw_pta a _ k _ hz' na (by omega) hT hTm (by omega) w ht
def sex8 (a:Nat):Nat:=if a % 256<128 then a % 256 else a % 256+4294967040
def sex16 (a:Nat):Nat:=if a % 65536<32768 then a % 65536 else a % 65536+4294901760
theorem u_w8 (a:Nat):IntKind.i8.wrap (a:Int) % 4294967296=(sex8 a:Int):=by
 have e:IntKind.i8.wrap (a:Int)=((a:Int)+128) % 256-128:=by rw [IntKind.wrap];simp [IntKind.signed,IntKind.bits];split <;> omega
 rw [e];unfold sex8;split <;> omega
theorem u_w16 (a:Nat):IntKind.i16.wrap (a:Int) % 4294967296=(sex16 a:Int):=by
 have e:IntKind.i16.wrap (a:Int)=((a:Int)+32768) % 65536-32768:=by rw [IntKind.wrap];simp [IntKind.signed,IntKind.bits];split <;> omega
 rw [e];unfold sex16;split <;> omega
theorem xor_ones {a:Nat} (ha:a<4294967296):a ^^^ 4294967295=4294967295-a:=by
 have h:(BitVec.ofNat 32 a ^^^ BitVec.allOnes 32).toNat=(~~~ BitVec.ofNat 32 a).toNat:=by rw [BitVec.xor_allOnes]
 rw [BitVec.toNat_xor,BitVec.toNat_not,BitVec.toNat_allOnes,BitVec.toNat_ofNat,Nat.mod_eq_of_lt ha] at h
 exact h
theorem u_not {a:Nat} (ha:a<4294967296):bits .xor .u32 IntKind.u32.max (a:Int)=((4294967295-a:Nat):Int):=by
 have h1:IntKind.u32.max=((4294967295:Nat):Int):=rfl
 rw [h1,u32_xor_nat 4294967295 a (by decide) ha]
 congr 1
 have:=Nat.xor_comm 4294967295 a
 rw [this]
 exact xor_ones ha
theorem u_sex8_any (a:Nat) (w:World) :
   Calls Tryz.prog 102 #[.int .u8 36,.int .u32 a] w fun e w'=>e=.returned (.tuple #[.int .u32 ((sex8 a:Nat):Int),.int .i64 0])∧w'=w:=by
 have e:=u_w8 a
 rw [←e]
 clear e
 go_enter Tryz.func102,Tryz.ntmps102
 go_wp2
 simp [bodyPost,results,Tryz.results102]
theorem u_sex16_any (a:Nat) (w:World) :
   Calls Tryz.prog 102 #[.int .u8 37,.int .u32 a] w fun e w'=>e=.returned (.tuple #[.int .u32 ((sex16 a:Nat):Int),.int .i64 0])∧w'=w:=by
 have e:=u_w16 a
 rw [←e]
 clear e
 go_enter Tryz.func102,Tryz.ntmps102
 go_wp2
 simp [bodyPost,results,Tryz.results102]
theorem u_neg_any (a:Nat) (w:World) (ha:a<4294967296) :
   Calls Tryz.prog 102 #[.int .u8 38,.int .u32 a] w fun e w'=>e=.returned (.tuple #[.int .u32 (((4294967296-a) % 4294967296:Nat):Int),.int .i64 0])∧w'=w:=by
 have e:(-(a:Int)) % 4294967296=(((4294967296-a) % 4294967296:Nat):Int):=by omega
 rw [←e]
 clear e
 go_enter Tryz.func102,Tryz.ntmps102
 go_wp2
 simp [bodyPost,results,Tryz.results102]
theorem u_not_any (a:Nat) (w:World) (ha:a<4294967296) :
   Calls Tryz.prog 102 #[.int .u8 49,.int .u32 a] w fun e w'=>e=.returned (.tuple #[.int .u32 ((4294967295-a:Nat):Int),.int .i64 0])∧w'=w:=by
 have e:=u_not ha
 have hs:¬ IntKind.u32.signed=true:=by decide
 rw [←e]
 clear e
 go_enter Tryz.func102,Tryz.ntmps102
 go_wp2
 simp [bodyPost,results,Tryz.results102]
theorem u_negf_any (a:Nat) (w:World) (ha:a<4294967296) :
   Calls Tryz.prog 102 #[.int .u8 53,.int .u32 a] w fun e w'=>e=.returned (.tuple #[.int .u32 ((tn a:Nat):Int),.int .i64 0])∧w'=w:=by
 go_enter Tryz.func102,Tryz.ntmps102
 go_wp2_with (go_at_call 119;refine (turned_any _ _ ha).mono ?_;rintro e wq ⟨rfl,hq⟩;subst wq)
 simp [bodyPost,results,Tryz.results102]
theorem u_cvif_any (a:Nat) (w:World) (ha:a<4294967296) :
   Calls Tryz.prog 102 #[.int .u8 58,.int .u32 a] w fun e w'=>e=.returned (.tuple #[.int .u32 ((fof (sx a):Nat):Int),.int .i64 0])∧w'=w:=by
 have e:=wrap32_sx ha
 rw [←e]
 clear e
 go_enter Tryz.func102,Tryz.ntmps102
 go_wp2_with (go_at_call 120;refine (of_any _ _).mono ?_;rintro e wq ⟨rfl,hq⟩;subst wq)
 simp [bodyPost,results,Tryz.results102]
theorem u_cvfi_any (a:Nat) (w:World) (ha:a<4294967296) :
   Calls Tryz.prog 102 #[.int .u8 59,.int .u32 a] w fun e w'=>e=.returned (.tuple #[.int .u32 (((twV a % 4294967296).toNat:Nat):Int),.int .i64 0])∧w'=w:=by
 have e:=anat_of (z:=twV a)
 rw [e]
 clear e
 go_enter Tryz.func102,Tryz.ntmps102
 go_wp2_with (go_at_call 121;refine (ptoward_any _ _ ha).mono ?_;rintro e wq ⟨rfl,hq⟩;subst wq)
 simp [bodyPost,results,Tryz.results102]
theorem u_none_any (op a:Nat) (w:World) (h36:¬ (op:Int)=36) (h37:¬ (op:Int)=37) (h38:¬ (op:Int)=38) (h49:¬ (op:Int)=49) (h53:¬ (op:Int)=53) (h58:¬ (op:Int)=58) (h59:¬ (op:Int)=59) :
   Calls Tryz.prog 102 #[.int .u8 op,.int .u32 a] w fun e w'=>e=.returned (.tuple #[.int .u32 0,.int .i64 61])∧w'=w:=by
 go_enter Tryz.func102,Tryz.ntmps102
 go_wp2
 simp [bodyPost,results,Tryz.results102]
def unV (op a:Nat):Nat:=if op=36 then (sex8 a) else if op=37 then (sex16 a) else if op=38 then ((4294967296-a) % 4294967296) else if op=49 then (4294967295-a) else if op=53 then (tn a) else if op=58 then (fof (sx a)) else if op=59 then ((twV a % 4294967296).toNat) else 0
def unE (op:Nat):Int:=if op=36∨op=37∨op=38∨op=49∨op=53∨op=58∨op=59 then 0 else 61
theorem unV_36 (a:Nat):unV 36 a=(sex8 a):=by
 unfold unV
 repeat (first|rw [if_pos rfl]|rw [if_neg (by decide)])
theorem unV_37 (a:Nat):unV 37 a=(sex16 a):=by
 unfold unV
 repeat (first|rw [if_pos rfl]|rw [if_neg (by decide)])
theorem unV_38 (a:Nat):unV 38 a=((4294967296-a) % 4294967296):=by
 unfold unV
 repeat (first|rw [if_pos rfl]|rw [if_neg (by decide)])
theorem unV_49 (a:Nat):unV 49 a=(4294967295-a):=by
 unfold unV
 repeat (first|rw [if_pos rfl]|rw [if_neg (by decide)])
theorem unV_53 (a:Nat):unV 53 a=(tn a):=by
 unfold unV
 repeat (first|rw [if_pos rfl]|rw [if_neg (by decide)])
theorem unV_58 (a:Nat):unV 58 a=(fof (sx a)):=by
 unfold unV
 repeat (first|rw [if_pos rfl]|rw [if_neg (by decide)])
theorem unV_59 (a:Nat):unV 59 a=((twV a % 4294967296).toNat):=by
 unfold unV
 repeat (first|rw [if_pos rfl]|rw [if_neg (by decide)])
theorem un_any (op a:Nat) (w:World) (ha:a<4294967296) :
   Calls Tryz.prog 102 #[.int .u8 op,.int .u32 a] w fun e w'=>e=.returned (.tuple #[.int .u32 (unV op a),.int .i64 (unE op)])∧w'=w:=by
 by_cases h36:op=36
 · subst h36
   rw [unV_36,show unE 36=0 from rfl]
   exact u_sex8_any a w
 by_cases h37:op=37
 · subst h37
   rw [unV_37,show unE 37=0 from rfl]
   exact u_sex16_any a w
 by_cases h38:op=38
 · subst h38
   rw [unV_38,show unE 38=0 from rfl]
   exact u_neg_any a w ha
 by_cases h49:op=49
 · subst h49
   rw [unV_49,show unE 49=0 from rfl]
   exact u_not_any a w ha
 by_cases h53:op=53
 · subst h53
   rw [unV_53,show unE 53=0 from rfl]
   exact u_negf_any a w ha
 by_cases h58:op=58
 · subst h58
   rw [unV_58,show unE 58=0 from rfl]
   exact u_cvif_any a w ha
 by_cases h59:op=59
 · subst h59
   rw [unV_59,show unE 59=0 from rfl]
   exact u_cvfi_any a w ha
 have h0:unV op a=0:=by unfold unV;simp only [if_neg h36,if_neg h37,if_neg h38,if_neg h49,if_neg h53,if_neg h58,if_neg h59]
 have h1:unE op=61:=by unfold unE;rw [if_neg (by omega)]
 rw [h0,h1]
 exact u_none_any op a w (by omega) (by omega) (by omega) (by omega) (by omega) (by omega) (by omega)
end Go.Proofs.YtibhlcfligfhdaaGreat
