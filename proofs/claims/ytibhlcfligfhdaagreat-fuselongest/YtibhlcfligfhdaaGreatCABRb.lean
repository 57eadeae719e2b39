import Derived.Test.YtibhlcfligfhdaaGreatCITab
import Derived.Test.YtibhlcfligfhdaaGreatCSSmB7
namespace Go.Proofs.YtibhlcfligfhdaaGreat
set_option maxHeartbeats 4000000
open Go.RowKit
set_option maxRecDepth 100000
theorem bit_at (a b k:Nat):(a &&& b) / 2 ^ k % 2=(a / 2 ^ k % 2) &&& (b / 2 ^ k % 2)∧(a ||| b) / 2 ^ k % 2=(a / 2 ^ k % 2) ||| (b / 2 ^ k % 2)∧(a ^^^ b) / 2 ^ k % 2=(a / 2 ^ k % 2) ^^^ (b / 2 ^ k % 2):=by
 have h:=fun x:Nat=>Nat.shiftRight_eq_div_pow x k
 rw [←h,←h,←h,←h,←h,Nat.shiftRight_and_distrib,Nat.shiftRight_or_distrib,Nat.shiftRight_xor_distrib]
 exact ⟨Nat.and_mod_two_pow (n:=1),Nat.or_mod_two_pow (n:=1),Nat.xor_mod_two_pow (n:=1)⟩
theorem mod_bit (V k:Nat):V % 2 ^ (k+1)=V % 2 ^ k+2 ^ k*(V / 2 ^ k % 2):=by rw [Nat.pow_succ,Nat.mod_mul]
theorem bit_cases (a k:Nat):a / 2 ^ k % 2=0∨a / 2 ^ k % 2=1:=by omega
theorem rbits_and (a b:Nat) (w:World) (ha:a<4294967296) (hb:b<4294967296) :
   Calls Tryz.prog 95 #[.int .u8 46,.int .u32 a,.int .u32 b] w fun e w'=>e=.returned (.int .u32 ((a &&& b:Nat):Int))∧Below w.heap.size w w':=by
 have hV:a &&& b<2 ^ 32:=Nat.and_lt_two_pow a (n:=32) hb
 have HV:Hid (∀ k,(a &&& b) / 2 ^ k % 2=(a / 2 ^ k % 2) &&& (b / 2 ^ k % 2)):=fun k=>(bit_at a b k).1
 obtain ⟨V,hVe⟩:∃ V,a &&& b=V:=⟨_,rfl⟩
 rw [hVe] at hV HV ⊢
 clear hVe
 go_enter Tryz.func95,Tryz.ntmps95
 go_wp2
 go_loopw [7,8,9,10,11] (fun out i _ _ _ wr=>∃ k:Nat,k≤32∧i=.int .u32 k∧out=.int .i64 ((V % 2 ^ k:Nat):Int)∧Below w.heap.size w wr) (fun _ i _ _ _ _=>32-(intOf i).toNat)
 case atStart=>exact ⟨0,by omega,rfl,by simp [Nat.mod_one],Below.refl _ _⟩
 case round=>
   obtain ⟨k,hk,rfl,rfl,hb0⟩:=hrel
   rename World=>wr
   by_cases hlt:k<32
   · have hI : (k:Int)<32:=by omega
     have cp:=fun w=>rpow_any k w (by omega)
     have HS:Hid (V % 2 ^ (k+1)=V % 2 ^ k+2 ^ k*(V / 2 ^ k % 2)):=mod_bit V k
     have HW:=HV.out k
     have ca:=bit_cases a k
     have cb:=bit_cases b k
     have hp:(2:Nat) ^ k≤2147483648:=Nat.pow_le_pow_right (by decide) (show k≤31 by omega)
     have hm:V % 2 ^ k<2 ^ k:=Nat.mod_lt _ (Nat.two_pow_pos k)
     have hp0:=Nat.two_pow_pos k
     have la:=Nat.div_le_self a (2 ^ k)
     have lb:=Nat.div_le_self b (2 ^ k)
     have q1:(a:Int) / ((2 ^ k:Nat):Int)=((a / 2 ^ k:Nat):Int):=rfl
     have q2:(b:Int) / ((2 ^ k:Nat):Int)=((b / 2 ^ k:Nat):Int):=rfl
     have q3:(a:Int).tdiv ((2 ^ k:Nat):Int)=((a / 2 ^ k:Nat):Int):=rfl
     have q4:(b:Int).tdiv ((2 ^ k:Nat):Int)=((b / 2 ^ k:Nat):Int):=rfl
     generalize V / 2 ^ k % 2=vb at *
     generalize V % 2 ^ k=O at *
     generalize a / 2 ^ k=x at *
     generalize b / 2 ^ k=y at *
     have g1:((x:Int) % 2)=((x % 2:Nat):Int):=rfl
     have g2:((y:Int) % 2)=((y % 2:Nat):Int):=rfl
     have g3:((x:Int).tmod 2)=((x % 2:Nat):Int):=rfl
     have g4:((y:Int).tmod 2)=((y % 2:Nat):Int):=rfl
     generalize x % 2=xb at *
     generalize y % 2=yb at *
     have HG:Hid (∀ g,(2:Nat) ^ k=g→V % 2 ^ (k+1)=O+g*vb):=fun g e=>by rw [HS.out,e]
     obtain ⟨g,hg⟩:∃ g,(2:Nat) ^ k=g:=⟨_,rfl⟩
     have HE:Hid ((2:Nat) ^ k=g):=hg
     rw [hg] at hp hm hp0 q1 q2 q3 q4 cp
     clear hg HS
     have z1:¬ (g:Int)=0:=by omega
     have z2:¬ g=0:=by omega
     have w1:wrap64 (x:Int)=(x:Int):=by unfold wrap64;omega
     have w2:wrap64 (y:Int)=(y:Int):=by unfold wrap64;omega
     have w3:wrap64 ((O:Int)+(g:Int))=(O:Int)+(g:Int):=by unfold wrap64;omega
     have w4:IntKind.u32.wrap ((k:Int)+1)=(k:Int)+1:=by simp [IntKind.wrap,IntKind.signed,IntKind.bits];omega
     have HX:Hid (vb=xb &&& yb):=HW
     clear HW hp hm hp0 la lb
     rcases ca with rfl|rfl <;> rcases cb with rfl|rfl
     all_goals (go_wp2_with (go_at_call 96;with_reducible refine (cp _).mono ?_;rintro e wq ⟨rfl,hq⟩;subst wq))
     all_goals (go_roundw
                case rel=>exact ⟨k+1,by omega,by go_num,by first|(rw [HG.out g HE.out,HX.out];simp;done)|(rw [w3,HG.out g HE.out,HX.out];simp;done),hb0⟩
                case measure=>simp [intOf];omega)
   · obtain rfl:k=32:=by omega
     rw [Nat.mod_eq_of_lt hV]
     have hv:(V:Int) % 4294967296=(V:Int):=by omega
     go_wp2
     go_ret
     exact ⟨rfl,hb0⟩
theorem rbits_or (a b:Nat) (w:World) (ha:a<4294967296) (hb:b<4294967296) :
   Calls Tryz.prog 95 #[.int .u8 47,.int .u32 a,.int .u32 b] w fun e w'=>e=.returned (.int .u32 ((a ||| b:Nat):Int))∧Below w.heap.size w w':=by
 have hV:a ||| b<2 ^ 32:=Nat.or_lt_two_pow (n:=32) ha hb
 have HV:Hid (∀ k,(a ||| b) / 2 ^ k % 2=(a / 2 ^ k % 2) ||| (b / 2 ^ k % 2)):=fun k=>(bit_at a b k).2.1
 obtain ⟨V,hVe⟩:∃ V,a ||| b=V:=⟨_,rfl⟩
 rw [hVe] at hV HV ⊢
 clear hVe
 go_enter Tryz.func95,Tryz.ntmps95
 go_wp2
 go_loopw [7,8,9,10,11] (fun out i _ _ _ wr=>∃ k:Nat,k≤32∧i=.int .u32 k∧out=.int .i64 ((V % 2 ^ k:Nat):Int)∧Below w.heap.size w wr) (fun _ i _ _ _ _=>32-(intOf i).toNat)
 case atStart=>exact ⟨0,by omega,rfl,by simp [Nat.mod_one],Below.refl _ _⟩
 case round=>
   obtain ⟨k,hk,rfl,rfl,hb0⟩:=hrel
   rename World=>wr
   by_cases hlt:k<32
   · have hI : (k:Int)<32:=by omega
     have cp:=fun w=>rpow_any k w (by omega)
     have HS:Hid (V % 2 ^ (k+1)=V % 2 ^ k+2 ^ k*(V / 2 ^ k % 2)):=mod_bit V k
     have HW:=HV.out k
     have ca:=bit_cases a k
     have cb:=bit_cases b k
     have hp:(2:Nat) ^ k≤2147483648:=Nat.pow_le_pow_right (by decide) (show k≤31 by omega)
     have hm:V % 2 ^ k<2 ^ k:=Nat.mod_lt _ (Nat.two_pow_pos k)
     have hp0:=Nat.two_pow_pos k
     have la:=Nat.div_le_self a (2 ^ k)
     have lb:=Nat.div_le_self b (2 ^ k)
     have q1:(a:Int) / ((2 ^ k:Nat):Int)=((a / 2 ^ k:Nat):Int):=rfl
     have q2:(b:Int) / ((2 ^ k:Nat):Int)=((b / 2 ^ k:Nat):Int):=rfl
     have q3:(a:Int).tdiv ((2 ^ k:Nat):Int)=((a / 2 ^ k:Nat):Int):=rfl
     have q4:(b:Int).tdiv ((2 ^ k:Nat):Int)=((b / 2 ^ k:Nat):Int):=rfl
     generalize V / 2 ^ k % 2=vb at *
     generalize V % 2 ^ k=O at *
     generalize a / 2 ^ k=x at *
     generalize b / 2 ^ k=y at *
     have g1:((x:Int) % 2)=((x % 2:Nat):Int):=rfl
     have g2:((y:Int) % 2)=((y % 2:Nat):Int):=rfl
     have g3:((x:Int).tmod 2)=((x % 2:Nat):Int):=rfl
     have g4:((y:Int).tmod 2)=((y % 2:Nat):Int):=rfl
     generalize x % 2=xb at *
     generalize y % 2=yb at *
     have HG:Hid (∀ g,(2:Nat) ^ k=g→V % 2 ^ (k+1)=O+g*vb):=fun g e=>by rw [HS.out,e]
     obtain ⟨g,hg⟩:∃ g,(2:Nat) ^ k=g:=⟨_,rfl⟩
     have HE:Hid ((2:Nat) ^ k=g):=hg
     rw [hg] at hp hm hp0 q1 q2 q3 q4 cp
     clear hg HS
     have z1:¬ (g:Int)=0:=by omega
     have z2:¬ g=0:=by omega
     have w1:wrap64 (x:Int)=(x:Int):=by unfold wrap64;omega
     have w2:wrap64 (y:Int)=(y:Int):=by unfold wrap64;omega
     have w3:wrap64 ((O:Int)+(g:Int))=(O:Int)+(g:Int):=by unfold wrap64;omega
     have w4:IntKind.u32.wrap ((k:Int)+1)=(k:Int)+1:=by simp [IntKind.wrap,IntKind.signed,IntKind.bits];omega
     have HX:Hid (vb=xb ||| yb):=HW
     clear HW hp hm hp0 la lb
     rcases ca with rfl|rfl <;> rcases cb with rfl|rfl
     all_goals (go_wp2_with (go_at_call 96;with_reducible refine (cp _).mono ?_;rintro e wq ⟨rfl,hq⟩;subst wq))
     all_goals (go_roundw
                case rel=>exact ⟨k+1,by omega,by go_num,by first|(rw [HG.out g HE.out,HX.out];simp;done)|(rw [w3,HG.out g HE.out,HX.out];simp;done),hb0⟩
                case measure=>simp [intOf];omega)
   · obtain rfl:k=32:=by omega
     rw [Nat.mod_eq_of_lt hV]
     have hv:(V:Int) % 4294967296=(V:Int):=by omega
     go_wp2
     go_ret
     exact ⟨rfl,hb0⟩
theorem rbits_xor (a b:Nat) (w:World) (ha:a<4294967296) (hb:b<4294967296) :
   Calls Tryz.prog 95 #[.int .u8 48,.int .u32 a,.int .u32 b] w fun e w'=>e=.returned (.int .u32 ((a ^^^ b:Nat):Int))∧Below w.heap.size w w':=by
 have hV:a ^^^ b<2 ^ 32:=Nat.xor_lt_two_pow (n:=32) ha hb
 have HV:Hid (∀ k,(a ^^^ b) / 2 ^ k % 2=(a / 2 ^ k % 2) ^^^ (b / 2 ^ k % 2)):=fun k=>(bit_at a b k).2.2
 obtain ⟨V,hVe⟩:∃ V,a ^^^ b=V:=⟨_,rfl⟩
 rw [hVe] at hV HV ⊢
 clear hVe
 go_enter Tryz.func95,Tryz.ntmps95
 go_wp2
 go_loopw [7,8,9,10,11] (fun out i _ _ _ wr=>∃ k:Nat,k≤32∧i=.int .u32 k∧out=.int .i64 ((V % 2 ^ k:Nat):Int)∧Below w.heap.size w wr) (fun _ i _ _ _ _=>32-(intOf i).toNat)
 case atStart=>exact ⟨0,by omega,rfl,by simp [Nat.mod_one],Below.refl _ _⟩
 case round=>
   obtain ⟨k,hk,rfl,rfl,hb0⟩:=hrel
   rename World=>wr
   by_cases hlt:k<32
   · have hI : (k:Int)<32:=by omega
     have cp:=fun w=>rpow_any k w (by omega)
     have HS:Hid (V % 2 ^ (k+1)=V % 2 ^ k+2 ^ k*(V / 2 ^ k % 2)):=mod_bit V k
     have HW:=HV.out k
     have ca:=bit_cases a k
     have cb:=bit_cases b k
     have hp:(2:Nat) ^ k≤2147483648:=Nat.pow_le_pow_right (by decide) (show k≤31 by omega)
     have hm:V % 2 ^ k<2 ^ k:=Nat.mod_lt _ (Nat.two_pow_pos k)
     have hp0:=Nat.two_pow_pos k
     have la:=Nat.div_le_self a (2 ^ k)
     have lb:=Nat.div_le_self b (2 ^ k)
     have q1:(a:Int) / ((2 ^ k:Nat):Int)=((a / 2 ^ k:Nat):Int):=rfl
     have q2:(b:Int) / ((2 ^ k:Nat):Int)=((b / 2 ^ k:Nat):Int):=rfl
     have q3:(a:Int).tdiv ((2 ^ k:Nat):Int)=((a / 2 ^ k:Nat):Int):=rfl
     have q4:(b:Int).tdiv ((2 ^ k:Nat):Int)=((b / 2 ^ k:Nat):Int):=rfl
     generalize V / 2 ^ k % 2=vb at *
     generalize V % 2 ^ k=O at *
     generalize a / 2 ^ k=x at *
     generalize b / 2 ^ k=y at *
     have g1:((x:Int) % 2)=((x % 2:Nat):Int):=rfl
     have g2:((y:Int) % 2)=((y % 2:Nat):Int):=rfl
     have g3:((x:Int).tmod 2)=((x % 2:Nat):Int):=rfl
     have g4:((y:Int).tmod 2)=((y % 2:Nat):Int):=rfl
     generalize x % 2=xb at *
     generalize y % 2=yb at *
     have HG:Hid (∀ g,(2:Nat) ^ k=g→V % 2 ^ (k+1)=O+g*vb):=fun g e=>by rw [HS.out,e]
     obtain ⟨g,hg⟩:∃ g,(2:Nat) ^ k=g:=⟨_,rfl⟩
     have HE:Hid ((2:Nat) ^ k=g):=hg
     rw [hg] at hp hm hp0 q1 q2 q3 q4 cp
     clear hg HS
     have z1:¬ (g:Int)=0:=by omega
     have z2:¬ g=0:=by omega
     have w1:wrap64 (x:Int)=(x:Int):=by unfold wrap64;omega
     have w2:wrap64 (y:Int)=(y:Int):=by unfold wrap64;omega
     have w3:wrap64 ((O:Int)+(g:Int))=(O:Int)+(g:Int):=by unfold wrap64;omega
     have w4:IntKind.u32.wrap ((k:Int)+1)=(k:Int)+1:=by simp [IntKind.wrap,IntKind.signed,IntKind.bits];omega
     have HX:Hid (vb=xb ^^^ yb):=HW
     clear HW hp hm hp0 la lb
     rcases ca with rfl|rfl <;> rcases cb with rfl|rfl
     all_goals (go_wp2_with (go_at_call 96;with_reducible refine (cp _).mono ?_;rintro e wq ⟨rfl,hq⟩;subst wq))
     all_goals (go_roundw
                case rel=>exact ⟨k+1,by omega,by go_num,by first|(rw [HG.out g HE.out,HX.out];simp;done)|(rw [w3,HG.out g HE.out,HX.out];simp;done),hb0⟩
                case measure=>simp [intOf];omega)
   · obtain rfl:k=32:=by omega
     rw [Nat.mod_eq_of_lt hV]
     have hv:(V:Int) % 4294967296=(V:Int):=by omega
     go_wp2
     go_ret
     exact ⟨rfl,hb0⟩
theorem mul_parts (a b:Nat):(a*(b % 65536) % 4294967296+a*(b / 65536) % 4294967296*65536) % 4294967296=a*b % 4294967296:=by
 have e:a*b=a*(b % 65536)+a*(b / 65536)*65536:=by
   rw [Nat.mul_assoc,←Nat.mul_add,Nat.mul_comm (b / 65536) 65536,Nat.mod_add_div]
 rw [e]
 generalize a*(b % 65536)=X
 generalize a*(b / 65536)=Y
 omega
theorem w64 {z:Int} (h1 : -9223372036854775808≤z) (h2:z≤9223372036854775807):wrap64 z=z:=by unfold wrap64;omega
theorem w64n {n:Nat} (h:n≤9223372036854775807):wrap64 (n:Int)=(n:Int):=w64 (by omega) (by omega)
theorem mul_fits (L l h:Nat) (hl:L % 4294967296=l) (hh:h<4294967296):wrap64 ((h:Int)*65536)=(h:Int)*65536∧wrap64 ((l:Int)+(h:Int)*65536)=(l:Int)+(h:Int)*65536∧(L:Int) % 4294967296=(l:Int)∧(L:Int).tmod 4294967296=(l:Int)∧l<4294967296:=by
 have:l<4294967296:=by omega
 refine ⟨w64 (by omega) (by omega),w64 (by omega) (by omega),by omega,?_,this⟩
 rw [Int.tmod_eq_emod_of_nonneg (by omega)];omega
theorem wrap_sum (l h x:Nat) (E:(l+h*65536) % 4294967296=x):((l:Int)+(h:Int)*65536) % 4294967296=(x:Int):=by omega
theorem rb_mul (a b:Nat) (w:World) (ha:a<4294967296) (hb:b<4294967296) :
   Calls Tryz.prog 79 #[.int .u8 41,.int .u32 a,.int .u32 b] w fun e w'=>e=.returned (.tuple #[.int .u32 ((a*b % 4294967296:Nat):Int),.int .i64 0])∧Below w.heap.size w w':=by
 obtain ⟨bl,hbl⟩:∃ x,b % 65536=x:=⟨_,rfl⟩
 obtain ⟨bh,hbh⟩:∃ x,b / 65536=x:=⟨_,rfl⟩
 have b1:bl≤65535:=by omega
 have b2:bh≤65535:=by omega
 have a1:a≤4294967295:=Nat.le_of_lt_succ ha
 have f1:(b:Int) % 65536=(bl:Int):=by rw [←hbl];rfl
 have f2:(b:Int) / 65536=(bh:Int):=by rw [←hbh];rfl
 obtain ⟨L,hL⟩:∃ x,a*bl=x:=⟨_,rfl⟩
 obtain ⟨P,hP⟩:∃ x,a*bh=x:=⟨_,rfl⟩
 obtain ⟨l,hl⟩:∃ x,L % 4294967296=x:=⟨_,rfl⟩
 obtain ⟨h,hh⟩:∃ x,P % 4294967296=x:=⟨_,rfl⟩
 have LB:L≤4294967295*65535:=by rw [←hL];exact Nat.mul_le_mul a1 b1
 have PB:P≤4294967295*65535:=by rw [←hP];exact Nat.mul_le_mul a1 b2
 have E:(l+h*65536) % 4294967296=a*b % 4294967296:=by
   have:=mul_parts a b
   rw [hbl,hbh,hL,hP,hl,hh] at this
   exact this
 generalize a*b % 4294967296=V at *
 have f3:(a:Int)*(bl:Int)=(L:Int):=by rw [←hL];simp
 have f4:(a:Int)*(bh:Int)=(P:Int):=by rw [←hP];simp
 have wa:wrap64 (a:Int)=(a:Int):=w64n (Nat.le_trans a1 (by decide))
 have wl:wrap64 (bl:Int)=(bl:Int):=w64n (Nat.le_trans b1 (by decide))
 have wh:wrap64 (bh:Int)=(bh:Int):=w64n (Nat.le_trans b2 (by decide))
 have f5:wrap64 (L:Int)=(L:Int):=w64n (Nat.le_trans LB (by decide))
 have f6:wrap64 (P:Int)=(P:Int):=w64n (Nat.le_trans PB (by decide))
 have lh:h<4294967296:=by rw [←hh];exact Nat.mod_lt _ (by decide)
 obtain ⟨f9,g9,f7,f7',ll⟩:=mul_fits L l h hl lh
 obtain ⟨_,_,f8,f8',_⟩:=mul_fits P h l hh ll
 have g1:wrap64 (l:Int)=(l:Int):=w64n (Nat.le_trans (Nat.le_of_lt ll) (by decide))
 have g2:wrap64 (h:Int)=(h:Int):=w64n (Nat.le_trans (Nat.le_of_lt lh) (by decide))
 have bm:(bh:Int) % 4294967296=(bh:Int):=by
   show ((bh % 4294967296:Nat):Int)=(bh:Int)
   rw [Nat.mod_eq_of_lt (Nat.lt_of_le_of_lt b2 (by decide))]
 have EX:wrap64 ((wrap64 (wrap64 (a:Int)*(bl:Int))).tmod 4294967296+wrap64 ((wrap64 (wrap64 (a:Int)*((bh:Int) % 4294967296))).tmod 4294967296*65536))=(l:Int)+(h:Int)*65536:=by
   rw [wa,f3,f5,f7',bm,f4,f6,f8',f9,g9]
 have cw:∀ w,Calls Tryz.prog 89 #[.int .i64 (wrap64 ((wrap64 (wrap64 (a:Int)*(bl:Int))).tmod 4294967296+wrap64 ((wrap64 (wrap64 (a:Int)*((bh:Int) % 4294967296))).tmod 4294967296*65536)))] w fun e w'=>e=.returned (.int .u32 (V:Int))∧w'=w:=fun w=>by
   rw [EX]
   have:=rwrap_any ((l:Int)+(h:Int)*65536) w
   rw [wrap_sum l h V E] at this
   exact this
 clear EX bm f3 f4 wa wl wh f5 f6 f9 g9 f7 f7' f8 f8' g1 g2 E hbl hbh hL hP hl hh LB PB b1 b2 a1 ll lh ha hb
 have HB:Below w.heap.size w w:=Below.refl _ _
 go_enter Tryz.func79,Tryz.ntmps79
 go_wp2_with (first
   |(go_at_call 89;with_reducible refine (cw _).mono ?_;rintro e wq ⟨rfl,hq⟩;subst wq))
 all_goals simp [bodyPost,results,Tryz.results79]
 all_goals (repeat (first|exact HB|with_reducible refine Below.drew ?_))
theorem plus_nv (v u:Value) (x y k:Nat) (w:World) (h:NatV w v x) (h':NatV w u y) (hx:x<2 ^ (32*k)) (hy:y<2 ^ (32*k)) (hk:k≤1000) :
   Calls Tryz.prog 129 #[v,u] w fun e w'=>(∃ v',e=.returned v'∧NatV w' v' (x+y))∧Below w.heap.size w w':=by
 obtain ⟨ao,cap,zs,rfl,hc,hn',hval,hN,hW,hr⟩:=h
 obtain ⟨ao2,cap2,zs2,rfl,hc2,hn2,hval2,hN2,hW2,hr2⟩:=h'
 have:=plus_any ao ao2 cap cap2 zs zs2 w (by have:=len_pow hN hval k hx;omega) (by have:=len_pow hN2 hval2 k hy;omega) hr hr2 hW hW2
 rw [hval,hval2] at this
 exact this
theorem cut_nv (v:Value) (x k:Nat) (w:World) (h:NatV w v x) (hx:x<2 ^ (32*k)) (hk:k≤1000) :
   Calls Tryz.prog 136 #[v] w fun e w'=>(∃ v',e=.returned v'∧NatV w' v' x)∧Below w.heap.size w w':=by
 obtain ⟨ao,cap,zs,rfl,hc,hn',hval,hN,hW,hr⟩:=h
 refine (cut_any ao cap zs w hc (by have:=len_pow hN hval k hx;omega) hr hn').mono ?_
 rintro e wq ⟨⟨nn,hnn,rfl,ht,hN'⟩,rfl⟩
 have hl3:(zs.take nn).length=nn:=by simp;omega
 exact ⟨⟨_,rfl,ao,cap,zs.take nn,by rw [hl3],by rw [hl3];omega,hn',by rw [ht];exact hval,hN',words_take hW nn,hr.take nn hnn⟩,Below.refl _ _⟩
theorem take_split (ys:List Nat) (i:Nat) (h:i<ys.length):nv (ys.take (i+1))=nv (ys.take i)+4294967296 ^ i*ys.getD i 0:=by
 have e1:ys.take (i+1)=ys.take i ++ [ys.getD i 0]:=by
   rw [List.take_succ_eq_append_getElem h]
   simp [List.getD,List.getElem?_eq_getElem h]
 rw [e1,nv_append,show (ys.take i).length=i by simp;omega]
 simp [nv]
theorem prod_lt {x y:Nat} (hx:x<4294967296) (hy:y<4294967296) {c:Nat} (hc:c<4294967296):x*y+c<18446744073709551616∧(x*y+c) / 4294967296<4294967296:=by
 have h:=Nat.mul_le_mul (show x≤4294967295 by omega) (show y≤4294967295 by omega)
 omega
theorem nv_take_le (zs:List Nat) (hW:Words zs) (k i:Nat) (h:zs.length≤k):nv (zs.take i)<2 ^ (32*k):=by
 have h1:=nv_lt (words_take hW i)
 refine Nat.lt_of_lt_of_le h1 ?_
 rw [show (4294967296:Nat)=2 ^ 32 from rfl,←Nat.pow_mul]
 exact Nat.pow_le_pow_right (by decide) (by simp;omega)
theorem mul_pow_lt {x y k j:Nat} (hx:x<2 ^ (32*k)) (hy:y<2 ^ (32*j)):x*y<2 ^ (32*(k+j)):=by
 have h3:=Nat.mul_lt_mul'' hx hy
 rw [←Nat.pow_add,←Nat.mul_add] at h3
 exact h3
theorem own_dr {W:World} {B e:Nat} {v:Value} {n:Nat} {xs:List Value} {o:Obj} (q:Nat) (h:W.ownsRow B e 1 v n xs):((W.drewN q).alloc o).ownsRow B e 1 v n xs:=World.ownsRow.alloc (show (W.drewN q).ownsRow B e 1 v n xs from h) o
theorem times_any (ao bo:Option Addr) (ca cb:Nat) (zs ys:List Nat) (w:World) (hl:zs.length≤10) (hl2:ys.length≤10) (hr:ReadsU w ao zs w.heap.size) (hr2:ReadsU w bo ys w.heap.size) (hW:Words zs) (hW2:Words ys) :
   Calls Tryz.prog 148 #[.slice ao zs.length ca,.slice bo ys.length cb] w fun e w'=>(∃ v,e=.returned v∧NatV w' v (nv zs*nv ys))∧Below w.heap.size w w':=by
 obtain ⟨i0,hi,hz0,hz1,hz2⟩:=info_parts Tryz.infoU
 have HBND:Hid (∀ i,nv zs*nv (ys.take i)<2 ^ (32*(10+10))):=by
   intro i
   have h1:=nv_take_le zs hW 10 zs.length hl
   rw [List.take_length] at h1
   exact mul_pow_lt (k:=10) (j:=10) h1 (nv_take_le ys hW2 10 i hl2)
 have hemp:NatV (w.alloc (.cells #[] 23)) (.slice (some ⟨w.heap.size,0,none⟩) 0 0) 0:=⟨_,0,[],rfl,Nat.le_refl _,(fun h=>by cases h),rfl,Or.inl rfl,(fun z hz=>by simp at hz),(fun h=>by simp at h)⟩
 go_enter Tryz.func148,Tryz.ntmps148
 go_wp2
 go_loopw [5,6,7,8,9,10] (fun v i _ _ _ _ wr=>∃ k:Nat,k≤ys.length∧i=.int .i64 k∧NatV wr v (nv zs*nv (ys.take k))∧Below w.heap.size w wr)
   (fun _ i _ _ _ _ _=>ys.length-(intOf i).toNat)
 case atStart=>exact ⟨0,Nat.zero_le _,rfl,by simpa [nv] using hemp,bel (Below.refl _ _)⟩
 case round=>
   obtain ⟨k,hk,rfl,hv,hb⟩:=hrel
   rename World=>wr
   by_cases hlt:k<ys.length
   · have hltI:(k:Int)<(ys.length:Int):=by omega
     obtain ⟨yb,yoff,rfl,hybl,hyc⟩:=(hr2.below hb) (by omega)
     have hyk:=hyc k hlt
     have hyw:=words_get hW2 k
     have HSP:Hid (nv (ys.take (k+1))=nv (ys.take k)+4294967296 ^ k*ys.getD k 0):=take_split ys k hlt
     generalize ys.getD k 0=y at *
     clear hyc
     have hB:=hb.size
     have hown0:(wr.alloc (.cells #[] 23)).ownsRow wr.heap.size 23 1 (.slice (some ⟨wr.heap.size,0,none⟩) 0 0) 0 (uk []):=World.ownsRow_made wr #[] 0 (Nat.le_refl _) (by decide) rfl
     have HV:Hid (NatV wr _ (nv zs*nv (ys.take k))):=hv
     clear hv
     go_wp2
     go_loopw [7,8,9,10] (fun rv c j _ W=>∃ m cr:Nat,∃ L:List Nat,m≤zs.length∧j=.int .i64 m∧c=.int .u64 (cr:Int)∧cr<4294967296∧L.length=m∧Words L∧Hid (nv L+4294967296 ^ m*cr=nv (zs.take m)*y)∧W.ownsRow wr.heap.size 23 1 rv m (uk L)∧Below wr.heap.size wr W)
       (fun _ _ j _ _=>zs.length-(intOf j).toNat)
     case atStart=>exact ⟨0,0,[],Nat.zero_le _,rfl,rfl,by decide,rfl,(fun z hz=>by simp at hz),by rw [Hid];simp [nv],hown0,bel (Below.refl _ _)⟩
     case round=>
       obtain ⟨m,cr,L,hm,rfl,rfl,hcr,hLl,hLW,HVL,hown,hbW⟩:=hrel
       rename World=>W
       have hBW:=hbW.size
       by_cases hmlt:m<zs.length
       · have hmI:(m:Int)<(zs.length:Int):=by omega
         obtain ⟨zb,zoff,rfl,hzbl,hzc⟩:=(hr.below (hb.trans (hbW.mono hB))) (by omega)
         have hzm:=hzc m hmlt
         have hzw:=words_get hW m
         have HSZ:Hid (nv (zs.take (m+1))=nv (zs.take m)+4294967296 ^ m*zs.getD m 0):=take_split zs m hmlt
         generalize zs.getD m 0=z at *
         clear hzc
         have hykW:W.cell? ⟨yb,yoff+k,none⟩=some (.int .u32 (y:Nat)):=(hbW.cell (p:=⟨yb,yoff+k,none⟩) (show yb<wr.heap.size by omega)).trans hyk
         obtain ⟨hX1,hX2⟩:=prod_lt hzw hyw hcr
         obtain ⟨p,hp⟩:∃ p,z*y=p:=⟨_,rfl⟩
         have hpI:(z:Int)*(y:Int)=(p:Int):=by rw [←hp];exact (Int.natCast_mul z y).symm
         rw [hp] at hX1 hX2
         obtain ⟨X,hX⟩:∃ X,p+cr=X:=⟨_,rfl⟩
         have hXI:(p:Int)+(cr:Int)=(X:Int):=by omega
         rw [hX] at hX1 hX2
         obtain ⟨lo,hlo⟩:∃ lo,X % 4294967296=lo:=⟨_,rfl⟩
         obtain ⟨hh,hhi⟩:∃ hh,X / 4294967296=hh:=⟨_,rfl⟩
         have e2:(X:Int) % 4294967296=(lo:Int):=by omega
         have e2':IntKind.u32.wrap (X:Int)=(lo:Int):=by rw [IntKind.wrap_u32'];omega
         have e3:(X:Int) / 4294967296=(hh:Int):=by omega
         have hlol:lo<4294967296:=by omega
         have hpl:p<18446744073709551616:=by omega
         rw [hhi] at hX2
         have HV2:Hid (nv (L ++ [lo])+4294967296 ^ (m+1)*hh=nv (zs.take (m+1))*y):=by
           have h5:=HVL.out
           rw [Hid,nv_append,hLl,HSZ.out,Nat.add_mul,←h5,Nat.mul_assoc,hp,Nat.pow_succ,Nat.mul_assoc]
           have h6:X=lo+4294967296*hh:=by omega
           have h7:4294967296 ^ m*p+4294967296 ^ m*cr=4294967296 ^ m*lo+4294967296 ^ m*(4294967296*hh):=by rw [←Nat.mul_add,hX,h6,Nat.mul_add]
           rw [show nv [lo]=lo by simp [nv]]
           omega
         have HLW:Hid (Words (L ++ [lo])):=by
           intro q hq
           rcases List.mem_append.1 hq with h|h
           · exact hLW q h
           · simp at h;omega
         have HLL:Hid ((L ++ [lo]).length=m+1):=by rw [Hid];simp [hLl]
         clear hLW hLl hlo hhi hX hp HVL hyk
         go_wp2
         go_quiet (fail)
         go_wp2_with (at_builtin;refine wpList_append_own _ rfl _ _ 96 rfl wr.heap.size 23 i0 (.int .u32 0) 1 4 Tryz.underlying96 hi hz0 hz1 hz2 rfl (by decide) _ _ _ rfl (own_dr _ hown) ⟨_,0,none⟩ 1 1 [.int .u32 (lo:Int)] rfl rfl ?c1 ?c2 ?c3 ?c4 ?c5 ?_)
         case c1=>
           intro j u hj
           match j,hj with
           |0,hj=>simp at hj;subst hj;simp only [Addr.add];exact World.cell?_alloc_new (W.drewN nq) _ _ _
         case c2=>intro u hu;simp at hu;subst hu;rfl
         case c3=>unfold maxLen;omega
         case c4=>omega
         case c5=>simp;omega
         intro v' w1 hown' hgrow _
         have R1:w1.ownsRow wr.heap.size 23 1 v' (m+1) (uk (L ++ [lo])):=own_snocU hown'
         have hbD:Below wr.heap.size wr (W.drewN nq):=bt3 hbW
         have R2:=grown_belowU hbD hbD.size (show (W.drewN nq).ownsRow wr.heap.size 23 1 _ m (uk L) from hown) hgrow
         clear hown' hgrow hown
         go_wp2
         go_roundw
         case rel=>exact ⟨m+1,hh,L ++ [lo],by omega,by go_num,rfl,hX2,HLL.out,HLW.out,HV2,R1,R2⟩
         case measure=>simp [intOf];omega
       · obtain rfl:m=zs.length:=by omega
         have HV3:Hid (nv (L ++ [cr])=nv zs*y):=by
           have h5:=HVL.out
           rw [List.take_length] at h5
           rw [Hid,nv_append,hLl,show nv [cr]=cr by simp [nv]]
           exact h5
         have HLW:Hid (Words (L ++ [cr])):=by
           intro q hq
           rcases List.mem_append.1 hq with h|h
           · exact hLW q h
           · simp at h;omega
         have HLL:Hid ((L ++ [cr]).length=zs.length+1):=by rw [Hid];simp [hLl]
         have hwc:IntKind.u32.wrap (cr:Int)=(cr:Int):=by rw [IntKind.wrap_u32'];omega
         have hwc2:(cr:Int) % 4294967296=(cr:Int):=by omega
         obtain ⟨q,hq⟩:∃ q,32*k=q:=⟨_,rfl⟩
         have hqI:32*(k:Int)=(q:Int):=by omega
         have HQ:Hid (32*k=q):=hq
         have hq10:q≤320:=by omega
         clear hLW hLl HVL hyk hq
         go_wp2_with (first
           |(at_builtin;refine wpList_append_own _ rfl _ _ 96 rfl wr.heap.size 23 i0 (.int .u32 0) 1 4 Tryz.underlying96 hi hz0 hz1 hz2 rfl (by decide) _ _ _ rfl (hown.alloc _) ⟨_,0,none⟩ 1 1 [.int .u32 (cr:Int)] rfl rfl ?d1 ?d2 ?d3 ?d4 ?d5 ?_))
         case d1=>
           intro j u hj
           match j,hj with
           |0,hj=>simp at hj;subst hj;simp [Addr.add]
         case d2=>intro u hu;simp at hu;subst hu;rfl
         case d3=>unfold maxLen;omega
         case d4=>omega
         case d5=>simp;omega
         intro v' w1 hown' hgrow _
         have R1:w1.ownsRow wr.heap.size 23 1 v' (zs.length+1) (uk (L ++ [cr])):=own_snocU hown'
         have R2:Below wr.heap.size wr w1:=grown_belowU hbW hBW hown hgrow
         clear hown' hgrow hown
         rw [←HLL.out] at R1
         obtain ⟨ao',cap',rfl,hrd⟩:=own_readsU R1
         have HVO:=HV.out.on R2
         have uu:=up_any ao' cap' (L ++ [cr]) q w1 (by rw [HLL.out];omega) (by omega) hrd HLW.out
         rw [HV3.out] at uu
         have HBW:Below w.heap.size w w1:=hb.trans (R2.mono hB)
         have HPY:Hid (nv zs*y*2 ^ q<2 ^ (32*(10+10))):=by
           have h1:=HBND.out (k+1)
           rw [HSP.out,Nat.mul_add] at h1
           rw [Hid,←HQ.out,Nat.pow_mul,show (2:Nat) ^ 32=4294967296 from rfl,Nat.mul_assoc,Nat.mul_comm y]
           exact Nat.lt_of_le_of_lt (Nat.le_add_left _ _) h1
         have HRES:Hid (nv zs*nv (ys.take k)+nv zs*y*2 ^ q=nv zs*nv (ys.take (k+1))):=by
           rw [Hid,HSP.out,Nat.mul_add,←HQ.out,Nat.pow_mul,show (2:Nat) ^ 32=4294967296 from rfl,Nat.mul_assoc,Nat.mul_comm y]
         generalize (L ++ [cr]).length=len at *
         clear R1 hrd
         go_wp2_with (first
           |(go_at_call 130;with_reducible refine uu.mono ?_;rintro e w2 ⟨⟨v2,rfl,hv2⟩,hb2⟩)
           |(go_at_call 129;with_reducible refine (plus_nv _ _ _ _ (10+10) _ (HVO.on hb2) hv2 (HBND.out k) HPY.out (by omega)).mono ?_;rintro e w3 ⟨⟨v3,rfl,hv3⟩,hb3⟩;rw [HRES.out] at hv3))
         go_roundw
         case rel=>exact ⟨k+1,by omega,by go_num,hv3,bt2 hb3 (bt2 hb2 HBW)⟩
         case measure=>simp [intOf];omega
   · obtain rfl:k=ys.length:=by omega
     rw [List.take_length] at hv
     have HBN2:=HBND.out ys.length
     rw [List.take_length] at HBN2
     have cc:=cut_nv _ _ (10+10) _ hv HBN2 (by omega)
     clear hv HBN2
     go_wp2_with (go_at_call 136;with_reducible refine cc.mono ?_;rintro e w2 ⟨⟨v2,rfl,hv2⟩,hb2⟩)
     go_ret
     exact ⟨⟨_,rfl,hv2⟩,bt2 hb2 hb⟩
theorem times_nv (v u:Value) (x y:Nat) (w:World) (h:NatV w v x) (h':NatV w u y) (hx:x<18446744073709551616) (hy:y<18446744073709551616) :
   Calls Tryz.prog 148 #[v,u] w fun e w'=>(∃ v',e=.returned v'∧NatV w' v' (x*y))∧Below w.heap.size w w':=by
 obtain ⟨ao,cap,zs,rfl,hc,hn',hval,hN,hW,hr⟩:=h
 obtain ⟨ao2,cap2,zs2,rfl,hc2,hn2,hval2,hN2,hW2,hr2⟩:=h'
 have:=times_any ao ao2 cap cap2 zs zs2 w (by have:=small_len hN hval hx;omega) (by have:=small_len hN2 hval2 hy;omega) hr hr2 hW hW2
 rw [hval,hval2] at this
 exact this
theorem rnd_nv (m:Bool) (v:Value) (x k:Nat) (P:Int) (w:World) (h:NatV w v x) (hx:x<2 ^ (32*k)) (hk:k≤100) (hP : -5000≤P) (hP2:P≤5000) :
   Calls Tryz.prog 105 #[.agg #[.int .i64 24,.int .i64 (-149),.int .i64 104],.bool m,v,.int .i64 P,.bool false] w fun e w'=>(∃ n p,e=.returned (hdV m n p)∧Fits n p (rg Ieee.single x P))∧Below w.heap.size w w':=by
 obtain ⟨ao,cap,zs,rfl,hc,hn',hval,hN,hW,hr⟩:=h
 have:=rnd_any m ao cap zs P w (by have:=len_pow hN hval k hx;omega) hr hW hN hP hP2
 rw [hval] at this
 exact this
theorem vnone_b (w:World):Calls Tryz.prog 144 #[] w fun e w'=>e=.returned vN∧Below w.heap.size w w':=(vnone_any w).mono fun e w' ⟨he,h⟩=>⟨he,by rw [h];exact bel (Below.refl _ _)⟩
theorem vendless_b (m:Bool) (w:World):Calls Tryz.prog 145 #[.bool m] w fun e w'=>e=.returned (vE m)∧Below w.heap.size w w':=(vendless_any m w).mono fun e w' ⟨he,h⟩=>⟨he,by rw [h];exact bel (Below.refl _ _)⟩
theorem pr_n1 (sb:Int) (mb:Bool) (nb pb:Int) (w:World) :
   Calls Tryz.prog 140 #[.agg #[.int .i64 24,.int .i64 (-149),.int .i64 104],.agg #[.int .u8 1,.bool false,.int .u64 0,.int .i64 0],.agg #[.int .u8 sb,.bool mb,.int .u64 nb,.int .i64 pb]] w fun e w'=>e=.returned (vN)∧Below w.heap.size w w':=by
 have HB:Below ((((w.alloc ob).alloc (oV 1 false 0 0)).alloc (oV sb mb nb pb)).alloc oz).heap.size ((((w.alloc ob).alloc (oV 1 false 0 0)).alloc (oV sb mb nb pb)).alloc oz) ((((w.alloc ob).alloc (oV 1 false 0 0)).alloc (oV sb mb nb pb)).alloc oz):=Below.refl _ _
 go_enter Tryz.func140,Tryz.ntmps140
 go_wp2_with (first
   |(go_at_call 144;with_reducible refine (vnone_b _).mono ?_;rintro e w1 ⟨rfl,hb1⟩;replace HB:=bt2 hb1 (show Below ((((w.alloc ob).alloc (oV 1 false 0 0)).alloc (oV sb mb nb pb)).alloc oz).heap.size ((((w.alloc ob).alloc (oV 1 false 0 0)).alloc (oV sb mb nb pb)).alloc oz) _ from by (repeat (first|exact HB|exact Below.refl _ _|with_reducible first|refine bel ?_|refine Below.drew ?_|refine bt3 ?_)));obtain ⟨x0,x1,x2,x3,x4,x5,x6,x7,x8,x9,x10⟩:=jF HB;obtain ⟨r0,r1,r2,r3,q0,q1,q2,q3⟩:=jA HB))
 refine bodyPost_ret (v:=vN) (by simp [results,Tryz.f140,go_sem,r0,r1,r2,r3]) rfl ?_
 exact ⟨rfl,jB HB⟩
theorem pr_n2 (sa:Int) (ma:Bool) (na pa:Int) (h:(sa == 1)=false) (w:World) :
   Calls Tryz.prog 140 #[.agg #[.int .i64 24,.int .i64 (-149),.int .i64 104],.agg #[.int .u8 sa,.bool ma,.int .u64 na,.int .i64 pa],.agg #[.int .u8 1,.bool false,.int .u64 0,.int .i64 0]] w fun e w'=>e=.returned (vN)∧Below w.heap.size w w':=by
 have HB:Below ((((w.alloc ob).alloc (oV sa ma na pa)).alloc (oV 1 false 0 0)).alloc oz).heap.size ((((w.alloc ob).alloc (oV sa ma na pa)).alloc (oV 1 false 0 0)).alloc oz) ((((w.alloc ob).alloc (oV sa ma na pa)).alloc (oV 1 false 0 0)).alloc oz):=Below.refl _ _
 go_enter Tryz.func140,Tryz.ntmps140
 go_wp2_with (first
   |(go_at_call 144;with_reducible refine (vnone_b _).mono ?_;rintro e w1 ⟨rfl,hb1⟩;replace HB:=bt2 hb1 (show Below ((((w.alloc ob).alloc (oV sa ma na pa)).alloc (oV 1 false 0 0)).alloc oz).heap.size ((((w.alloc ob).alloc (oV sa ma na pa)).alloc (oV 1 false 0 0)).alloc oz) _ from by (repeat (first|exact HB|exact Below.refl _ _|with_reducible first|refine bel ?_|refine Below.drew ?_|refine bt3 ?_)));obtain ⟨x0,x1,x2,x3,x4,x5,x6,x7,x8,x9,x10⟩:=jF HB;obtain ⟨r0,r1,r2,r3,q0,q1,q2,q3⟩:=jA HB))
 refine bodyPost_ret (v:=vN) (by simp [results,Tryz.f140,go_sem,r0,r1,r2,r3]) rfl ?_
 exact ⟨rfl,jB HB⟩
theorem pr_ee (ma mb mm:Bool) (hmm:(!(ma == mb))=mm) (w:World) :
   Calls Tryz.prog 140 #[.agg #[.int .i64 24,.int .i64 (-149),.int .i64 104],.agg #[.int .u8 2,.bool ma,.int .u64 0,.int .i64 0],.agg #[.int .u8 2,.bool mb,.int .u64 0,.int .i64 0]] w fun e w'=>e=.returned (vE mm)∧Below w.heap.size w w':=by
 have HB:Below ((((w.alloc ob).alloc (oV 2 ma 0 0)).alloc (oV 2 mb 0 0)).alloc oz).heap.size ((((w.alloc ob).alloc (oV 2 ma 0 0)).alloc (oV 2 mb 0 0)).alloc oz) ((((w.alloc ob).alloc (oV 2 ma 0 0)).alloc (oV 2 mb 0 0)).alloc oz):=Below.refl _ _
 go_enter Tryz.func140,Tryz.ntmps140
 go_wp2_with (first
   |(go_at_call 114;with_reducible refine (isn2 ma _).mono ?_;rintro e w1 ⟨rfl,hb1⟩;replace HB:=bt2 hb1 (show Below ((((w.alloc ob).alloc (oV 2 ma 0 0)).alloc (oV 2 mb 0 0)).alloc oz).heap.size ((((w.alloc ob).alloc (oV 2 ma 0 0)).alloc (oV 2 mb 0 0)).alloc oz) _ from by (repeat (first|exact HB|exact Below.refl _ _|with_reducible first|refine bel ?_|refine Below.drew ?_|refine bt3 ?_)));obtain ⟨x0,x1,x2,x3,x4,x5,x6,x7,x8,x9,x10⟩:=jF HB;obtain ⟨r0,r1,r2,r3,q0,q1,q2,q3⟩:=jA HB)
   |(go_at_call 114;with_reducible refine (isn2 mb _).mono ?_;rintro e w1 ⟨rfl,hb1⟩;replace HB:=bt2 hb1 (show Below ((((w.alloc ob).alloc (oV 2 ma 0 0)).alloc (oV 2 mb 0 0)).alloc oz).heap.size ((((w.alloc ob).alloc (oV 2 ma 0 0)).alloc (oV 2 mb 0 0)).alloc oz) _ from by (repeat (first|exact HB|exact Below.refl _ _|with_reducible first|refine bel ?_|refine Below.drew ?_|refine bt3 ?_)));obtain ⟨x0,x1,x2,x3,x4,x5,x6,x7,x8,x9,x10⟩:=jF HB;obtain ⟨r0,r1,r2,r3,q0,q1,q2,q3⟩:=jA HB)
   |(go_at_call 145;with_reducible refine (vendless_b mm _).mono ?_;rintro e w1 ⟨rfl,hb1⟩;replace HB:=bt2 hb1 (show Below ((((w.alloc ob).alloc (oV 2 ma 0 0)).alloc (oV 2 mb 0 0)).alloc oz).heap.size ((((w.alloc ob).alloc (oV 2 ma 0 0)).alloc (oV 2 mb 0 0)).alloc oz) _ from by (repeat (first|exact HB|exact Below.refl _ _|with_reducible first|refine bel ?_|refine Below.drew ?_|refine bt3 ?_)));obtain ⟨x0,x1,x2,x3,x4,x5,x6,x7,x8,x9,x10⟩:=jF HB;obtain ⟨r0,r1,r2,r3,q0,q1,q2,q3⟩:=jA HB))
 refine bodyPost_ret (v:=vE mm) (by simp [results,Tryz.f140,go_sem,r0,r1,r2,r3]) rfl ?_
 exact ⟨rfl,jB HB⟩
theorem pr_ez (ma mb:Bool) (pb:Int) (w:World) :
   Calls Tryz.prog 140 #[.agg #[.int .i64 24,.int .i64 (-149),.int .i64 104],.agg #[.int .u8 2,.bool ma,.int .u64 0,.int .i64 0],.agg #[.int .u8 3,.bool mb,.int .u64 0,.int .i64 pb]] w fun e w'=>e=.returned (vN)∧Below w.heap.size w w':=by
 have HB:Below ((((w.alloc ob).alloc (oV 2 ma 0 0)).alloc (oV 3 mb 0 pb)).alloc oz).heap.size ((((w.alloc ob).alloc (oV 2 ma 0 0)).alloc (oV 3 mb 0 pb)).alloc oz) ((((w.alloc ob).alloc (oV 2 ma 0 0)).alloc (oV 3 mb 0 pb)).alloc oz):=Below.refl _ _
 go_enter Tryz.func140,Tryz.ntmps140
 go_wp2_with (first
   |(go_at_call 114;with_reducible refine (isn2 ma _).mono ?_;rintro e w1 ⟨rfl,hb1⟩;replace HB:=bt2 hb1 (show Below ((((w.alloc ob).alloc (oV 2 ma 0 0)).alloc (oV 3 mb 0 pb)).alloc oz).heap.size ((((w.alloc ob).alloc (oV 2 ma 0 0)).alloc (oV 3 mb 0 pb)).alloc oz) _ from by (repeat (first|exact HB|exact Below.refl _ _|with_reducible first|refine bel ?_|refine Below.drew ?_|refine bt3 ?_)));obtain ⟨x0,x1,x2,x3,x4,x5,x6,x7,x8,x9,x10⟩:=jF HB;obtain ⟨r0,r1,r2,r3,q0,q1,q2,q3⟩:=jA HB)
   |(go_at_call 114;with_reducible refine (isn3z mb pb _).mono ?_;rintro e w1 ⟨rfl,hb1⟩;replace HB:=bt2 hb1 (show Below ((((w.alloc ob).alloc (oV 2 ma 0 0)).alloc (oV 3 mb 0 pb)).alloc oz).heap.size ((((w.alloc ob).alloc (oV 2 ma 0 0)).alloc (oV 3 mb 0 pb)).alloc oz) _ from by (repeat (first|exact HB|exact Below.refl _ _|with_reducible first|refine bel ?_|refine Below.drew ?_|refine bt3 ?_)));obtain ⟨x0,x1,x2,x3,x4,x5,x6,x7,x8,x9,x10⟩:=jF HB;obtain ⟨r0,r1,r2,r3,q0,q1,q2,q3⟩:=jA HB)
   |(go_at_call 144;with_reducible refine (vnone_b _).mono ?_;rintro e w1 ⟨rfl,hb1⟩;replace HB:=bt2 hb1 (show Below ((((w.alloc ob).alloc (oV 2 ma 0 0)).alloc (oV 3 mb 0 pb)).alloc oz).heap.size ((((w.alloc ob).alloc (oV 2 ma 0 0)).alloc (oV 3 mb 0 pb)).alloc oz) _ from by (repeat (first|exact HB|exact Below.refl _ _|with_reducible first|refine bel ?_|refine Below.drew ?_|refine bt3 ?_)));obtain ⟨x0,x1,x2,x3,x4,x5,x6,x7,x8,x9,x10⟩:=jF HB;obtain ⟨r0,r1,r2,r3,q0,q1,q2,q3⟩:=jA HB))
 refine bodyPost_ret (v:=vN) (by simp [results,Tryz.f140,go_sem,r0,r1,r2,r3]) rfl ?_
 exact ⟨rfl,jB HB⟩
theorem pr_ef (ma mb mm:Bool) (hmm:(!(ma == mb))=mm) (nb:Nat) (pb:Int) (g:((nb:Int) == 0)=false) (w:World) :
   Calls Tryz.prog 140 #[.agg #[.int .i64 24,.int .i64 (-149),.int .i64 104],.agg #[.int .u8 2,.bool ma,.int .u64 0,.int .i64 0],.agg #[.int .u8 3,.bool mb,.int .u64 nb,.int .i64 pb]] w fun e w'=>e=.returned (vE mm)∧Below w.heap.size w w':=by
 have HB:Below ((((w.alloc ob).alloc (oV 2 ma 0 0)).alloc (oV 3 mb nb pb)).alloc oz).heap.size ((((w.alloc ob).alloc (oV 2 ma 0 0)).alloc (oV 3 mb nb pb)).alloc oz) ((((w.alloc ob).alloc (oV 2 ma 0 0)).alloc (oV 3 mb nb pb)).alloc oz):=Below.refl _ _
 go_enter Tryz.func140,Tryz.ntmps140
 go_wp2_with (first
   |(go_at_call 114;with_reducible refine (isn2 ma _).mono ?_;rintro e w1 ⟨rfl,hb1⟩;replace HB:=bt2 hb1 (show Below ((((w.alloc ob).alloc (oV 2 ma 0 0)).alloc (oV 3 mb nb pb)).alloc oz).heap.size ((((w.alloc ob).alloc (oV 2 ma 0 0)).alloc (oV 3 mb nb pb)).alloc oz) _ from by (repeat (first|exact HB|exact Below.refl _ _|with_reducible first|refine bel ?_|refine Below.drew ?_|refine bt3 ?_)));obtain ⟨x0,x1,x2,x3,x4,x5,x6,x7,x8,x9,x10⟩:=jF HB;obtain ⟨r0,r1,r2,r3,q0,q1,q2,q3⟩:=jA HB)
   |(go_at_call 114;with_reducible refine (isn3 mb nb pb _ g).mono ?_;rintro e w1 ⟨rfl,hb1⟩;replace HB:=bt2 hb1 (show Below ((((w.alloc ob).alloc (oV 2 ma 0 0)).alloc (oV 3 mb nb pb)).alloc oz).heap.size ((((w.alloc ob).alloc (oV 2 ma 0 0)).alloc (oV 3 mb nb pb)).alloc oz) _ from by (repeat (first|exact HB|exact Below.refl _ _|with_reducible first|refine bel ?_|refine Below.drew ?_|refine bt3 ?_)));obtain ⟨x0,x1,x2,x3,x4,x5,x6,x7,x8,x9,x10⟩:=jF HB;obtain ⟨r0,r1,r2,r3,q0,q1,q2,q3⟩:=jA HB)
   |(go_at_call 145;with_reducible refine (vendless_b mm _).mono ?_;rintro e w1 ⟨rfl,hb1⟩;replace HB:=bt2 hb1 (show Below ((((w.alloc ob).alloc (oV 2 ma 0 0)).alloc (oV 3 mb nb pb)).alloc oz).heap.size ((((w.alloc ob).alloc (oV 2 ma 0 0)).alloc (oV 3 mb nb pb)).alloc oz) _ from by (repeat (first|exact HB|exact Below.refl _ _|with_reducible first|refine bel ?_|refine Below.drew ?_|refine bt3 ?_)));obtain ⟨x0,x1,x2,x3,x4,x5,x6,x7,x8,x9,x10⟩:=jF HB;obtain ⟨r0,r1,r2,r3,q0,q1,q2,q3⟩:=jA HB))
 refine bodyPost_ret (v:=vE mm) (by simp [results,Tryz.f140,go_sem,r0,r1,r2,r3]) rfl ?_
 exact ⟨rfl,jB HB⟩
theorem pr_ze (ma mb:Bool) (pa:Int) (w:World) :
   Calls Tryz.prog 140 #[.agg #[.int .i64 24,.int .i64 (-149),.int .i64 104],.agg #[.int .u8 3,.bool ma,.int .u64 0,.int .i64 pa],.agg #[.int .u8 2,.bool mb,.int .u64 0,.int .i64 0]] w fun e w'=>e=.returned (vN)∧Below w.heap.size w w':=by
 have HB:Below ((((w.alloc ob).alloc (oV 3 ma 0 pa)).alloc (oV 2 mb 0 0)).alloc oz).heap.size ((((w.alloc ob).alloc (oV 3 ma 0 pa)).alloc (oV 2 mb 0 0)).alloc oz) ((((w.alloc ob).alloc (oV 3 ma 0 pa)).alloc (oV 2 mb 0 0)).alloc oz):=Below.refl _ _
 go_enter Tryz.func140,Tryz.ntmps140
 go_wp2_with (first
   |(go_at_call 114;with_reducible refine (isn3z ma pa _).mono ?_;rintro e w1 ⟨rfl,hb1⟩;replace HB:=bt2 hb1 (show Below ((((w.alloc ob).alloc (oV 3 ma 0 pa)).alloc (oV 2 mb 0 0)).alloc oz).heap.size ((((w.alloc ob).alloc (oV 3 ma 0 pa)).alloc (oV 2 mb 0 0)).alloc oz) _ from by (repeat (first|exact HB|exact Below.refl _ _|with_reducible first|refine bel ?_|refine Below.drew ?_|refine bt3 ?_)));obtain ⟨x0,x1,x2,x3,x4,x5,x6,x7,x8,x9,x10⟩:=jF HB;obtain ⟨r0,r1,r2,r3,q0,q1,q2,q3⟩:=jA HB)
   |(go_at_call 144;with_reducible refine (vnone_b _).mono ?_;rintro e w1 ⟨rfl,hb1⟩;replace HB:=bt2 hb1 (show Below ((((w.alloc ob).alloc (oV 3 ma 0 pa)).alloc (oV 2 mb 0 0)).alloc oz).heap.size ((((w.alloc ob).alloc (oV 3 ma 0 pa)).alloc (oV 2 mb 0 0)).alloc oz) _ from by (repeat (first|exact HB|exact Below.refl _ _|with_reducible first|refine bel ?_|refine Below.drew ?_|refine bt3 ?_)));obtain ⟨x0,x1,x2,x3,x4,x5,x6,x7,x8,x9,x10⟩:=jF HB;obtain ⟨r0,r1,r2,r3,q0,q1,q2,q3⟩:=jA HB))
 refine bodyPost_ret (v:=vN) (by simp [results,Tryz.f140,go_sem,r0,r1,r2,r3]) rfl ?_
 exact ⟨rfl,jB HB⟩
theorem pr_fe (ma mb mm:Bool) (hmm:(!(ma == mb))=mm) (na:Nat) (pa:Int) (g:((na:Int) == 0)=false) (w:World) :
   Calls Tryz.prog 140 #[.agg #[.int .i64 24,.int .i64 (-149),.int .i64 104],.agg #[.int .u8 3,.bool ma,.int .u64 na,.int .i64 pa],.agg #[.int .u8 2,.bool mb,.int .u64 0,.int .i64 0]] w fun e w'=>e=.returned (vE mm)∧Below w.heap.size w w':=by
 have HB:Below ((((w.alloc ob).alloc (oV 3 ma na pa)).alloc (oV 2 mb 0 0)).alloc oz).heap.size ((((w.alloc ob).alloc (oV 3 ma na pa)).alloc (oV 2 mb 0 0)).alloc oz) ((((w.alloc ob).alloc (oV 3 ma na pa)).alloc (oV 2 mb 0 0)).alloc oz):=Below.refl _ _
 go_enter Tryz.func140,Tryz.ntmps140
 go_wp2_with (first
   |(go_at_call 114;with_reducible refine (isn3 ma na pa _ g).mono ?_;rintro e w1 ⟨rfl,hb1⟩;replace HB:=bt2 hb1 (show Below ((((w.alloc ob).alloc (oV 3 ma na pa)).alloc (oV 2 mb 0 0)).alloc oz).heap.size ((((w.alloc ob).alloc (oV 3 ma na pa)).alloc (oV 2 mb 0 0)).alloc oz) _ from by (repeat (first|exact HB|exact Below.refl _ _|with_reducible first|refine bel ?_|refine Below.drew ?_|refine bt3 ?_)));obtain ⟨x0,x1,x2,x3,x4,x5,x6,x7,x8,x9,x10⟩:=jF HB;obtain ⟨r0,r1,r2,r3,q0,q1,q2,q3⟩:=jA HB)
   |(go_at_call 114;with_reducible refine (isn2 mb _).mono ?_;rintro e w1 ⟨rfl,hb1⟩;replace HB:=bt2 hb1 (show Below ((((w.alloc ob).alloc (oV 3 ma na pa)).alloc (oV 2 mb 0 0)).alloc oz).heap.size ((((w.alloc ob).alloc (oV 3 ma na pa)).alloc (oV 2 mb 0 0)).alloc oz) _ from by (repeat (first|exact HB|exact Below.refl _ _|with_reducible first|refine bel ?_|refine Below.drew ?_|refine bt3 ?_)));obtain ⟨x0,x1,x2,x3,x4,x5,x6,x7,x8,x9,x10⟩:=jF HB;obtain ⟨r0,r1,r2,r3,q0,q1,q2,q3⟩:=jA HB)
   |(go_at_call 145;with_reducible refine (vendless_b mm _).mono ?_;rintro e w1 ⟨rfl,hb1⟩;replace HB:=bt2 hb1 (show Below ((((w.alloc ob).alloc (oV 3 ma na pa)).alloc (oV 2 mb 0 0)).alloc oz).heap.size ((((w.alloc ob).alloc (oV 3 ma na pa)).alloc (oV 2 mb 0 0)).alloc oz) _ from by (repeat (first|exact HB|exact Below.refl _ _|with_reducible first|refine bel ?_|refine Below.drew ?_|refine bt3 ?_)));obtain ⟨x0,x1,x2,x3,x4,x5,x6,x7,x8,x9,x10⟩:=jF HB;obtain ⟨r0,r1,r2,r3,q0,q1,q2,q3⟩:=jA HB))
 refine bodyPost_ret (v:=vE mm) (by simp [results,Tryz.f140,go_sem,r0,r1,r2,r3]) rfl ?_
 exact ⟨rfl,jB HB⟩
end Go.Proofs.YtibhlcfligfhdaaGreat
