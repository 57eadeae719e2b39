import Derived.Test.YtibhlcfligfhdaaGreatCITab
import Derived.Test.YtibhlcfligfhdaaGreatCSInB
import Derived.Test.YtibhlcfligfhdaaGreatCSSmB7
namespace Go.Proofs.YtibhlcfligfhdaaGreat
set_option maxHeartbeats 40000000
open Go.RowKit
set_option maxRecDepth 100000
theorem btwU {a W w1:World} (h:Below W.heap.size W w1) (h':Below a.heap.size a W):Below a.heap.size a w1:=h'.trans (h.mono h'.size)
theorem rturned_any (a:Nat) (w:World) (h:a<4294967296) :
   Calls Tryz.prog 91 #[.int .u32 a] w fun e w'=>e=.returned (.int .u32 (tn a))∧w'=w:=by
 unfold tn
 by_cases h':a<2147483648
 · rw [if_pos h',show ((a+2147483648:Nat):Int)=(a:Int)+2147483648 by omega]
   have g1:decide ((2147483648:Int)≤(a:Int))=false:=decide_eq_false (by omega)
   obtain ⟨x,hx⟩:∃ x:Int,x=(a:Int):=⟨_,rfl⟩
   rw [←hx] at g1 ⊢
   have hw:IntKind.u32.wrap (x+2147483648)=x+2147483648:=by rw [IntKind.wrap_u32'];omega
   have x0:0≤x:=by omega
   have x1:x≤2147483647:=by omega
   clear hx h h'
   go_enter Tryz.func91,Tryz.ntmps91
   go_wp2
   go_ret
   exact ⟨rfl,rfl⟩
 · rw [if_neg h',show ((a-2147483648:Nat):Int)=(a:Int)-2147483648 by omega]
   have g1:decide ((2147483648:Int)≤(a:Int))=true:=decide_eq_true (by omega)
   obtain ⟨x,hx⟩:∃ x:Int,x=(a:Int):=⟨_,rfl⟩
   rw [←hx] at g1 ⊢
   have hw:IntKind.u32.wrap (x-2147483648)=x-2147483648:=by rw [IntKind.wrap_u32'];omega
   have x0:0≤x:=by omega
   have x1:x≤4294967295:=by omega
   clear hx h h'
   go_enter Tryz.func91,Tryz.ntmps91
   go_wp2
   go_ret
   exact ⟨rfl,rfl⟩
theorem rlow8 (a:Nat) (z:Int) (w:World) (ha:a<4294967296) (hz:z=if a % 256<128 then ((a % 256:Nat):Int) else ((a % 256:Nat):Int)-256) :
   Calls Tryz.prog 90 #[.int .u32 a,.int .i64 8] w fun e w'=>e=.returned (.int .i64 z)∧w'=w:=by
 obtain ⟨x,hx⟩:∃ x:Int,x=(a:Int):=⟨_,rfl⟩
 have x0:0≤x:=by omega
 have x1:x≤4294967295:=by omega
 obtain ⟨y,hy⟩:∃ y:Int,x % 256=y:=⟨_,rfl⟩
 have y0:0≤y:=by omega
 have y1:y≤255:=by omega
 have hy':x.tmod 256=y:=by rw [Int.tmod_eq_emod_of_nonneg x0,hy]
 have hw:wrap64 y=y:=by unfold wrap64;omega
 rw [←hx]
 by_cases h':a % 256<128
 · rw [if_pos h'] at hz
   obtain rfl:z=y:=by omega
   have hd:¬ (128:Int)≤z:=by omega
   have hd2:z<128:=by omega
   clear hx hz ha h'
   go_enter Tryz.func90,Tryz.ntmps90
   go_wp2
   go_ret
   exact ⟨rfl,rfl⟩
 · rw [if_neg h'] at hz
   have hz2:y-256=z:=by omega
   have hd:(128:Int)≤y:=by omega
   have hw2:wrap64 (y-256)=z:=by unfold wrap64;omega
   clear hx hz ha h'
   go_enter Tryz.func90,Tryz.ntmps90
   go_wp2
   go_ret
   exact ⟨rfl,rfl⟩
theorem rlow16 (a:Nat) (z:Int) (w:World) (ha:a<4294967296) (hz:z=if a % 65536<32768 then ((a % 65536:Nat):Int) else ((a % 65536:Nat):Int)-65536) :
   Calls Tryz.prog 90 #[.int .u32 a,.int .i64 16] w fun e w'=>e=.returned (.int .i64 z)∧w'=w:=by
 obtain ⟨x,hx⟩:∃ x:Int,x=(a:Int):=⟨_,rfl⟩
 have x0:0≤x:=by omega
 have x1:x≤4294967295:=by omega
 obtain ⟨y,hy⟩:∃ y:Int,x % 65536=y:=⟨_,rfl⟩
 have y0:0≤y:=by omega
 have y1:y≤65535:=by omega
 have hy':x.tmod 65536=y:=by rw [Int.tmod_eq_emod_of_nonneg x0,hy]
 have hw:wrap64 y=y:=by unfold wrap64;omega
 rw [←hx]
 by_cases h':a % 65536<32768
 · rw [if_pos h'] at hz
   obtain rfl:z=y:=by omega
   have hd:¬ (32768:Int)≤z:=by omega
   have hd2:z<32768:=by omega
   clear hx hz ha h'
   go_enter Tryz.func90,Tryz.ntmps90
   go_wp2
   go_ret
   exact ⟨rfl,rfl⟩
 · rw [if_neg h'] at hz
   have hz2:y-65536=z:=by omega
   have hd:(32768:Int)≤y:=by omega
   have hw2:wrap64 (y-65536)=z:=by unfold wrap64;omega
   clear hx hz ha h'
   go_enter Tryz.func90,Tryz.ntmps90
   go_wp2
   go_ret
   exact ⟨rfl,rfl⟩
theorem ru_sex8 (a:Nat) (w:World) (ha:a<4294967296) :
   Calls Tryz.prog 78 #[.int .u8 36,.int .u32 a] w fun e w'=>e=.returned (.tuple #[.int .u32 ((sex8 a:Nat):Int),.int .i64 0])∧w'=w:=by
 obtain ⟨z,hz⟩:∃ z:Int,z=if a % 256<128 then ((a % 256:Nat):Int) else ((a % 256:Nat):Int)-256:=⟨_,rfl⟩
 have cl:∀ w,Calls Tryz.prog 90 #[.int .u32 a,.int .i64 8] w fun e w'=>e=.returned (.int .i64 z)∧w'=w:=fun w=>rlow8 a z w ha hz
 have cw:∀ w,Calls Tryz.prog 89 #[.int .i64 z] w fun e w'=>e=.returned (.int .u32 ((sex8 a:Nat):Int))∧w'=w:=fun w=>by
   have:=rwrap_any z w
   rw [show z % 4294967296=((sex8 a:Nat):Int) from by rw [hz];unfold sex8;split <;> omega] at this
   exact this
 clear hz
 go_enter Tryz.func78,Tryz.ntmps78
 go_wp2_with (first
   |(go_at_call 90;with_reducible refine (cl _).mono ?_;rintro e wq ⟨rfl,hq⟩;subst wq)
   |(go_at_call 89;with_reducible refine (cw _).mono ?_;rintro e wq ⟨rfl,hq⟩;subst wq))
 simp [bodyPost,results,Tryz.results78]
theorem ru_sex16 (a:Nat) (w:World) (ha:a<4294967296) :
   Calls Tryz.prog 78 #[.int .u8 37,.int .u32 a] w fun e w'=>e=.returned (.tuple #[.int .u32 ((sex16 a:Nat):Int),.int .i64 0])∧w'=w:=by
 obtain ⟨z,hz⟩:∃ z:Int,z=if a % 65536<32768 then ((a % 65536:Nat):Int) else ((a % 65536:Nat):Int)-65536:=⟨_,rfl⟩
 have cl:∀ w,Calls Tryz.prog 90 #[.int .u32 a,.int .i64 16] w fun e w'=>e=.returned (.int .i64 z)∧w'=w:=fun w=>rlow16 a z w ha hz
 have cw:∀ w,Calls Tryz.prog 89 #[.int .i64 z] w fun e w'=>e=.returned (.int .u32 ((sex16 a:Nat):Int))∧w'=w:=fun w=>by
   have:=rwrap_any z w
   rw [show z % 4294967296=((sex16 a:Nat):Int) from by rw [hz];unfold sex16;split <;> omega] at this
   exact this
 clear hz
 go_enter Tryz.func78,Tryz.ntmps78
 go_wp2_with (first
   |(go_at_call 90;with_reducible refine (cl _).mono ?_;rintro e wq ⟨rfl,hq⟩;subst wq)
   |(go_at_call 89;with_reducible refine (cw _).mono ?_;rintro e wq ⟨rfl,hq⟩;subst wq))
 simp [bodyPost,results,Tryz.results78]
theorem ru_neg (a:Nat) (w:World) (ha:a<4294967296) :
   Calls Tryz.prog 78 #[.int .u8 38,.int .u32 a] w fun e w'=>e=.returned (.tuple #[.int .u32 (((4294967296-a) % 4294967296:Nat):Int),.int .i64 0])∧w'=w:=by
 have hw:wrap64 (-(a:Int)) = -(a:Int):=by unfold wrap64;omega
 have cw:∀ w,Calls Tryz.prog 89 #[.int .i64 (-(a:Int))] w fun e w'=>e=.returned (.int .u32 (((4294967296-a) % 4294967296:Nat):Int))∧w'=w:=fun w=>by
   have:=rwrap_any (-(a:Int)) w
   rw [show (-(a:Int)) % 4294967296=(((4294967296-a) % 4294967296:Nat):Int) from by omega] at this
   exact this
 go_enter Tryz.func78,Tryz.ntmps78
 go_wp2_with (first
   |(go_at_call 89;with_reducible refine (cw _).mono ?_;rintro e wq ⟨rfl,hq⟩;subst wq))
 simp [bodyPost,results,Tryz.results78]
theorem ru_not (a:Nat) (w:World) (ha:a<4294967296) :
   Calls Tryz.prog 78 #[.int .u8 49,.int .u32 a] w fun e w'=>e=.returned (.tuple #[.int .u32 ((4294967295-a:Nat):Int),.int .i64 0])∧w'=w:=by
 have hw:wrap64 (-(a:Int)) = -(a:Int):=by unfold wrap64;omega
 have hw2:wrap64 (-(a:Int)-1) = -(a:Int)-1:=by unfold wrap64;omega
 have cw:∀ w,Calls Tryz.prog 89 #[.int .i64 (-(a:Int)-1)] w fun e w'=>e=.returned (.int .u32 ((4294967295-a:Nat):Int))∧w'=w:=fun w=>by
   have:=rwrap_any (-(a:Int)-1) w
   rw [show (-(a:Int)-1) % 4294967296=((4294967295-a:Nat):Int) from by omega] at this
   exact this
 go_enter Tryz.func78,Tryz.ntmps78
 go_wp2_with (first
   |(go_at_call 89;with_reducible refine (cw _).mono ?_;rintro e wq ⟨rfl,hq⟩;subst wq))
 simp [bodyPost,results,Tryz.results78]
theorem ru_negf (a:Nat) (w:World) (ha:a<4294967296) :
   Calls Tryz.prog 78 #[.int .u8 53,.int .u32 a] w fun e w'=>e=.returned (.tuple #[.int .u32 ((tn a:Nat):Int),.int .i64 0])∧w'=w:=by
 go_enter Tryz.func78,Tryz.ntmps78
 go_wp2_with (first
   |(go_at_call 91;with_reducible refine (rturned_any a _ ha).mono ?_;rintro e wq ⟨rfl,hq⟩;subst wq))
 simp [bodyPost,results,Tryz.results78]
theorem ru_cvif (a:Nat) (w:World) (ha:a<4294967296) :
   Calls Tryz.prog 78 #[.int .u8 58,.int .u32 a] w fun e w'=>e=.returned (.tuple #[.int .u32 ((fof (sx a):Nat):Int),.int .i64 0])∧Below w.heap.size w w':=by
 have HB:Below w.heap.size w w:=Below.refl _ _
 obtain ⟨s1,s2⟩:=sx_range ha
 have cs:=fun w=>rsig_any a w ha
 obtain ⟨s,hs⟩:∃ s,sx a=s:=⟨_,rfl⟩
 rw [hs] at s1 s2 cs ⊢
 have hw:wrap32 s=s:=by unfold wrap32;omega
 have co:=fun w=>ofs_any s w s1 s2
 clear hs
 go_enter Tryz.func78,Tryz.ntmps78
 go_wp2_with (first
   |(go_at_call 80;with_reducible refine (cs _).mono ?_;rintro e wq ⟨rfl,hq⟩;subst wq)
   |(go_at_call 92;with_reducible refine (co _).mono ?_;rintro e wq ⟨rfl,hq⟩;replace HB:Below w.heap.size w wq:=btwU hq HB))
 simp [bodyPost,results,Tryz.results78]
 exact HB
theorem twV_range (a:Nat) : -2147483648≤twV a∧twV a≤2147483647:=by
 unfold twV
 have:=tT_lt a
 split
 · omega
 · split
   · split <;> omega
   · split <;> omega
theorem ru_cvfi (a:Nat) (w:World) (ha:a<4294967296) :
   Calls Tryz.prog 78 #[.int .u8 59,.int .u32 a] w fun e w'=>e=.returned (.tuple #[.int .u32 (((twV a % 4294967296).toNat:Nat):Int),.int .i64 0])∧Below w.heap.size w w':=by
 have HB:Below w.heap.size w w:=Below.refl _ _
 have ct:=fun w=>rtoward_any a w ha
 have rg:=twV_range a
 obtain ⟨s,hs⟩:∃ s,twV a=s:=⟨_,rfl⟩
 rw [hs] at ct rg ⊢
 have hw:wrap64 s=s:=by unfold wrap64;omega
 have cw:∀ w,Calls Tryz.prog 89 #[.int .i64 s] w fun e w'=>e=.returned (.int .u32 (((s % 4294967296).toNat:Nat):Int))∧w'=w:=fun w=>by
   have:=rwrap_any s w
   rw [show s % 4294967296=(((s % 4294967296).toNat:Nat):Int) from anat_of.symm] at this
   exact this
 clear hs rg
 go_enter Tryz.func78,Tryz.ntmps78
 go_wp2_with (first
   |(go_at_call 93;with_reducible refine (ct _).mono ?_;rintro e wq ⟨rfl,hq⟩;replace HB:Below w.heap.size w wq:=btwU hq HB)
   |(go_at_call 89;with_reducible refine (cw _).mono ?_;rintro e wq ⟨rfl,hq⟩;subst wq))
 simp [bodyPost,results,Tryz.results78]
 exact HB
theorem ru_none (op a:Nat) (w:World) (h36:¬ (op:Int)=36) (h37:¬ (op:Int)=37) (h38:¬ (op:Int)=38) (h49:¬ (op:Int)=49) (h53:¬ (op:Int)=53) (h58:¬ (op:Int)=58) (h59:¬ (op:Int)=59) :
   Calls Tryz.prog 78 #[.int .u8 op,.int .u32 a] w fun e w'=>e=.returned (.tuple #[.int .u32 0,.int .i64 61])∧w'=w:=by
 go_enter Tryz.func78,Tryz.ntmps78
 go_wp2
 simp [bodyPost,results,Tryz.results78]
theorem ru_any (op a:Nat) (w:World) (ha:a<4294967296) :
   Calls Tryz.prog 78 #[.int .u8 op,.int .u32 a] w fun e w'=>e=.returned (.tuple #[.int .u32 (unV op a),.int .i64 (unE op)])∧Below w.heap.size w w':=by
 by_cases h36:op=36
 · subst h36
   rw [unV_36,show unE 36=0 from rfl]
   exact (ru_sex8 a w ha).mono fun e w' ⟨h1,h2⟩=>⟨h1,h2▸Below.refl _ _⟩
 by_cases h37:op=37
 · subst h37
   rw [unV_37,show unE 37=0 from rfl]
   exact (ru_sex16 a w ha).mono fun e w' ⟨h1,h2⟩=>⟨h1,h2▸Below.refl _ _⟩
 by_cases h38:op=38
 · subst h38
   rw [unV_38,show unE 38=0 from rfl]
   exact (ru_neg a w ha).mono fun e w' ⟨h1,h2⟩=>⟨h1,h2▸Below.refl _ _⟩
 by_cases h49:op=49
 · subst h49
   rw [unV_49,show unE 49=0 from rfl]
   exact (ru_not a w ha).mono fun e w' ⟨h1,h2⟩=>⟨h1,h2▸Below.refl _ _⟩
 by_cases h53:op=53
 · subst h53
   rw [unV_53,show unE 53=0 from rfl]
   exact (ru_negf a w ha).mono fun e w' ⟨h1,h2⟩=>⟨h1,h2▸Below.refl _ _⟩
 by_cases h58:op=58
 · subst h58
   rw [unV_58,show unE 58=0 from rfl]
   exact ru_cvif a w ha
 by_cases h59:op=59
 · subst h59
   rw [unV_59,show unE 59=0 from rfl]
   exact ru_cvfi a w ha
 have h0:unV op a=0:=by unfold unV;simp only [if_neg h36,if_neg h37,if_neg h38,if_neg h49,if_neg h53,if_neg h58,if_neg h59]
 have h1:unE op=61:=by unfold unE;rw [if_neg (by omega)]
 rw [h0,h1]
 exact (ru_none op a w (by omega) (by omega) (by omega) (by omega) (by omega) (by omega) (by omega)).mono fun e w' ⟨h1,h2⟩=>⟨h1,h2▸Below.refl _ _⟩
theorem stCA :
   (∀ (sa:Int) (ma:Bool) (na pa:Int) (sb:Int) (mb:Bool) (nb pb:Int) (X Y:Int) (w:World),((sa == 1)=false)→((sb == 1)=false)→(∀ w,Calls Tryz.prog 114 #[.agg #[.int .u8 sa,.bool ma,.int .u64 na,.int .i64 pa]] w fun e w'=>e=.returned (.bool true)∧Below w.heap.size w w')→(∀ w,Calls Tryz.prog 114 #[.agg #[.int .u8 sb,.bool mb,.int .u64 nb,.int .i64 pb]] w fun e w'=>e=.returned (.bool true)∧Below w.heap.size w w')→(∀ w,Calls Tryz.prog 115 #[.agg #[.int .u8 sa,.bool ma,.int .u64 na,.int .i64 pa]] w fun e w'=>e=.returned (.int .i64 X)∧Below w.heap.size w w')→(∀ w,Calls Tryz.prog 115 #[.agg #[.int .u8 sb,.bool mb,.int .u64 nb,.int .i64 pb]] w fun e w'=>e=.returned (.int .i64 Y)∧Below w.heap.size w w')→Calls Tryz.prog 99 #[.agg #[.int .u8 sa,.bool ma,.int .u64 na,.int .i64 pa],.agg #[.int .u8 sb,.bool mb,.int .u64 nb,.int .i64 pb]] w fun e w'=>e=.returned (.int .u8 3)∧Below w.heap.size w w') ∧
   (∀ (sa:Int) (ma:Bool) (na pa:Int) (sb:Int) (mb:Bool) (nb pb:Int) (X Y:Int) (z2:Bool) (w:World),((sa == 1)=false)→((sb == 1)=false)→(∀ w,Calls Tryz.prog 114 #[.agg #[.int .u8 sa,.bool ma,.int .u64 na,.int .i64 pa]] w fun e w'=>e=.returned (.bool false)∧Below w.heap.size w w')→(∀ w,Calls Tryz.prog 114 #[.agg #[.int .u8 sb,.bool mb,.int .u64 nb,.int .i64 pb]] w fun e w'=>e=.returned (.bool z2)∧Below w.heap.size w w')→(∀ w,Calls Tryz.prog 115 #[.agg #[.int .u8 sa,.bool ma,.int .u64 na,.int .i64 pa]] w fun e w'=>e=.returned (.int .i64 X)∧Below w.heap.size w w')→(∀ w,Calls Tryz.prog 115 #[.agg #[.int .u8 sb,.bool mb,.int .u64 nb,.int .i64 pb]] w fun e w'=>e=.returned (.int .i64 Y)∧Below w.heap.size w w')→(X<Y)→Calls Tryz.prog 99 #[.agg #[.int .u8 sa,.bool ma,.int .u64 na,.int .i64 pa],.agg #[.int .u8 sb,.bool mb,.int .u64 nb,.int .i64 pb]] w fun e w'=>e=.returned (.int .u8 2)∧Below w.heap.size w w') ∧
   (∀ (sa:Int) (ma:Bool) (na pa:Int) (sb:Int) (mb:Bool) (nb pb:Int) (X Y:Int) (z2:Bool) (w:World),((sa == 1)=false)→((sb == 1)=false)→(∀ w,Calls Tryz.prog 114 #[.agg #[.int .u8 sa,.bool ma,.int .u64 na,.int .i64 pa]] w fun e w'=>e=.returned (.bool false)∧Below w.heap.size w w')→(∀ w,Calls Tryz.prog 114 #[.agg #[.int .u8 sb,.bool mb,.int .u64 nb,.int .i64 pb]] w fun e w'=>e=.returned (.bool z2)∧Below w.heap.size w w')→(∀ w,Calls Tryz.prog 115 #[.agg #[.int .u8 sa,.bool ma,.int .u64 na,.int .i64 pa]] w fun e w'=>e=.returned (.int .i64 X)∧Below w.heap.size w w')→(∀ w,Calls Tryz.prog 115 #[.agg #[.int .u8 sb,.bool mb,.int .u64 nb,.int .i64 pb]] w fun e w'=>e=.returned (.int .i64 Y)∧Below w.heap.size w w')→(Y<X)→Calls Tryz.prog 99 #[.agg #[.int .u8 sa,.bool ma,.int .u64 na,.int .i64 pa],.agg #[.int .u8 sb,.bool mb,.int .u64 nb,.int .i64 pb]] w fun e w'=>e=.returned (.int .u8 4)∧Below w.heap.size w w') ∧
   (∀ (sa:Int) (ma:Bool) (na pa:Int) (sb:Int) (mb:Bool) (nb pb:Int) (X Y:Int) (w:World),((sa == 1)=false)→((sb == 1)=false)→(∀ w,Calls Tryz.prog 114 #[.agg #[.int .u8 sa,.bool ma,.int .u64 na,.int .i64 pa]] w fun e w'=>e=.returned (.bool true)∧Below w.heap.size w w')→(∀ w,Calls Tryz.prog 114 #[.agg #[.int .u8 sb,.bool mb,.int .u64 nb,.int .i64 pb]] w fun e w'=>e=.returned (.bool false)∧Below w.heap.size w w')→(∀ w,Calls Tryz.prog 115 #[.agg #[.int .u8 sa,.bool ma,.int .u64 na,.int .i64 pa]] w fun e w'=>e=.returned (.int .i64 X)∧Below w.heap.size w w')→(∀ w,Calls Tryz.prog 115 #[.agg #[.int .u8 sb,.bool mb,.int .u64 nb,.int .i64 pb]] w fun e w'=>e=.returned (.int .i64 Y)∧Below w.heap.size w w')→(X<Y)→Calls Tryz.prog 99 #[.agg #[.int .u8 sa,.bool ma,.int .u64 na,.int .i64 pa],.agg #[.int .u8 sb,.bool mb,.int .u64 nb,.int .i64 pb]] w fun e w'=>e=.returned (.int .u8 2)∧Below w.heap.size w w') ∧
   (∀ (sa:Int) (ma:Bool) (na pa:Int) (sb:Int) (mb:Bool) (nb pb:Int) (X Y:Int) (w:World),((sa == 1)=false)→((sb == 1)=false)→(∀ w,Calls Tryz.prog 114 #[.agg #[.int .u8 sa,.bool ma,.int .u64 na,.int .i64 pa]] w fun e w'=>e=.returned (.bool true)∧Below w.heap.size w w')→(∀ w,Calls Tryz.prog 114 #[.agg #[.int .u8 sb,.bool mb,.int .u64 nb,.int .i64 pb]] w fun e w'=>e=.returned (.bool false)∧Below w.heap.size w w')→(∀ w,Calls Tryz.prog 115 #[.agg #[.int .u8 sa,.bool ma,.int .u64 na,.int .i64 pa]] w fun e w'=>e=.returned (.int .i64 X)∧Below w.heap.size w w')→(∀ w,Calls Tryz.prog 115 #[.agg #[.int .u8 sb,.bool mb,.int .u64 nb,.int .i64 pb]] w fun e w'=>e=.returned (.int .i64 Y)∧Below w.heap.size w w')→(Y<X)→Calls Tryz.prog 99 #[.agg #[.int .u8 sa,.bool ma,.int .u64 na,.int .i64 pa],.agg #[.int .u8 sb,.bool mb,.int .u64 nb,.int .i64 pb]] w fun e w'=>e=.returned (.int .u8 4)∧Below w.heap.size w w'):=by
 refine ⟨?_,?_,?_,?_,?_⟩
 intro sa ma na pa sb mb nb pb X Y w ha hb hi1 hi2 hs1 hs2
 rotate_left
 intro sa ma na pa sb mb nb pb X Y z2 w ha hb hi1 hi2 hs1 hs2 h
 rotate_left
 intro sa ma na pa sb mb nb pb X Y z2 w ha hb hi1 hi2 hs1 hs2 h
 rotate_left
 intro sa ma na pa sb mb nb pb X Y w ha hb hi1 hi2 hs1 hs2 h
 rotate_left
 intro sa ma na pa sb mb nb pb X Y w ha hb hi1 hi2 hs1 hs2 h
 rotate_left
 all_goals (have HI1:Hid _:=hi1)
 all_goals (have HI2:Hid _:=hi2)
 all_goals (have HS1:Hid _:=hs1)
 all_goals (have HS2:Hid _:=hs2)
 all_goals (have HBK:Hid _:=hs2)
 all_goals (clear hi1 hi2 hs1 hs2 )
 rotate_left
 have hne:(X != Y)=true:=by simp;omega
 rotate_left
 have hne:(X != Y)=true:=by simp;omega
 have hlt:decide (X<Y)=false:=decide_eq_false (by omega)
 rotate_left
 have hne:(X != Y)=true:=by simp;omega
 rotate_left
 have hne:(X != Y)=true:=by simp;omega
 have hlt:decide (X<Y)=false:=decide_eq_false (by omega)
 rotate_left
 all_goals (have HB:Below ((w.alloc (oV sa ma na pa)).alloc (oV sb mb nb pb)).heap.size ((w.alloc (oV sa ma na pa)).alloc (oV sb mb nb pb)) ((w.alloc (oV sa ma na pa)).alloc (oV sb mb nb pb)):=Below.refl _ _)
 all_goals (have HW:Hid (Below w.heap.size w ((w.alloc (oV sa ma na pa)).alloc (oV sb mb nb pb))):=bel (bel (Below.refl _ _)))
 all_goals (go_enter Tryz.func99,Tryz.ntmps99)
 all_goals (
   go_wp2_with (first
     |(go_at_call 114;with_reducible refine (HI1.out _).mono ?_;rintro e w1 ⟨rfl,hb1⟩;replace HB:=bt2 hb1 (show Below ((w.alloc (oV sa ma na pa)).alloc (oV sb mb nb pb)).heap.size ((w.alloc (oV sa ma na pa)).alloc (oV sb mb nb pb)) _ from by (repeat (first|exact HB|exact Below.refl _ _|with_reducible first|refine bel ?_|refine Below.drew ?_|refine bt3 ?_)));obtain ⟨c0,c1,c2,c3,c4,c5,c6,c7⟩:=gF HB)
     |(go_at_call 114;with_reducible refine (HI2.out _).mono ?_;rintro e w1 ⟨rfl,hb1⟩;replace HB:=bt2 hb1 (show Below ((w.alloc (oV sa ma na pa)).alloc (oV sb mb nb pb)).heap.size ((w.alloc (oV sa ma na pa)).alloc (oV sb mb nb pb)) _ from by (repeat (first|exact HB|exact Below.refl _ _|with_reducible first|refine bel ?_|refine Below.drew ?_|refine bt3 ?_)));obtain ⟨c0,c1,c2,c3,c4,c5,c6,c7⟩:=gF HB)
     |(go_at_call 115;with_reducible refine (HS1.out _).mono ?_;rintro e w1 ⟨rfl,hb1⟩;replace HB:=bt2 hb1 (show Below ((w.alloc (oV sa ma na pa)).alloc (oV sb mb nb pb)).heap.size ((w.alloc (oV sa ma na pa)).alloc (oV sb mb nb pb)) _ from by (repeat (first|exact HB|exact Below.refl _ _|with_reducible first|refine bel ?_|refine Below.drew ?_|refine bt3 ?_)));obtain ⟨c0,c1,c2,c3,c4,c5,c6,c7⟩:=gF HB)
     |(go_at_call 115;with_reducible refine (HS2.out _).mono ?_;rintro e w1 ⟨rfl,hb1⟩;replace HB:=bt2 hb1 (show Below ((w.alloc (oV sa ma na pa)).alloc (oV sb mb nb pb)).heap.size ((w.alloc (oV sa ma na pa)).alloc (oV sb mb nb pb)) _ from by (repeat (first|exact HB|exact Below.refl _ _|with_reducible first|refine bel ?_|refine Below.drew ?_|refine bt3 ?_)));obtain ⟨c0,c1,c2,c3,c4,c5,c6,c7⟩:=gF HB)
     |(go_at_call 116;with_reducible refine (HBK.out _).mono ?_;rintro e w1 ⟨rfl,hb1⟩;replace HB:=bt2 hb1 (show Below ((w.alloc (oV sa ma na pa)).alloc (oV sb mb nb pb)).heap.size ((w.alloc (oV sa ma na pa)).alloc (oV sb mb nb pb)) _ from by (repeat (first|exact HB|exact Below.refl _ _|with_reducible first|refine bel ?_|refine Below.drew ?_|refine bt3 ?_)));obtain ⟨c0,c1,c2,c3,c4,c5,c6,c7⟩:=gF HB)))
 all_goals (go_ret)
 all_goals (exact ⟨rfl,HW.out.trans (HB.mono HW.out.size)⟩)
abbrev stZ:=stCA.1
abbrev stLa:=stCA.2.1
abbrev stGa:=stCA.2.2.1
abbrev stLb:=stCA.2.2.2.1
abbrev stGb:=stCA.2.2.2.2
theorem stEfA :
   (∀ (sa:Int) (na pa:Int) (sb:Int) (mb:Bool) (nb pb:Int) (X Y:Int) (Z:Int) (z2:Bool) (w:World),((sa == 1)=false)→((sb == 1)=false)→(∀ w,Calls Tryz.prog 114 #[.agg #[.int .u8 sa,.bool false,.int .u64 na,.int .i64 pa]] w fun e w'=>e=.returned (.bool false)∧Below w.heap.size w w')→(∀ w,Calls Tryz.prog 114 #[.agg #[.int .u8 sb,.bool mb,.int .u64 nb,.int .i64 pb]] w fun e w'=>e=.returned (.bool z2)∧Below w.heap.size w w')→(∀ w,Calls Tryz.prog 115 #[.agg #[.int .u8 sa,.bool false,.int .u64 na,.int .i64 pa]] w fun e w'=>e=.returned (.int .i64 X)∧Below w.heap.size w w')→(∀ w,Calls Tryz.prog 115 #[.agg #[.int .u8 sb,.bool mb,.int .u64 nb,.int .i64 pb]] w fun e w'=>e=.returned (.int .i64 Y)∧Below w.heap.size w w')→(∀ w,Calls Tryz.prog 116 #[.agg #[.int .u8 sa,.bool false,.int .u64 na,.int .i64 pa],.agg #[.int .u8 sb,.bool mb,.int .u64 nb,.int .i64 pb]] w fun e w'=>e=.returned (.int .i64 Z)∧Below w.heap.size w w')→(X=Y)→(-2≤Z)→(Z≤2)→(Z<0)→Calls Tryz.prog 99 #[.agg #[.int .u8 sa,.bool false,.int .u64 na,.int .i64 pa],.agg #[.int .u8 sb,.bool mb,.int .u64 nb,.int .i64 pb]] w fun e w'=>e=.returned (.int .u8 2)∧Below w.heap.size w w') ∧
   (∀ (sa:Int) (na pa:Int) (sb:Int) (mb:Bool) (nb pb:Int) (X Y:Int) (Z:Int) (z2:Bool) (w:World),((sa == 1)=false)→((sb == 1)=false)→(∀ w,Calls Tryz.prog 114 #[.agg #[.int .u8 sa,.bool false,.int .u64 na,.int .i64 pa]] w fun e w'=>e=.returned (.bool false)∧Below w.heap.size w w')→(∀ w,Calls Tryz.prog 114 #[.agg #[.int .u8 sb,.bool mb,.int .u64 nb,.int .i64 pb]] w fun e w'=>e=.returned (.bool z2)∧Below w.heap.size w w')→(∀ w,Calls Tryz.prog 115 #[.agg #[.int .u8 sa,.bool false,.int .u64 na,.int .i64 pa]] w fun e w'=>e=.returned (.int .i64 X)∧Below w.heap.size w w')→(∀ w,Calls Tryz.prog 115 #[.agg #[.int .u8 sb,.bool mb,.int .u64 nb,.int .i64 pb]] w fun e w'=>e=.returned (.int .i64 Y)∧Below w.heap.size w w')→(∀ w,Calls Tryz.prog 116 #[.agg #[.int .u8 sa,.bool false,.int .u64 na,.int .i64 pa],.agg #[.int .u8 sb,.bool mb,.int .u64 nb,.int .i64 pb]] w fun e w'=>e=.returned (.int .i64 Z)∧Below w.heap.size w w')→(X=Y)→(-2≤Z)→(Z≤2)→(Z=0)→Calls Tryz.prog 99 #[.agg #[.int .u8 sa,.bool false,.int .u64 na,.int .i64 pa],.agg #[.int .u8 sb,.bool mb,.int .u64 nb,.int .i64 pb]] w fun e w'=>e=.returned (.int .u8 3)∧Below w.heap.size w w') ∧
   (∀ (sa:Int) (na pa:Int) (sb:Int) (mb:Bool) (nb pb:Int) (X Y:Int) (Z:Int) (z2:Bool) (w:World),((sa == 1)=false)→((sb == 1)=false)→(∀ w,Calls Tryz.prog 114 #[.agg #[.int .u8 sa,.bool false,.int .u64 na,.int .i64 pa]] w fun e w'=>e=.returned (.bool false)∧Below w.heap.size w w')→(∀ w,Calls Tryz.prog 114 #[.agg #[.int .u8 sb,.bool mb,.int .u64 nb,.int .i64 pb]] w fun e w'=>e=.returned (.bool z2)∧Below w.heap.size w w')→(∀ w,Calls Tryz.prog 115 #[.agg #[.int .u8 sa,.bool false,.int .u64 na,.int .i64 pa]] w fun e w'=>e=.returned (.int .i64 X)∧Below w.heap.size w w')→(∀ w,Calls Tryz.prog 115 #[.agg #[.int .u8 sb,.bool mb,.int .u64 nb,.int .i64 pb]] w fun e w'=>e=.returned (.int .i64 Y)∧Below w.heap.size w w')→(∀ w,Calls Tryz.prog 116 #[.agg #[.int .u8 sa,.bool false,.int .u64 na,.int .i64 pa],.agg #[.int .u8 sb,.bool mb,.int .u64 nb,.int .i64 pb]] w fun e w'=>e=.returned (.int .i64 Z)∧Below w.heap.size w w')→(X=Y)→(-2≤Z)→(Z≤2)→(0<Z)→Calls Tryz.prog 99 #[.agg #[.int .u8 sa,.bool false,.int .u64 na,.int .i64 pa],.agg #[.int .u8 sb,.bool mb,.int .u64 nb,.int .i64 pb]] w fun e w'=>e=.returned (.int .u8 4)∧Below w.heap.size w w'):=by
 refine ⟨?_,?_,?_⟩
 all_goals intro sa na pa sb mb nb pb X Y Z z2 w ha hb hi1 hi2 hs1 hs2 hbk hxy hZl hZh h
 all_goals (have HI1:Hid _:=hi1)
 all_goals (have HI2:Hid _:=hi2)
 all_goals (have HS1:Hid _:=hs1)
 all_goals (have HS2:Hid _:=hs2)
 all_goals (have HBK:Hid _:=hbk)
 all_goals (clear hi1 hi2 hs1 hs2 hbk)
 all_goals (have hne:(X != Y)=false:=by simp [hxy])
 all_goals (have hZ1 : -2≤Z:=hZl)
 have h':¬ 0<Z:=by omega
 rotate_left
 subst h
 rotate_left
 have h':¬ Z<0:=by omega
 rotate_left
 all_goals (have HB:Below ((w.alloc (oV sa false na pa)).alloc (oV sb mb nb pb)).heap.size ((w.alloc (oV sa false na pa)).alloc (oV sb mb nb pb)) ((w.alloc (oV sa false na pa)).alloc (oV sb mb nb pb)):=Below.refl _ _)
 all_goals (have HW:Hid (Below w.heap.size w ((w.alloc (oV sa false na pa)).alloc (oV sb mb nb pb))):=bel (bel (Below.refl _ _)))
 all_goals (go_enter Tryz.func99,Tryz.ntmps99)
 all_goals (
   go_wp2_with (first
     |(go_at_call 114;with_reducible refine (HI1.out _).mono ?_;rintro e w1 ⟨rfl,hb1⟩;replace HB:=bt2 hb1 (show Below ((w.alloc (oV sa false na pa)).alloc (oV sb mb nb pb)).heap.size ((w.alloc (oV sa false na pa)).alloc (oV sb mb nb pb)) _ from by (repeat (first|exact HB|exact Below.refl _ _|with_reducible first|refine bel ?_|refine Below.drew ?_|refine bt3 ?_)));obtain ⟨c0,c1,c2,c3,c4,c5,c6,c7⟩:=gF HB)
     |(go_at_call 114;with_reducible refine (HI2.out _).mono ?_;rintro e w1 ⟨rfl,hb1⟩;replace HB:=bt2 hb1 (show Below ((w.alloc (oV sa false na pa)).alloc (oV sb mb nb pb)).heap.size ((w.alloc (oV sa false na pa)).alloc (oV sb mb nb pb)) _ from by (repeat (first|exact HB|exact Below.refl _ _|with_reducible first|refine bel ?_|refine Below.drew ?_|refine bt3 ?_)));obtain ⟨c0,c1,c2,c3,c4,c5,c6,c7⟩:=gF HB)
     |(go_at_call 115;with_reducible refine (HS1.out _).mono ?_;rintro e w1 ⟨rfl,hb1⟩;replace HB:=bt2 hb1 (show Below ((w.alloc (oV sa false na pa)).alloc (oV sb mb nb pb)).heap.size ((w.alloc (oV sa false na pa)).alloc (oV sb mb nb pb)) _ from by (repeat (first|exact HB|exact Below.refl _ _|with_reducible first|refine bel ?_|refine Below.drew ?_|refine bt3 ?_)));obtain ⟨c0,c1,c2,c3,c4,c5,c6,c7⟩:=gF HB)
     |(go_at_call 115;with_reducible refine (HS2.out _).mono ?_;rintro e w1 ⟨rfl,hb1⟩;replace HB:=bt2 hb1 (show Below ((w.alloc (oV sa false na pa)).alloc (oV sb mb nb pb)).heap.size ((w.alloc (oV sa false na pa)).alloc (oV sb mb nb pb)) _ from by (repeat (first|exact HB|exact Below.refl _ _|with_reducible first|refine bel ?_|refine Below.drew ?_|refine bt3 ?_)));obtain ⟨c0,c1,c2,c3,c4,c5,c6,c7⟩:=gF HB)
     |(go_at_call 116;with_reducible refine (HBK.out _).mono ?_;rintro e w1 ⟨rfl,hb1⟩;replace HB:=bt2 hb1 (show Below ((w.alloc (oV sa false na pa)).alloc (oV sb mb nb pb)).heap.size ((w.alloc (oV sa false na pa)).alloc (oV sb mb nb pb)) _ from by (repeat (first|exact HB|exact Below.refl _ _|with_reducible first|refine bel ?_|refine Below.drew ?_|refine bt3 ?_)));obtain ⟨c0,c1,c2,c3,c4,c5,c6,c7⟩:=gF HB)))
 all_goals (go_ret)
 all_goals (exact ⟨rfl,HW.out.trans (HB.mono HW.out.size)⟩)
abbrev stEfl:=stEfA.1
abbrev stEfz:=stEfA.2.1
abbrev stEfg:=stEfA.2.2
theorem stEtA :
   (∀ (sa:Int) (na pa:Int) (sb:Int) (mb:Bool) (nb pb:Int) (X Y:Int) (Z:Int) (z2:Bool) (w:World),((sa == 1)=false)→((sb == 1)=false)→(∀ w,Calls Tryz.prog 114 #[.agg #[.int .u8 sa,.bool true,.int .u64 na,.int .i64 pa]] w fun e w'=>e=.returned (.bool false)∧Below w.heap.size w w')→(∀ w,Calls Tryz.prog 114 #[.agg #[.int .u8 sb,.bool mb,.int .u64 nb,.int .i64 pb]] w fun e w'=>e=.returned (.bool z2)∧Below w.heap.size w w')→(∀ w,Calls Tryz.prog 115 #[.agg #[.int .u8 sa,.bool true,.int .u64 na,.int .i64 pa]] w fun e w'=>e=.returned (.int .i64 X)∧Below w.heap.size w w')→(∀ w,Calls Tryz.prog 115 #[.agg #[.int .u8 sb,.bool mb,.int .u64 nb,.int .i64 pb]] w fun e w'=>e=.returned (.int .i64 Y)∧Below w.heap.size w w')→(∀ w,Calls Tryz.prog 116 #[.agg #[.int .u8 sa,.bool true,.int .u64 na,.int .i64 pa],.agg #[.int .u8 sb,.bool mb,.int .u64 nb,.int .i64 pb]] w fun e w'=>e=.returned (.int .i64 Z)∧Below w.heap.size w w')→(X=Y)→(-2≤Z)→(Z≤2)→(Z<0)→Calls Tryz.prog 99 #[.agg #[.int .u8 sa,.bool true,.int .u64 na,.int .i64 pa],.agg #[.int .u8 sb,.bool mb,.int .u64 nb,.int .i64 pb]] w fun e w'=>e=.returned (.int .u8 4)∧Below w.heap.size w w') ∧
   (∀ (sa:Int) (na pa:Int) (sb:Int) (mb:Bool) (nb pb:Int) (X Y:Int) (Z:Int) (z2:Bool) (w:World),((sa == 1)=false)→((sb == 1)=false)→(∀ w,Calls Tryz.prog 114 #[.agg #[.int .u8 sa,.bool true,.int .u64 na,.int .i64 pa]] w fun e w'=>e=.returned (.bool false)∧Below w.heap.size w w')→(∀ w,Calls Tryz.prog 114 #[.agg #[.int .u8 sb,.bool mb,.int .u64 nb,.int .i64 pb]] w fun e w'=>e=.returned (.bool z2)∧Below w.heap.size w w')→(∀ w,Calls Tryz.prog 115 #[.agg #[.int .u8 sa,.bool true,.int .u64 na,.int .i64 pa]] w fun e w'=>e=.returned (.int .i64 X)∧Below w.heap.size w w')→(∀ w,Calls Tryz.prog 115 #[.agg #[.int .u8 sb,.bool mb,.int .u64 nb,.int .i64 pb]] w fun e w'=>e=.returned (.int .i64 Y)∧Below w.heap.size w w')→(∀ w,Calls Tryz.prog 116 #[.agg #[.int .u8 sa,.bool true,.int .u64 na,.int .i64 pa],.agg #[.int .u8 sb,.bool mb,.int .u64 nb,.int .i64 pb]] w fun e w'=>e=.returned (.int .i64 Z)∧Below w.heap.size w w')→(X=Y)→(-2≤Z)→(Z≤2)→(Z=0)→Calls Tryz.prog 99 #[.agg #[.int .u8 sa,.bool true,.int .u64 na,.int .i64 pa],.agg #[.int .u8 sb,.bool mb,.int .u64 nb,.int .i64 pb]] w fun e w'=>e=.returned (.int .u8 3)∧Below w.heap.size w w') ∧
   (∀ (sa:Int) (na pa:Int) (sb:Int) (mb:Bool) (nb pb:Int) (X Y:Int) (Z:Int) (z2:Bool) (w:World),((sa == 1)=false)→((sb == 1)=false)→(∀ w,Calls Tryz.prog 114 #[.agg #[.int .u8 sa,.bool true,.int .u64 na,.int .i64 pa]] w fun e w'=>e=.returned (.bool false)∧Below w.heap.size w w')→(∀ w,Calls Tryz.prog 114 #[.agg #[.int .u8 sb,.bool mb,.int .u64 nb,.int .i64 pb]] w fun e w'=>e=.returned (.bool z2)∧Below w.heap.size w w')→(∀ w,Calls Tryz.prog 115 #[.agg #[.int .u8 sa,.bool true,.int .u64 na,.int .i64 pa]] w fun e w'=>e=.returned (.int .i64 X)∧Below w.heap.size w w')→(∀ w,Calls Tryz.prog 115 #[.agg #[.int .u8 sb,.bool mb,.int .u64 nb,.int .i64 pb]] w fun e w'=>e=.returned (.int .i64 Y)∧Below w.heap.size w w')→(∀ w,Calls Tryz.prog 116 #[.agg #[.int .u8 sa,.bool true,.int .u64 na,.int .i64 pa],.agg #[.int .u8 sb,.bool mb,.int .u64 nb,.int .i64 pb]] w fun e w'=>e=.returned (.int .i64 Z)∧Below w.heap.size w w')→(X=Y)→(-2≤Z)→(Z≤2)→(0<Z)→Calls Tryz.prog 99 #[.agg #[.int .u8 sa,.bool true,.int .u64 na,.int .i64 pa],.agg #[.int .u8 sb,.bool mb,.int .u64 nb,.int .i64 pb]] w fun e w'=>e=.returned (.int .u8 2)∧Below w.heap.size w w'):=by
 refine ⟨?_,?_,?_⟩
 all_goals intro sa na pa sb mb nb pb X Y Z z2 w ha hb hi1 hi2 hs1 hs2 hbk hxy hZl hZh h
 all_goals (have HI1:Hid _:=hi1)
 all_goals (have HI2:Hid _:=hi2)
 all_goals (have HS1:Hid _:=hs1)
 all_goals (have HS2:Hid _:=hs2)
 all_goals (have HBK:Hid _:=hbk)
 all_goals (clear hi1 hi2 hs1 hs2 hbk)
 all_goals (have hne:(X != Y)=false:=by simp [hxy])
 all_goals (have hZ1 : -2≤Z:=hZl)
 have h':¬ 0<Z:=by omega
 rotate_left
 subst h
 rotate_left
 have h':¬ Z<0:=by omega
 rotate_left
 all_goals (have HB:Below ((w.alloc (oV sa true na pa)).alloc (oV sb mb nb pb)).heap.size ((w.alloc (oV sa true na pa)).alloc (oV sb mb nb pb)) ((w.alloc (oV sa true na pa)).alloc (oV sb mb nb pb)):=Below.refl _ _)
 all_goals (have HW:Hid (Below w.heap.size w ((w.alloc (oV sa true na pa)).alloc (oV sb mb nb pb))):=bel (bel (Below.refl _ _)))
 all_goals (go_enter Tryz.func99,Tryz.ntmps99)
 all_goals (
   go_wp2_with (first
     |(go_at_call 114;with_reducible refine (HI1.out _).mono ?_;rintro e w1 ⟨rfl,hb1⟩;replace HB:=bt2 hb1 (show Below ((w.alloc (oV sa true na pa)).alloc (oV sb mb nb pb)).heap.size ((w.alloc (oV sa true na pa)).alloc (oV sb mb nb pb)) _ from by (repeat (first|exact HB|exact Below.refl _ _|with_reducible first|refine bel ?_|refine Below.drew ?_|refine bt3 ?_)));obtain ⟨c0,c1,c2,c3,c4,c5,c6,c7⟩:=gF HB)
     |(go_at_call 114;with_reducible refine (HI2.out _).mono ?_;rintro e w1 ⟨rfl,hb1⟩;replace HB:=bt2 hb1 (show Below ((w.alloc (oV sa true na pa)).alloc (oV sb mb nb pb)).heap.size ((w.alloc (oV sa true na pa)).alloc (oV sb mb nb pb)) _ from by (repeat (first|exact HB|exact Below.refl _ _|with_reducible first|refine bel ?_|refine Below.drew ?_|refine bt3 ?_)));obtain ⟨c0,c1,c2,c3,c4,c5,c6,c7⟩:=gF HB)
     |(go_at_call 115;with_reducible refine (HS1.out _).mono ?_;rintro e w1 ⟨rfl,hb1⟩;replace HB:=bt2 hb1 (show Below ((w.alloc (oV sa true na pa)).alloc (oV sb mb nb pb)).heap.size ((w.alloc (oV sa true na pa)).alloc (oV sb mb nb pb)) _ from by (repeat (first|exact HB|exact Below.refl _ _|with_reducible first|refine bel ?_|refine Below.drew ?_|refine bt3 ?_)));obtain ⟨c0,c1,c2,c3,c4,c5,c6,c7⟩:=gF HB)
     |(go_at_call 115;with_reducible refine (HS2.out _).mono ?_;rintro e w1 ⟨rfl,hb1⟩;replace HB:=bt2 hb1 (show Below ((w.alloc (oV sa true na pa)).alloc (oV sb mb nb pb)).heap.size ((w.alloc (oV sa true na pa)).alloc (oV sb mb nb pb)) _ from by (repeat (first|exact HB|exact Below.refl _ _|with_reducible first|refine bel ?_|refine Below.drew ?_|refine bt3 ?_)));obtain ⟨c0,c1,c2,c3,c4,c5,c6,c7⟩:=gF HB)
     |(go_at_call 116;with_reducible refine (HBK.out _).mono ?_;rintro e w1 ⟨rfl,hb1⟩;replace HB:=bt2 hb1 (show Below ((w.alloc (oV sa true na pa)).alloc (oV sb mb nb pb)).heap.size ((w.alloc (oV sa true na pa)).alloc (oV sb mb nb pb)) _ from by (repeat (first|exact HB|exact Below.refl _ _|with_reducible first|refine bel ?_|refine Below.drew ?_|refine bt3 ?_)));obtain ⟨c0,c1,c2,c3,c4,c5,c6,c7⟩:=gF HB)))
 all_goals (go_ret)
 all_goals (exact ⟨rfl,HW.out.trans (HB.mono HW.out.size)⟩)
abbrev stEtl:=stEtA.1
abbrev stEtz:=stEtA.2.1
abbrev stEtg:=stEtA.2.2
theorem st_n1 (sb:Int) (mb:Bool) (nb pb:Int) (w:World) :
   Calls Tryz.prog 99 #[.agg #[.int .u8 1,.bool false,.int .u64 0,.int .i64 0],.agg #[.int .u8 sb,.bool mb,.int .u64 nb,.int .i64 pb]] w fun e w'=>e=.returned (.int .u8 1)∧Below w.heap.size w w':=by
 go_enter Tryz.func99,Tryz.ntmps99
 go_wp2
 go_ret
 exact ⟨rfl,bel (bel (Below.refl _ _))⟩
theorem st_n2 (sa:Int) (ma:Bool) (na pa:Int) (w:World) (h:(sa == 1)=false) :
   Calls Tryz.prog 99 #[.agg #[.int .u8 sa,.bool ma,.int .u64 na,.int .i64 pa],.agg #[.int .u8 1,.bool false,.int .u64 0,.int .i64 0]] w fun e w'=>e=.returned (.int .u8 1)∧Below w.heap.size w w':=by
 go_enter Tryz.func99,Tryz.ntmps99
 go_wp2
 go_ret
 exact ⟨rfl,bel (bel (Below.refl _ _))⟩
theorem bulkE (ma mb:Bool) (w:World) :
   Calls Tryz.prog 116 #[.agg #[.int .u8 2,.bool ma,.int .u64 0,.int .i64 0],.agg #[.int .u8 2,.bool mb,.int .u64 0,.int .i64 0]] w fun e w'=>e=.returned (.int .i64 0)∧Below w.heap.size w w':=by
 go_enter Tryz.func116,Tryz.ntmps116
 go_wp2
 go_ret
 exact ⟨rfl,bel (bel (Below.refl _ _))⟩
def ps (a:Nat):Int:=if a % 2147483648=2139095040 then 2 else 3
def pn (a:Nat):Nat:=if a % 2147483648=2139095040 then 0 else rdm a
def pp (a:Nat):Int:=if a % 2147483648=2139095040 then 0 else -149+(rdk a:Int)
theorem tv_ok {a:Nat} (h:ok a=true):tv a=.agg #[.int .u8 (ps a),.bool (sg a),.int .u64 (pn a),.int .i64 (pp a)]:=by
 unfold tv ps pn pp
 rw [if_neg (by simp [h])]
 split <;> rfl
def lv (a:Nat):Int:=if a % 2147483648=0 then 0 else (if sg a then -1 else 1)*(if a % 2147483648=2139095040 then 2 else 1)
theorem lv_cases (a:Nat) (hz:a % 2147483648≠0):(sg a=false∧a % 2147483648=2139095040∧lv a=2)∨(sg a=false∧a % 2147483648≠2139095040∧lv a=1)∨(sg a=true∧a % 2147483648=2139095040∧lv a = -2)∨(sg a=true∧a % 2147483648≠2139095040∧lv a = -1):=by
 unfold lv
 rw [if_neg hz]
 by_cases hi:a % 2147483648=2139095040
 · rw [if_pos hi]
   cases sg a
   · exact Or.inl ⟨rfl,hi,rfl⟩
   · exact Or.inr (Or.inr (Or.inl ⟨rfl,hi,rfl⟩))
 · rw [if_neg hi]
   cases sg a
   · exact Or.inr (Or.inl ⟨rfl,hi,rfl⟩)
   · exact Or.inr (Or.inr (Or.inr ⟨rfl,hi,rfl⟩))
theorem rdm_zero (a:Nat):rdm a=0↔a % 2147483648=0:=by
 unfold rdm;split <;> omega
theorem isn_any (a:Nat) (_:ok a=true) (w:World) :
   Calls Tryz.prog 114 #[.agg #[.int .u8 (ps a),.bool (sg a),.int .u64 (pn a),.int .i64 (pp a)]] w fun e w'=>e=.returned (.bool (decide (a % 2147483648=0)))∧Below w.heap.size w w':=by
 unfold ps pn pp
 by_cases hi:a % 2147483648=2139095040
 · rw [if_pos hi,if_pos hi,if_pos hi,decide_eq_false (by omega)];exact isn2 _ w
 · rw [if_neg hi,if_neg hi,if_neg hi]
   by_cases hz:a % 2147483648=0
   · rw [decide_eq_true hz,(rdm_zero a).2 hz];exact isn3z _ _ w
   · rw [decide_eq_false hz]
     exact isn3 _ _ _ w (by rw [beq_eq_false_iff_ne];have:=mt (rdm_zero a).1 hz;omega)
theorem sgn_any (a:Nat) (_:ok a=true) (w:World) :
   Calls Tryz.prog 115 #[.agg #[.int .u8 (ps a),.bool (sg a),.int .u64 (pn a),.int .i64 (pp a)]] w fun e w'=>e=.returned (.int .i64 (lv a))∧Below w.heap.size w w':=by
 unfold ps pn pp lv
 by_cases hi:a % 2147483648=2139095040
 · rw [if_pos hi,if_pos hi,if_pos hi,if_pos hi,if_neg (by omega)]
   cases sg a
   · exact sg2f w
   · exact sg2t w
 · rw [if_neg hi,if_neg hi,if_neg hi,if_neg hi]
   by_cases hz:a % 2147483648=0
   · rw [if_pos hz,(rdm_zero a).2 hz];exact sg3z _ _ w
   · have hn:((rdm a:Int) == 0)=false:=by rw [beq_eq_false_iff_ne];have:=mt (rdm_zero a).1 hz;omega
     rw [if_neg hz]
     cases sg a
     · exact sg3f _ _ hn w
     · exact sg3t _ _ hn w
theorem rd_val (a:Nat):rdm a*2 ^ rdk a=val (a % 2147483648):=by
 unfold rdm rdk val
 split
 · simp
 · rw [show a % 2147483648 % 8388608=a % 8388608 by omega]
theorem bulk_fin (a b:Nat) (fa:a % 2147483648<2139095040) (fb:b % 2147483648<2139095040) (w:World) :
   Calls Tryz.prog 116 #[.agg #[.int .u8 (ps a),.bool (sg a),.int .u64 (pn a),.int .i64 (pp a)],.agg #[.int .u8 (ps b),.bool (sg b),.int .u64 (pn b),.int .i64 (pp b)]] w fun e w'=>e=.returned (.int .i64 (ag (a % 2147483648) (b % 2147483648)))∧Below w.heap.size w w':=by
 unfold ps pn pp
 rw [if_neg (by omega),if_neg (by omega),if_neg (by omega),if_neg (by omega),if_neg (by omega),if_neg (by omega)]
 obtain ⟨ka,na⟩:=rd_k fa
 obtain ⟨kb,nb⟩:=rd_k fb
 have hag:∀ X Y q:Nat,rdk a=X+q→rdk b=Y+q→ag (rdm a*2 ^ X) (rdm b*2 ^ Y)=ag (a % 2147483648) (b % 2147483648):=by
   intro X Y q h1 h2
   have e1:rdm a*2 ^ X*2 ^ q=val (a % 2147483648):=by rw [Nat.mul_assoc,←Nat.pow_add,←h1];exact rd_val a
   have e2:rdm b*2 ^ Y*2 ^ q=val (b % 2147483648):=by rw [Nat.mul_assoc,←Nat.pow_add,←h2];exact rd_val b
   have hp:=Nat.two_pow_pos q
   have l1:rdm a*2 ^ X<rdm b*2 ^ Y↔a % 2147483648<b % 2147483648:=by
     rw [←val_lt_iff (a % 2147483648) (b % 2147483648),←e1,←e2];exact (Nat.mul_lt_mul_right hp).symm
   have l2:rdm b*2 ^ Y<rdm a*2 ^ X↔b % 2147483648<a % 2147483648:=by
     rw [←val_lt_iff (b % 2147483648) (a % 2147483648),←e1,←e2];exact (Nat.mul_lt_mul_right hp).symm
   unfold ag
   split <;> split <;> (try split) <;> first|rfl|omega
 by_cases ho:(-149+(rdk b:Int)) < -149+(rdk a:Int)
 · rw [←hag (rdk a-rdk b) 0 (rdk b) (by omega) (by omega)]
   exact bulkL _ _ _ _ _ _ _ _ w na nb (by omega) (by omega) (by omega) (by omega) ho (by omega) rfl
 · rw [←hag 0 (rdk b-rdk a) (rdk a) (by omega) (by omega)]
   exact bulkG _ _ _ _ _ _ _ _ w na nb (by omega) (by omega) (by omega) (by omega) ho rfl (by omega)
theorem key_sg (a:Nat) (h:a<4294967296):key a=if sg a then -((a % 2147483648:Nat):Int) else ((a % 2147483648:Nat):Int):=by
 unfold key sg
 by_cases h':2147483648≤a
 · rw [if_neg (by omega),decide_eq_true h'];rfl
 · rw [if_pos (by omega),decide_eq_false h'];simp;omega
theorem standv_any (a b:Nat) (w:World) (ha:a<4294967296) (hb:b<4294967296) :
   Calls Tryz.prog 99 #[tv a,tv b] w fun e w'=>e=.returned (.int .u8 (fstand a b))∧Below w.heap.size w w':=by
 cases oa:ok a with
 | false=>
   have e1:fstand a b=1:=by exact fstand_nan (Or.inl oa)
   rw [e1,tv_none oa]
   cases ob:ok b with
   |false=>rw [tv_none ob];exact st_n1 _ _ _ _ w
   |true=>rw [tv_ok ob];exact st_n1 _ _ _ _ w
 |true=>
 cases ob:ok b with
 | false=>
   have e1:fstand a b=1:=by exact fstand_nan (Or.inr ob)
   rw [e1,tv_none ob,tv_ok oa]
   exact st_n2 _ _ _ _ w (by rw [beq_eq_false_iff_ne];unfold ps;split <;> omega)
 |true=>
 have hsa:(ps a == 1)=false:=by rw [beq_eq_false_iff_ne];unfold ps;split <;> omega
 have hsb:(ps b == 1)=false:=by rw [beq_eq_false_iff_ne];unfold ps;split <;> omega
 have ma:=ok_mod oa
 have mb:=ok_mod ob
 rw [fstand_key a b ha hb oa ob,tv_ok oa,tv_ok ob]
 have k1:=key_sg a ha
 have k2:=key_sg b hb
 have i1:=isn_any a oa
 have i2:=isn_any b ob
 have s1:=sgn_any a oa
 have s2:=sgn_any b ob
 have lva:lv a=if a % 2147483648=0 then 0 else (if sg a then -1 else 1)*(if a % 2147483648=2139095040 then 2 else 1):=rfl
 have lvb:lv b=if b % 2147483648=0 then 0 else (if sg b then -1 else 1)*(if b % 2147483648=2139095040 then 2 else 1):=rfl
 by_cases za:a % 2147483648=0
 · rw [decide_eq_true za] at i1
   by_cases zb:b % 2147483648=0
   · rw [decide_eq_true zb] at i2
     have e:key a=0∧key b=0:=by rw [k1,k2,za,zb];exact ⟨by split <;> rfl,by split <;> rfl⟩
     rw [if_neg (by omega),if_pos (by omega)]
     exact stZ _ _ _ _ _ _ _ _ _ _ w hsa hsb i1 i2 s1 s2
   · rw [decide_eq_false zb] at i2
     rw [if_pos za] at lva
     rw [if_neg zb] at lvb
     have hka:key a=0:=by rw [k1,za];split <;> rfl
     by_cases hs:sg b=true
     · rw [hs] at k2 lvb
       simp only [if_true] at k2 lvb
       have hl:lv b<lv a:=by rw [lva,lvb];split <;> omega
       rw [if_neg (by omega),if_neg (by omega)]
       exact stGb _ _ _ _ _ _ _ _ _ _ w hsa hsb i1 i2 s1 s2 hl
     · have hs':sg b=false:=by simpa using hs
       rw [hs'] at k2 lvb
       simp only [Bool.false_eq_true,if_false] at k2 lvb
       have hl:lv a<lv b:=by rw [lva,lvb];split <;> omega
       rw [if_pos (by omega)]
       exact stLb _ _ _ _ _ _ _ _ _ _ w hsa hsb i1 i2 s1 s2 hl
 · rw [decide_eq_false za] at i1
   rw [if_neg za] at lva
   rcases Int.lt_trichotomy (lv a) (lv b) with hl|hl|hl
   · have hk:key a<key b:=by
       rw [k1,k2]
       rw [lva,lvb] at hl
       revert hl
       cases sg a <;> cases sg b <;> simp only [Bool.false_eq_true,if_false,if_true] <;> (repeat' split) <;> omega
     rw [if_pos hk]
     exact stLa _ _ _ _ _ _ _ _ _ _ _ w hsa hsb i1 i2 s1 s2 hl
   · have zb:b % 2147483648≠0:=by
       intro zb
       rcases lv_cases a za with ⟨_,_,e⟩|⟨_,_,e⟩|⟨_,_,e⟩|⟨_,_,e⟩ <;> rw [e,lvb,if_pos zb] at hl <;> omega
     have hsg:sg a=sg b∧(a % 2147483648=2139095040↔b % 2147483648=2139095040):=by
       rcases lv_cases a za with ⟨x1,x2,x3⟩|⟨x1,x2,x3⟩|⟨x1,x2,x3⟩|⟨x1,x2,x3⟩ <;> rcases lv_cases b zb with ⟨y1,y2,y3⟩|⟨y1,y2,y3⟩|⟨y1,y2,y3⟩|⟨y1,y2,y3⟩ <;> first|exact ⟨x1.trans y1.symm,⟨fun h=>by omega,fun h=>by omega⟩⟩|omega
     obtain ⟨hsg,hinf⟩:=hsg
     by_cases hi:a % 2147483648=2139095040
     · have hj:=hinf.1 hi
       have e:key a=key b:=by rw [k1,k2,hsg,hi,hj]
       rw [if_neg (by omega),if_pos e]
       have hbk:∀ w,Calls Tryz.prog 116 #[.agg #[.int .u8 (ps a),.bool (sg a),.int .u64 (pn a),.int .i64 (pp a)],.agg #[.int .u8 (ps b),.bool (sg b),.int .u64 (pn b),.int .i64 (pp b)]] w fun e w'=>e=.returned (.int .i64 0)∧Below w.heap.size w w':=by
         intro w
         unfold ps pn pp
         rw [if_pos hi,if_pos hi,if_pos hi,if_pos hj,if_pos hj,if_pos hj]
         exact bulkE _ _ w
       cases hm:sg a with
       |false=>rw [hm] at i1 s1 hbk;exact stEfz _ _ _ _ _ _ _ _ _ 0 _ w hsa hsb i1 i2 s1 s2 hbk hl (by omega) (by omega) rfl
       |true=>rw [hm] at i1 s1 hbk;exact stEtz _ _ _ _ _ _ _ _ _ 0 _ w hsa hsb i1 i2 s1 s2 hbk hl (by omega) (by omega) rfl
     · have hbk:=bulk_fin a b (by omega) (by omega)
       rcases Nat.lt_trichotomy (a % 2147483648) (b % 2147483648) with hc|hc|hc
       · rw [ag_lt hc] at hbk
         cases hm:sg a with
         | false=>
           rw [hm] at i1 s1 hbk k1 hsg
           rw [←hsg] at k2
           simp only [Bool.false_eq_true,if_false] at k1 k2
           rw [if_pos (by omega)]
           exact stEfl _ _ _ _ _ _ _ _ _ (-1) _ w hsa hsb i1 i2 s1 s2 hbk hl (by omega) (by omega) (by omega)
         | true=>
           rw [hm] at i1 s1 hbk k1 hsg
           rw [←hsg] at k2
           simp only [if_true] at k1 k2
           rw [if_neg (by omega),if_neg (by omega)]
           exact stEtl _ _ _ _ _ _ _ _ _ (-1) _ w hsa hsb i1 i2 s1 s2 hbk hl (by omega) (by omega) (by omega)
       · rw [hc,ag_eq] at hbk
         have e:key a=key b:=by rw [k1,k2,hsg,hc]
         rw [if_neg (by omega),if_pos e]
         cases hm:sg a with
         |false=>rw [hm] at i1 s1 hbk;exact stEfz _ _ _ _ _ _ _ _ _ 0 _ w hsa hsb i1 i2 s1 s2 hbk hl (by omega) (by omega) rfl
         |true=>rw [hm] at i1 s1 hbk;exact stEtz _ _ _ _ _ _ _ _ _ 0 _ w hsa hsb i1 i2 s1 s2 hbk hl (by omega) (by omega) rfl
       · rw [ag_gt hc] at hbk
         cases hm:sg a with
         | false=>
           rw [hm] at i1 s1 hbk k1 hsg
           rw [←hsg] at k2
           simp only [Bool.false_eq_true,if_false] at k1 k2
           rw [if_neg (by omega),if_neg (by omega)]
           exact stEfg _ _ _ _ _ _ _ _ _ 1 _ w hsa hsb i1 i2 s1 s2 hbk hl (by omega) (by omega) (by omega)
         | true=>
           rw [hm] at i1 s1 hbk k1 hsg
           rw [←hsg] at k2
           simp only [if_true] at k1 k2
           rw [if_pos (by omega)]
           exact stEtg _ _ _ _ _ _ _ _ _ 1 _ w hsa hsb i1 i2 s1 s2 hbk hl (by omega) (by omega) (by omega)
   · have hk:key b<key a:=by
       rw [k1,k2]
       rw [lva,lvb] at hl
       revert hl
       cases sg a <;> cases sg b <;> simp only [Bool.false_eq_true,if_false,if_true] <;> (repeat' split) <;> omega
     rw [if_neg (by omega),if_neg (by omega)]
     exact stGa _ _ _ _ _ _ _ _ _ _ _ w hsa hsb i1 i2 s1 s2 hl
theorem stands_any (a b:Nat) (w:World) (ha:a<4294967296) (hb:b<4294967296) :
   Calls Tryz.prog 82 #[.int .u32 a,.int .u32 b] w fun e w'=>e=.returned (.int .u8 (fstand a b))∧Below w.heap.size w w':=by
 have HB:Below w.heap.size w w:=Below.refl _ _
 go_enter Tryz.func82,Tryz.ntmps82
 go_wp2_with (first
   |(go_at_call 100;with_reducible refine (take_any a _ ha).mono ?_;rintro e w1 ⟨rfl,h1⟩;replace HB:Below w.heap.size w w1:=bt2 h1 (by apply_rules [HB,Below.refl,bel,Below.drew,bt3]))
   |(go_at_call 100;with_reducible refine (take_any b _ hb).mono ?_;rintro e w1 ⟨rfl,h1⟩;replace HB:Below w.heap.size w w1:=bt2 h1 (by apply_rules [HB,Below.refl,bel,Below.drew,bt3]))
   |(go_at_call 99;with_reducible refine (standv_any a b _ ha hb).mono ?_;rintro e w1 ⟨rfl,h1⟩;replace HB:Below w.heap.size w w1:=bt2 h1 (by apply_rules [HB,Below.refl,bel,Below.drew,bt3])))
 go_ret
 exact ⟨rfl,HB⟩
end Go.Proofs.YtibhlcfligfhdaaGreat
