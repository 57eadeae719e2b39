import Derived.Test.YtibhlcfligfhdaaGreatCPKp
import Derived.Laws.StructEq
namespace Go.Proofs.YtibhlcfligfhdaaGreat
set_option maxHeartbeats 1000000
open Go.RowKit
set_option maxRecDepth 100000
@[go_sem] theorem bV1 (s:Int) (w:World):(Instr.build 133 #[(0,.int .u8 s)]).run Tryz.prog w=.ok (.agg #[.int .u8 s,.bool false,.int .u64 0,.int .i64 0]) w:=run_build w 133 _ _ (by kernel_rfl)
@[go_sem] theorem bV2 (s:Int) (m:Bool) (w:World):(Instr.build 133 #[(0,.int .u8 s),(1,.bool m)]).run Tryz.prog w=.ok (.agg #[.int .u8 s,.bool m,.int .u64 0,.int .i64 0]) w:=run_build w 133 _ _ (by kernel_rfl)
@[go_sem] theorem bV4 (s:Int) (m:Bool) (n p:Int) (w:World):(Instr.build 133 #[(0,.int .u8 s),(1,.bool m),(2,.int .u64 n),(3,.int .i64 p)]).run Tryz.prog w=.ok (.agg #[.int .u8 s,.bool m,.int .u64 n,.int .i64 p]) w:=run_build w 133 _ _ (by kernel_rfl)
@[go_sem] theorem bF3 (a b c:Int) (w:World):(Instr.build 140 #[(0,.int .i64 a),(1,.int .i64 b),(2,.int .i64 c)]).run Tryz.prog w=.ok (.agg #[.int .i64 a,.int .i64 b,.int .i64 c]) w:=run_build w 140 _ _ (by kernel_rfl)
theorem form_any (w:World) :
   Calls Tryz.prog 106 #[] w fun e w'=>e=.returned (.agg #[.int .i64 24,.int .i64 (-149),.int .i64 104])∧w'=w.alloc (.cells #[.int .i64 24,.int .i64 (-149),.int .i64 104] 140):=by
 go_enter Tryz.func106,Tryz.ntmps106
 go_wp2
 refine bodyPost_ret (v:=.agg #[.int .i64 24,.int .i64 (-149),.int .i64 104]) (by simp [results,Tryz.f106,go_sem]) rfl ?_
 exact ⟨rfl,rfl⟩
theorem vnone_any (w:World) :
   Calls Tryz.prog 144 #[] w fun e w'=>e=.returned (.agg #[.int .u8 1,.bool false,.int .u64 0,.int .i64 0])∧w'=w.alloc (.cells #[.int .u8 1,.bool false,.int .u64 0,.int .i64 0] 133):=by
 go_enter Tryz.func144,Tryz.ntmps144
 go_wp2
 refine bodyPost_ret (v:=.agg #[.int .u8 1,.bool false,.int .u64 0,.int .i64 0]) (by simp [results,Tryz.f144,go_sem]) rfl ?_
 exact ⟨rfl,rfl⟩
theorem vendless_any (m:Bool) (w:World) :
   Calls Tryz.prog 145 #[.bool m] w fun e w'=>e=.returned (.agg #[.int .u8 2,.bool m,.int .u64 0,.int .i64 0])∧w'=w.alloc (.cells #[.int .u8 2,.bool m,.int .u64 0,.int .i64 0] 133):=by
 go_enter Tryz.func145,Tryz.ntmps145
 go_wp2
 refine bodyPost_ret (v:=.agg #[.int .u8 2,.bool m,.int .u64 0,.int .i64 0]) (by simp [results,Tryz.f145,go_sem]) rfl ?_
 exact ⟨rfl,rfl⟩
theorem most_any (w:World) :
   Calls Tryz.prog 142 #[.agg #[.int .i64 24,.int .i64 (-149),.int .i64 104]] w fun e w'=>e=.returned (.int .i64 255)∧w'=w.alloc (.cells #[.int .i64 24,.int .i64 (-149),.int .i64 104] 140):=by
 go_enter Tryz.func142,Tryz.ntmps142
 go_wp2
 go_ret
 exact ⟨rfl,rfl⟩
theorem bitsof_any (w:World) :
   Calls Tryz.prog 143 #[.int .i64 255] w fun e w'=>e=.returned (.int .i64 8)∧w'=w:=by
 go_enter Tryz.func143,Tryz.ntmps143
 go_wp2
 go_loop [0,3] (fun x n=>∃ k:Nat,k≤8∧x=.int .i64 ((255 / 2 ^ k:Nat):Int)∧n=.int .i64 (k:Int)) (fun _ n=>8-(intOf n).toNat)
 case atStart=>exact ⟨0,by decide,rfl,rfl⟩
 case round=>
   obtain ⟨k,hk,rfl,rfl⟩:=hrel
   have:k=0∨k=1∨k=2∨k=3∨k=4∨k=5∨k=6∨k=7∨k=8:=by omega
   rcases this with rfl|rfl|rfl|rfl|rfl|rfl|rfl|rfl|rfl
   iterate 8
     · go_wp2
       go_round
       case rel=>exact ⟨_,by decide,rfl,rfl⟩
       case measure=>decide
   · go_wp2
     go_ret
     exact ⟨rfl,rfl⟩
theorem b64_and (n:Nat) (h:n<18446744073709551616):bits .and .u64 (n:Int) 255=((n % 256:Nat):Int):=by
 have:=u64_and_nat n 255 h (by omega)
 rw [show n &&& 255=n % 256 from Nat.and_two_pow_sub_one_eq_mod n 8] at this
 exact this
theorem b64_frac (n:Nat) (h:n<18446744073709551616):bits .and .u64 (n:Int) 8388607=((n % 8388608:Nat):Int):=by
 have:=u64_and_nat n 8388607 h (by omega)
 rw [show n &&& 8388607=n % 8388608 from Nat.and_two_pow_sub_one_eq_mod n 23] at this
 exact this
theorem b64_one (n:Nat) (h:n<18446744073709551616):bits .and .u64 (n:Int) 1=((n % 2:Nat):Int):=by
 have:=u64_and_nat n 1 h (by omega)
 rw [show n &&& 1=n % 2 from Nat.and_two_pow_sub_one_eq_mod n 1] at this
 exact this
def sg (a:Nat):Bool:=decide (2147483648≤a)
theorem open_none (a:Nat) (w:World) (h:a<4294967296) (hn:2139095040<a % 2147483648) :
   Calls Tryz.prog 117 #[.agg #[.int .i64 24,.int .i64 (-149),.int .i64 104],.int .u64 a] w fun e w'=>e=.returned (.agg #[.int .u8 1,.bool false,.int .u64 0,.int .i64 0])∧∃ o0 o1 o2 o3 o4 o5,w'=((((((w.alloc o0).alloc o1).alloc o2).alloc o3).alloc o4).alloc o5):=by
 have h1:bits .and .u64 ((a:Int) / 8388608) 255=255:=by
   have:=b64_and (a / 8388608) (by omega)
   rw [Int.natCast_ediv,show a / 8388608 % 256=255 by omega] at this
   exact this
 have h2:=b64_frac a (by omega)
 have h3:bits .and .u64 ((a:Int) / 8388608 / 256) 1=((a / 2147483648:Nat):Int):=by
   have:=b64_one (a / 8388608 / 256) (by omega)
   rw [Int.natCast_ediv,Int.natCast_ediv,show a / 8388608 / 256 % 2=a / 2147483648 by omega] at this
   exact this
 have hs:((a:Int) / 2147483648 == 1)=sg a:=by
   unfold sg
   by_cases h':2147483648≤a
   · rw [decide_eq_true h',show (a:Int) / 2147483648=1 by omega];rfl
   · rw [decide_eq_false h',show (a:Int) / 2147483648=0 by omega];rfl
 have g1:(((a % 8388608:Nat):Int) != 0)=true:=by simp;omega
 go_enter Tryz.func117,Tryz.ntmps117
 go_wp2_with (first
   |(go_at_call 142;refine (most_any _).mono ?_;rintro e wq ⟨rfl,hq⟩;subst wq)
   |(go_at_call 143;refine (bitsof_any _).mono ?_;rintro e wq ⟨rfl,hq⟩;subst wq)
   |(go_at_call 144;refine (vnone_any _).mono ?_;rintro e wq ⟨rfl,hq⟩;subst wq))
 refine bodyPost_ret (v:=.agg #[.int .u8 1,.bool false,.int .u64 0,.int .i64 0]) (by simp [results,Tryz.f117,go_sem]) rfl ?_
 exact ⟨rfl,_,_,_,_,_,_,rfl⟩
theorem open_endless (a:Nat) (w:World) (h:a<4294967296) (hn:a % 2147483648=2139095040) :
   Calls Tryz.prog 117 #[.agg #[.int .i64 24,.int .i64 (-149),.int .i64 104],.int .u64 a] w fun e w'=>e=.returned (.agg #[.int .u8 2,.bool (sg a),.int .u64 0,.int .i64 0])∧∃ o0 o1 o2 o3 o4 o5 o6,w'=(((((((w.alloc o0).alloc o1).alloc o2).alloc o3).alloc o4).alloc o5).alloc o6):=by
 have h1:bits .and .u64 ((a:Int) / 8388608) 255=255:=by
   have:=b64_and (a / 8388608) (by omega)
   rw [Int.natCast_ediv,show a / 8388608 % 256=255 by omega] at this
   exact this
 have h2:=b64_frac a (by omega)
 have h3:bits .and .u64 ((a:Int) / 8388608 / 256) 1=((a / 2147483648:Nat):Int):=by
   have:=b64_one (a / 8388608 / 256) (by omega)
   rw [Int.natCast_ediv,Int.natCast_ediv,show a / 8388608 / 256 % 2=a / 2147483648 by omega] at this
   exact this
 have hs:((a:Int) / 2147483648 == 1)=sg a:=by
   unfold sg
   by_cases h':2147483648≤a
   · rw [decide_eq_true h',show (a:Int) / 2147483648=1 by omega];rfl
   · rw [decide_eq_false h',show (a:Int) / 2147483648=0 by omega];rfl
 rw [show a % 8388608=0 by omega] at h2
 go_enter Tryz.func117,Tryz.ntmps117
 go_wp2_with (first
   |(go_at_call 142;refine (most_any _).mono ?_;rintro e wq ⟨rfl,hq⟩;subst wq)
   |(go_at_call 143;refine (bitsof_any _).mono ?_;rintro e wq ⟨rfl,hq⟩;subst wq)
   |(go_at_call 145;refine (vendless_any _ _).mono ?_;rintro e wq ⟨rfl,hq⟩;subst wq))
 refine bodyPost_ret (v:=.agg #[.int .u8 2,.bool (sg a),.int .u64 0,.int .i64 0]) (by simp [results,Tryz.f117,go_sem]) rfl ?_
 exact ⟨rfl,_,_,_,_,_,_,_,rfl⟩
theorem open_small (a:Nat) (w:World) (h:a<4294967296) (hn:a % 2147483648<8388608) :
   Calls Tryz.prog 117 #[.agg #[.int .i64 24,.int .i64 (-149),.int .i64 104],.int .u64 a] w fun e w'=>e=.returned (.agg #[.int .u8 3,.bool (sg a),.int .u64 ((a % 2147483648:Nat):Int),.int .i64 (-149)])∧∃ o0 o1 o2 o3 o4 o5,w'=((((((w.alloc o0).alloc o1).alloc o2).alloc o3).alloc o4).alloc o5):=by
 have h1:bits .and .u64 ((a:Int) / 8388608) 255=0:=by
   have:=b64_and (a / 8388608) (by omega)
   rw [Int.natCast_ediv,show a / 8388608 % 256=0 by omega] at this
   exact this
 have h2:=b64_frac a (by omega)
 have h3:bits .and .u64 ((a:Int) / 8388608 / 256) 1=((a / 2147483648:Nat):Int):=by
   have:=b64_one (a / 8388608 / 256) (by omega)
   rw [Int.natCast_ediv,Int.natCast_ediv,show a / 8388608 / 256 % 2=a / 2147483648 by omega] at this
   exact this
 have hs:((a:Int) / 2147483648 == 1)=sg a:=by
   unfold sg
   by_cases h':2147483648≤a
   · rw [decide_eq_true h',show (a:Int) / 2147483648=1 by omega];rfl
   · rw [decide_eq_false h',show (a:Int) / 2147483648=0 by omega];rfl
 rw [show a % 8388608=a % 2147483648 by omega] at h2
 go_enter Tryz.func117,Tryz.ntmps117
 go_wp2_with (first
   |(go_at_call 142;refine (most_any _).mono ?_;rintro e wq ⟨rfl,hq⟩;subst wq)
   |(go_at_call 143;refine (bitsof_any _).mono ?_;rintro e wq ⟨rfl,hq⟩;subst wq))
 refine bodyPost_ret (v:=.agg #[.int .u8 3,.bool (sg a),.int .u64 ((a % 2147483648:Nat):Int),.int .i64 (-149)]) (by simp [results,Tryz.f117,go_sem]) rfl ?_
 exact ⟨rfl,_,_,_,_,_,_,rfl⟩
theorem open_norm (a:Nat) (w:World) (h:a<4294967296) (hn:8388608≤a % 2147483648) (hn2:a % 2147483648<2139095040) :
   Calls Tryz.prog 117 #[.agg #[.int .i64 24,.int .i64 (-149),.int .i64 104],.int .u64 a] w fun e w'=>e=.returned (.agg #[.int .u8 3,.bool (sg a),.int .u64 ((8388608+a % 8388608:Nat):Int),.int .i64 (-149+((a % 2147483648 / 8388608-1:Nat):Int))])∧∃ o0 o1 o2 o3 o4 o5,w'=((((((w.alloc o0).alloc o1).alloc o2).alloc o3).alloc o4).alloc o5):=by
 obtain ⟨E,hE⟩:∃ E,a % 2147483648 / 8388608=E+1:=⟨a % 2147483648 / 8388608-1,by omega⟩
 have h1:bits .and .u64 ((a:Int) / 8388608) 255=((E+1:Nat):Int):=by
   have:=b64_and (a / 8388608) (by omega)
   rw [Int.natCast_ediv,show a / 8388608 % 256=E+1 by omega] at this
   exact this
 have hE2:E<254:=by omega
 rw [show a % 2147483648 / 8388608-1=E by omega,show ((8388608+a % 8388608:Nat):Int)=((a % 8388608:Nat):Int)+8388608 by omega]
 have hF:a % 8388608<8388608:=by omega
 have g1:(((E+1:Nat):Int) == 255)=false:=by simp;omega
 have g2:(((E+1:Nat):Int) == 0)=false:=by simp;omega
 have h2:=b64_frac a (by omega)
 have h3:bits .and .u64 ((a:Int) / 8388608 / 256) 1=((a / 2147483648:Nat):Int):=by
   have:=b64_one (a / 8388608 / 256) (by omega)
   rw [Int.natCast_ediv,Int.natCast_ediv,show a / 8388608 / 256 % 2=a / 2147483648 by omega] at this
   exact this
 have hs:((a:Int) / 2147483648 == 1)=sg a:=by
   unfold sg
   by_cases h':2147483648≤a
   · rw [decide_eq_true h',show (a:Int) / 2147483648=1 by omega];rfl
   · rw [decide_eq_false h',show (a:Int) / 2147483648=0 by omega];rfl
 generalize a % 8388608=G at *
 go_enter Tryz.func117,Tryz.ntmps117
 go_wp2_with (first
   |(go_at_call 142;refine (most_any _).mono ?_;rintro e wq ⟨rfl,hq⟩;subst wq)
   |(go_at_call 143;refine (bitsof_any _).mono ?_;rintro e wq ⟨rfl,hq⟩;subst wq))
 refine bodyPost_ret (v:=.agg #[.int .u8 3,.bool (sg a),.int .u64 ((G:Int)+8388608),.int .i64 (-149+(E:Int))]) (by simp [results,Tryz.f117,go_sem];omega) rfl ?_
 exact ⟨rfl,_,_,_,_,_,_,rfl⟩
def wrd (m:Bool) (r:Nat):Nat:=(if m then 2147483648 else 0)+r
def rdm (a:Nat):Nat:=if a % 2147483648<8388608 then a % 2147483648 else 8388608+a % 8388608
def rdk (a:Nat):Nat:=if a % 2147483648<8388608 then 0 else a % 2147483648 / 8388608-1
theorem rd_rung (a:Nat):a % 2147483648=rdk a*8388608+rdm a∧rdm a<16777216∧(rdk a=0∨8388608≤rdm a):=by
 unfold rdm rdk
 split
 · exact ⟨by omega,by omega,Or.inl rfl⟩
 · exact ⟨by omega,by omega,Or.inr (by omega)⟩
theorem bel {a w:World} {o:Obj} (h:Below a.heap.size a w):Below a.heap.size a (w.alloc o):=h.alloc h.size o
theorem wrd_sg (a:Nat) (h:a<4294967296):wrd (sg a) (a % 2147483648)=a:=by
 unfold wrd sg
 by_cases h':2147483648≤a
 · rw [decide_eq_true h'];simp;omega
 · rw [decide_eq_false h'];simp;omega
theorem take_none (a:Nat) (w:World) (h:a<4294967296) (hn:ok a=false) :
   Calls Tryz.prog 100 #[.int .u32 a] w fun e w'=>e=.returned (.agg #[.int .u8 1,.bool false,.int .u64 0,.int .i64 0])∧Below w.heap.size w w':=by
 have hm:2139095040<a % 2147483648:=by simpa [ok] using hn
 go_enter Tryz.func100,Tryz.ntmps100
 go_wp2_with (first
   |(go_at_call 106;refine (form_any _).mono ?_;rintro e wq ⟨rfl,hq⟩;subst wq)
   |(go_at_call 117;refine (open_none _ _ h hm).mono ?_;rintro e wq ⟨rfl,o0,o1,o2,o3,o4,o5,hq⟩;subst wq))
 refine bodyPost_ret (v:=.agg #[.int .u8 1,.bool false,.int .u64 0,.int .i64 0]) (by simp [results,Tryz.f100,go_sem]) rfl ?_
 exact ⟨rfl,by repeat (first|exact Below.refl _ _|refine bel ?_)⟩
theorem take_endless (a:Nat) (w:World) (h:a<4294967296) (hm:a % 2147483648=2139095040) :
   Calls Tryz.prog 100 #[.int .u32 a] w fun e w'=>e=.returned (.agg #[.int .u8 2,.bool (sg a),.int .u64 0,.int .i64 0])∧Below w.heap.size w w':=by
 go_enter Tryz.func100,Tryz.ntmps100
 go_wp2_with (first
   |(go_at_call 106;refine (form_any _).mono ?_;rintro e wq ⟨rfl,hq⟩;subst wq)
   |(go_at_call 117;refine (open_endless _ _ h hm).mono ?_;rintro e wq ⟨rfl,o0,o1,o2,o3,o4,o5,o6,hq⟩;subst wq))
 refine bodyPost_ret (v:=.agg #[.int .u8 2,.bool (sg a),.int .u64 0,.int .i64 0]) (by simp [results,Tryz.f100,go_sem]) rfl ?_
 exact ⟨rfl,by repeat (first|exact Below.refl _ _|refine bel ?_)⟩
theorem open_fin (a:Nat) (w:World) (h:a<4294967296) (hm:a % 2147483648<2139095040) :
   Calls Tryz.prog 117 #[.agg #[.int .i64 24,.int .i64 (-149),.int .i64 104],.int .u64 a] w fun e w'=>e=.returned (.agg #[.int .u8 3,.bool (sg a),.int .u64 (rdm a),.int .i64 (-149+(rdk a:Int))])∧∃ o0 o1 o2 o3 o4 o5,w'=(((((w.alloc o0).alloc o1).alloc o2).alloc o3).alloc o4).alloc o5:=by
 unfold rdm rdk
 by_cases hs:a % 2147483648<8388608
 · rw [if_pos hs,if_pos hs];exact open_small a w h hs
 · rw [if_neg hs,if_neg hs];exact open_norm a w h (by omega) hm
theorem take_fin (a:Nat) (w:World) (h:a<4294967296) (hm:a % 2147483648<2139095040) :
   Calls Tryz.prog 100 #[.int .u32 a] w fun e w'=>e=.returned (.agg #[.int .u8 3,.bool (sg a),.int .u64 (rdm a),.int .i64 (-149+(rdk a:Int))])∧Below w.heap.size w w':=by
 go_enter Tryz.func100,Tryz.ntmps100
 go_wp2_with (first
   |(go_at_call 106;refine (form_any _).mono ?_;rintro e wq ⟨rfl,hq⟩;subst wq)
   |(go_at_call 117;refine (open_fin _ _ h hm).mono ?_;rintro e wq ⟨rfl,o0,o1,o2,o3,o4,o5,hq⟩;subst wq))
 refine bodyPost_ret (v:=.agg #[.int .u8 3,.bool (sg a),.int .u64 (rdm a),.int .i64 (-149+(rdk a:Int))]) (by simp [results,Tryz.f100,go_sem]) rfl ?_
 exact ⟨rfl,by repeat (first|exact Below.refl _ _|refine bel ?_)⟩
/-! a value laid down -/
theorem b64_or (i x y:Nat) (hx:x % 2 ^ i=0) (hy:y<2 ^ i) (h:x+y<18446744073709551616):bits .or .u64 (x:Int) (y:Int)=((x+y:Nat):Int):=by
 have:=u64_or_nat x y (by omega) (by omega)
 rwa [nat_join i x y hx hy] at this
end Go.Proofs.YtibhlcfligfhdaaGreat
