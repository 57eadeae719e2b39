import Derived.Test.YtibhlcfligfhdaaGreatCITab
import Derived.Test.YtibhlcfligfhdaaGreatCABinA
import Derived.Test.YtibhlcfligfhdaaGreatCAURx
import Derived.Test.YtibhlcfligfhdaaGreatCSRtA
import Derived.Laws.AppendOwnNone
import Derived.Test.YtibhlcfligfhdaaGreatRows
import Derived.WalkKit
import Derived.Laws.BitsAllLaws
import Derived.Deep.QuietTactic
import Derived.BigQuiet
import Derived.WalkSmall
namespace Go.Proofs.YtibhlcfligfhdaaGreat
set_option maxHeartbeats 40000000
open Go.RowKit
set_option maxRecDepth 100000
theorem btwH {a W w1:World} (h:Below W.heap.size W w1) (h':Below a.heap.size a W):Below a.heap.size a w1:=h'.trans (h.mono h'.size)
theorem rhA :
   (∀ (a b:Nat) (x y:Int) (w:World),(∀ w,Calls Tryz.prog 80 #[.int .u32 a] w fun e w'=>e=.returned (.int .i64 x)∧w'=w)→(∀ w,Calls Tryz.prog 80 #[.int .u32 b] w fun e w'=>e=.returned (.int .i64 y)∧w'=w)→Calls Tryz.prog 71 #[.int .u8 13,.int .u32 a,.int .u32 b] w fun e w'=>e=.returned (.tuple #[.bool (decide (a=b)),.int .i64 0])∧w'=w) ∧
   (∀ (a b:Nat) (x y:Int) (w:World),(∀ w,Calls Tryz.prog 80 #[.int .u32 a] w fun e w'=>e=.returned (.int .i64 x)∧w'=w)→(∀ w,Calls Tryz.prog 80 #[.int .u32 b] w fun e w'=>e=.returned (.int .i64 y)∧w'=w)→Calls Tryz.prog 71 #[.int .u8 14,.int .u32 a,.int .u32 b] w fun e w'=>e=.returned (.tuple #[.bool (decide (a≠b)),.int .i64 0])∧w'=w) ∧
   (∀ (a b:Nat) (x y:Int) (w:World),(∀ w,Calls Tryz.prog 80 #[.int .u32 a] w fun e w'=>e=.returned (.int .i64 x)∧w'=w)→(∀ w,Calls Tryz.prog 80 #[.int .u32 b] w fun e w'=>e=.returned (.int .i64 y)∧w'=w)→Calls Tryz.prog 71 #[.int .u8 15,.int .u32 a,.int .u32 b] w fun e w'=>e=.returned (.tuple #[.bool (decide (x<y)),.int .i64 0])∧w'=w) ∧
   (∀ (a b:Nat) (x y:Int) (w:World),(∀ w,Calls Tryz.prog 80 #[.int .u32 a] w fun e w'=>e=.returned (.int .i64 x)∧w'=w)→(∀ w,Calls Tryz.prog 80 #[.int .u32 b] w fun e w'=>e=.returned (.int .i64 y)∧w'=w)→Calls Tryz.prog 71 #[.int .u8 16,.int .u32 a,.int .u32 b] w fun e w'=>e=.returned (.tuple #[.bool (decide (x≤y)),.int .i64 0])∧w'=w) ∧
   (∀ (a b:Nat) (x y:Int) (w:World),(∀ w,Calls Tryz.prog 80 #[.int .u32 a] w fun e w'=>e=.returned (.int .i64 x)∧w'=w)→(∀ w,Calls Tryz.prog 80 #[.int .u32 b] w fun e w'=>e=.returned (.int .i64 y)∧w'=w)→Calls Tryz.prog 71 #[.int .u8 17,.int .u32 a,.int .u32 b] w fun e w'=>e=.returned (.tuple #[.bool (decide (y<x)),.int .i64 0])∧w'=w) ∧
   (∀ (a b:Nat) (x y:Int) (w:World),(∀ w,Calls Tryz.prog 80 #[.int .u32 a] w fun e w'=>e=.returned (.int .i64 x)∧w'=w)→(∀ w,Calls Tryz.prog 80 #[.int .u32 b] w fun e w'=>e=.returned (.int .i64 y)∧w'=w)→Calls Tryz.prog 71 #[.int .u8 18,.int .u32 a,.int .u32 b] w fun e w'=>e=.returned (.tuple #[.bool (decide (y≤x)),.int .i64 0])∧w'=w) ∧
   (∀ (a b:Nat) (x y:Int) (w:World),(∀ w,Calls Tryz.prog 80 #[.int .u32 a] w fun e w'=>e=.returned (.int .i64 x)∧w'=w)→(∀ w,Calls Tryz.prog 80 #[.int .u32 b] w fun e w'=>e=.returned (.int .i64 y)∧w'=w)→Calls Tryz.prog 71 #[.int .u8 19,.int .u32 a,.int .u32 b] w fun e w'=>e=.returned (.tuple #[.bool (decide (a<b)),.int .i64 0])∧w'=w) ∧
   (∀ (a b:Nat) (x y:Int) (w:World),(∀ w,Calls Tryz.prog 80 #[.int .u32 a] w fun e w'=>e=.returned (.int .i64 x)∧w'=w)→(∀ w,Calls Tryz.prog 80 #[.int .u32 b] w fun e w'=>e=.returned (.int .i64 y)∧w'=w)→Calls Tryz.prog 71 #[.int .u8 20,.int .u32 a,.int .u32 b] w fun e w'=>e=.returned (.tuple #[.bool (decide (a≤b)),.int .i64 0])∧w'=w) ∧
   (∀ (a b:Nat) (x y:Int) (w:World),(∀ w,Calls Tryz.prog 80 #[.int .u32 a] w fun e w'=>e=.returned (.int .i64 x)∧w'=w)→(∀ w,Calls Tryz.prog 80 #[.int .u32 b] w fun e w'=>e=.returned (.int .i64 y)∧w'=w)→Calls Tryz.prog 71 #[.int .u8 21,.int .u32 a,.int .u32 b] w fun e w'=>e=.returned (.tuple #[.bool (decide (b<a)),.int .i64 0])∧w'=w) ∧
   (∀ (a b:Nat) (x y:Int) (w:World),(∀ w,Calls Tryz.prog 80 #[.int .u32 a] w fun e w'=>e=.returned (.int .i64 x)∧w'=w)→(∀ w,Calls Tryz.prog 80 #[.int .u32 b] w fun e w'=>e=.returned (.int .i64 y)∧w'=w)→Calls Tryz.prog 71 #[.int .u8 22,.int .u32 a,.int .u32 b] w fun e w'=>e=.returned (.tuple #[.bool (decide (b≤a)),.int .i64 0])∧w'=w):=by
 refine ⟨?_,?_,?_,?_,?_,?_,?_,?_,?_,?_⟩
 all_goals intro a b x y w s0 s1
 all_goals (go_enter Tryz.func71,Tryz.ntmps71)
 all_goals (
   go_wp2_with (first
     |(go_at_call 80;with_reducible refine (s0 _).mono ?_;rintro e wq ⟨rfl,hq⟩;subst wq)
     |(go_at_call 80;with_reducible refine (s1 _).mono ?_;rintro e wq ⟨rfl,hq⟩;subst wq)))
 all_goals (simp [bodyPost,results,Tryz.results71])
 exact beq_cast a b
 rw [bne,beq_cast]
abbrev rh_eq:=rhA.1
abbrev rh_ne:=rhA.2.1
abbrev rh_lti:=rhA.2.2.1
abbrev rh_lei:=rhA.2.2.2.1
abbrev rh_gti:=rhA.2.2.2.2.1
abbrev rh_gei:=rhA.2.2.2.2.2.1
abbrev rh_ltu:=rhA.2.2.2.2.2.2.1
abbrev rh_leu:=rhA.2.2.2.2.2.2.2.1
abbrev rh_gtu:=rhA.2.2.2.2.2.2.2.2.1
abbrev rh_geu:=rhA.2.2.2.2.2.2.2.2.2
theorem rhB :
   (∀ (s:Nat) (w:World),(s=1∨s=2∨s=3∨s=4)→Calls Tryz.prog 81 #[.int .u8 23,.int .u8 s] w fun e w'=>e=.returned (.tuple #[.bool (decide (s=3)),.int .i64 0])∧w'=w) ∧
   (∀ (s:Nat) (w:World),(s=1∨s=2∨s=3∨s=4)→Calls Tryz.prog 81 #[.int .u8 24,.int .u8 s] w fun e w'=>e=.returned (.tuple #[.bool (!decide (s=3)),.int .i64 0])∧w'=w) ∧
   (∀ (s:Nat) (w:World),(s=1∨s=2∨s=3∨s=4)→Calls Tryz.prog 81 #[.int .u8 25,.int .u8 s] w fun e w'=>e=.returned (.tuple #[.bool (decide (s=2)),.int .i64 0])∧w'=w) ∧
   (∀ (s:Nat) (w:World),(s=1∨s=2∨s=3∨s=4)→Calls Tryz.prog 81 #[.int .u8 26,.int .u8 s] w fun e w'=>e=.returned (.tuple #[.bool ((decide (s=2) || decide (s=3))),.int .i64 0])∧w'=w) ∧
   (∀ (s:Nat) (w:World),(s=1∨s=2∨s=3∨s=4)→Calls Tryz.prog 81 #[.int .u8 27,.int .u8 s] w fun e w'=>e=.returned (.tuple #[.bool (decide (s=4)),.int .i64 0])∧w'=w) ∧
   (∀ (s:Nat) (w:World),(s=1∨s=2∨s=3∨s=4)→Calls Tryz.prog 81 #[.int .u8 28,.int .u8 s] w fun e w'=>e=.returned (.tuple #[.bool ((decide (s=4) || decide (s=3))),.int .i64 0])∧w'=w):=by
 refine ⟨?_,?_,?_,?_,?_,?_⟩
 all_goals intro s w hs
 all_goals (rcases hs with rfl|rfl|rfl|rfl)
 all_goals (all_goals (go_enter Tryz.func81,Tryz.ntmps81))
 all_goals (all_goals go_wp2)
 all_goals (all_goals simp [bodyPost,results,Tryz.results81])
abbrev rhs_eqf:=rhB.1
abbrev rhs_nef:=rhB.2.1
abbrev rhs_ltf:=rhB.2.2.1
abbrev rhs_lef:=rhB.2.2.2.1
abbrev rhs_gtf:=rhB.2.2.2.2.1
abbrev rhs_gef:=rhB.2.2.2.2.2
theorem rhs_none (op:Nat) (s:Nat) (w:World) (h23:¬ (op:Int)=23) (h24:¬ (op:Int)=24) (h25:¬ (op:Int)=25) (h26:¬ (op:Int)=26) (h27:¬ (op:Int)=27) (h28:¬ (op:Int)=28) :
   Calls Tryz.prog 81 #[.int .u8 op,.int .u8 s] w fun e w'=>e=.returned (.tuple #[.bool false,.int .i64 61])∧w'=w:=by
 go_enter Tryz.func81,Tryz.ntmps81
 go_wp2
 simp [bodyPost,results,Tryz.results81]
theorem rh_float (op a b s:Nat) (x y:Int) (X:Bool) (E:Int) (w:World) (h13:¬ (op:Int)=13) (h14:¬ (op:Int)=14) (h15:¬ (op:Int)=15) (h16:¬ (op:Int)=16) (h17:¬ (op:Int)=17) (h18:¬ (op:Int)=18) (h19:¬ (op:Int)=19) (h20:¬ (op:Int)=20) (h21:¬ (op:Int)=21) (h22:¬ (op:Int)=22) (s0:∀ w,Calls Tryz.prog 80 #[.int .u32 a] w fun e w'=>e=.returned (.int .i64 x)∧w'=w) (s1:∀ w,Calls Tryz.prog 80 #[.int .u32 b] w fun e w'=>e=.returned (.int .i64 y)∧w'=w)
   (s2:∀ w,Calls Tryz.prog 82 #[.int .u32 a,.int .u32 b] w fun e w'=>e=.returned (.int .u8 s)∧Below w.heap.size w w')
   (s3:∀ w,Calls Tryz.prog 81 #[.int .u8 op,.int .u8 s] w fun e w'=>e=.returned (.tuple #[.bool X,.int .i64 E])∧w'=w) :
   Calls Tryz.prog 71 #[.int .u8 op,.int .u32 a,.int .u32 b] w fun e w'=>e=.returned (.tuple #[.bool X,.int .i64 E])∧Below w.heap.size w w':=by
 have HB:Below w.heap.size w w:=Below.refl _ _
 go_enter Tryz.func71,Tryz.ntmps71
 go_wp2_with (first
   |(go_at_call 80;with_reducible refine (s0 _).mono ?_;rintro e wq ⟨rfl,hq⟩;subst wq)
   |(go_at_call 80;with_reducible refine (s1 _).mono ?_;rintro e wq ⟨rfl,hq⟩;subst wq)
   |(go_at_call 82;with_reducible refine (s2 _).mono ?_;rintro e wq ⟨rfl,hq⟩;replace HB:Below w.heap.size w wq:=btwH hq HB)
   |(go_at_call 81;with_reducible refine (s3 _).mono ?_;rintro e wq ⟨rfl,hq⟩;subst wq))
 simp [bodyPost,results,Tryz.results71]
 exact HB
theorem fstand_cases (a b:Nat):(fstand a b=1∨fstand a b=2∨fstand a b=3∨fstand a b=4):=by
 unfold fstand
 cases Ieee.single.order a b with
 |none=>exact Or.inl rfl
 |some c=>cases c <;> simp
theorem rh_any (op a b:Nat) (w:World) (ha:a<4294967296) (hb:b<4294967296) :
   Calls Tryz.prog 71 #[.int .u8 op,.int .u32 a,.int .u32 b] w fun e w'=>e=.returned (.tuple #[.bool (hoV op a b),.int .i64 (hoE op)])∧Below w.heap.size w w':=by
 have s0:=fun w=>rsig_any a w ha
 have s1:=fun w=>rsig_any b w hb
 have s2:=fun w=>stands_any a b w ha hb
 by_cases h13:op=13
 · subst h13
   rw [hoV_13,show hoE 13=0 from rfl]
   exact (rh_eq a b _ _ w s0 s1).mono fun e w' ⟨h1,h2⟩=>⟨h1,h2▸Below.refl _ _⟩
 by_cases h14:op=14
 · subst h14
   rw [hoV_14,show hoE 14=0 from rfl]
   exact (rh_ne a b _ _ w s0 s1).mono fun e w' ⟨h1,h2⟩=>⟨h1,h2▸Below.refl _ _⟩
 by_cases h15:op=15
 · subst h15
   rw [hoV_15,show hoE 15=0 from rfl]
   exact (rh_lti a b _ _ w s0 s1).mono fun e w' ⟨h1,h2⟩=>⟨h1,h2▸Below.refl _ _⟩
 by_cases h16:op=16
 · subst h16
   rw [hoV_16,show hoE 16=0 from rfl]
   exact (rh_lei a b _ _ w s0 s1).mono fun e w' ⟨h1,h2⟩=>⟨h1,h2▸Below.refl _ _⟩
 by_cases h17:op=17
 · subst h17
   rw [hoV_17,show hoE 17=0 from rfl]
   exact (rh_gti a b _ _ w s0 s1).mono fun e w' ⟨h1,h2⟩=>⟨h1,h2▸Below.refl _ _⟩
 by_cases h18:op=18
 · subst h18
   rw [hoV_18,show hoE 18=0 from rfl]
   exact (rh_gei a b _ _ w s0 s1).mono fun e w' ⟨h1,h2⟩=>⟨h1,h2▸Below.refl _ _⟩
 by_cases h19:op=19
 · subst h19
   rw [hoV_19,show hoE 19=0 from rfl]
   exact (rh_ltu a b _ _ w s0 s1).mono fun e w' ⟨h1,h2⟩=>⟨h1,h2▸Below.refl _ _⟩
 by_cases h20:op=20
 · subst h20
   rw [hoV_20,show hoE 20=0 from rfl]
   exact (rh_leu a b _ _ w s0 s1).mono fun e w' ⟨h1,h2⟩=>⟨h1,h2▸Below.refl _ _⟩
 by_cases h21:op=21
 · subst h21
   rw [hoV_21,show hoE 21=0 from rfl]
   exact (rh_gtu a b _ _ w s0 s1).mono fun e w' ⟨h1,h2⟩=>⟨h1,h2▸Below.refl _ _⟩
 by_cases h22:op=22
 · subst h22
   rw [hoV_22,show hoE 22=0 from rfl]
   exact (rh_geu a b _ _ w s0 s1).mono fun e w' ⟨h1,h2⟩=>⟨h1,h2▸Below.refl _ _⟩
 by_cases h23:op=23
 · subst h23
   rw [hoV_23,show hoE 23=0 from rfl]
   exact rh_float 23 a b _ _ _ _ _ w (by omega) (by omega) (by omega) (by omega) (by omega) (by omega) (by omega) (by omega) (by omega) (by omega) s0 s1 s2 (fun w=>rhs_eqf _ w (fstand_cases a b))
 by_cases h24:op=24
 · subst h24
   rw [hoV_24,show hoE 24=0 from rfl]
   exact rh_float 24 a b _ _ _ _ _ w (by omega) (by omega) (by omega) (by omega) (by omega) (by omega) (by omega) (by omega) (by omega) (by omega) s0 s1 s2 (fun w=>rhs_nef _ w (fstand_cases a b))
 by_cases h25:op=25
 · subst h25
   rw [hoV_25,show hoE 25=0 from rfl]
   exact rh_float 25 a b _ _ _ _ _ w (by omega) (by omega) (by omega) (by omega) (by omega) (by omega) (by omega) (by omega) (by omega) (by omega) s0 s1 s2 (fun w=>rhs_ltf _ w (fstand_cases a b))
 by_cases h26:op=26
 · subst h26
   rw [hoV_26,show hoE 26=0 from rfl]
   exact rh_float 26 a b _ _ _ _ _ w (by omega) (by omega) (by omega) (by omega) (by omega) (by omega) (by omega) (by omega) (by omega) (by omega) s0 s1 s2 (fun w=>rhs_lef _ w (fstand_cases a b))
 by_cases h27:op=27
 · subst h27
   rw [hoV_27,show hoE 27=0 from rfl]
   exact rh_float 27 a b _ _ _ _ _ w (by omega) (by omega) (by omega) (by omega) (by omega) (by omega) (by omega) (by omega) (by omega) (by omega) s0 s1 s2 (fun w=>rhs_gtf _ w (fstand_cases a b))
 by_cases h28:op=28
 · subst h28
   rw [hoV_28,show hoE 28=0 from rfl]
   exact rh_float 28 a b _ _ _ _ _ w (by omega) (by omega) (by omega) (by omega) (by omega) (by omega) (by omega) (by omega) (by omega) (by omega) s0 s1 s2 (fun w=>rhs_gef _ w (fstand_cases a b))
 have h0:hoV op a b=false:=by unfold hoV;simp only [if_neg h13,if_neg h14,if_neg h15,if_neg h16,if_neg h17,if_neg h18,if_neg h19,if_neg h20,if_neg h21,if_neg h22,if_neg h23,if_neg h24,if_neg h25,if_neg h26,if_neg h27,if_neg h28]
 have h1:hoE op=61:=by unfold hoE;rw [if_neg (by omega)]
 rw [h0,h1]
 exact rh_float op a b _ _ _ _ _ w (by omega) (by omega) (by omega) (by omega) (by omega) (by omega) (by omega) (by omega) (by omega) (by omega) s0 s1 s2 (fun w=>rhs_none op _ w (by omega) (by omega) (by omega) (by omega) (by omega) (by omega))
open Go.WideShapes
theorem dec_nought (e:Int):(e == 0)=decide (e=0):=by
 by_cases h:e=0
 · subst h;rfl
 · rw [decide_eq_false h,beq_eq_false_iff_ne];exact h
theorem isun_any (op:Nat) (w:World) :
   Calls Tryz.prog 68 #[.int .u8 (op:Int)] w fun e w'=>e=.returned (.bool (decide (unE op=0)))∧Below w.heap.size w w':=by
 have H:=dhid (fun w'=>ru_any op 0 w' (by decide))
 rw [←dec_nought]
 generalize unE op=er at *
 go_enter Tryz.func68,Tryz.ntmps68
 go_wp2_with (go_at_call 78;refine (H.out _).mono ?_;rintro e w1 ⟨rfl,hb1⟩)
 go_ret
 exact ⟨rfl,hb1⟩
theorem isbin_any (op:Nat) (w:World) :
   Calls Tryz.prog 69 #[.int .u8 (op:Int)] w fun e w'=>e=.returned (.bool (decide (binE op 1=0)))∧Below w.heap.size w w':=by
 have H:=dhid (fun w'=>rb_any op 1 1 w' (by decide) (by decide))
 rw [←dec_nought]
 generalize binE op 1=er at *
 go_enter Tryz.func69,Tryz.ntmps69
 go_wp2_with (go_at_call 79;refine (H.out _).mono ?_;rintro e w1 ⟨rfl,hb1⟩)
 go_ret
 exact ⟨rfl,hb1⟩
theorem hoE_kind:∀ op,op<256→decide (hoE op=0)=decide (opKi op=2):=by decide +kernel
theorem iscmp_any (op:Nat) (w:World) (hop:op<256) :
   Calls Tryz.prog 70 #[.int .u8 (op:Int)] w fun e w'=>e=.returned (.bool (decide (opKi op=2)))∧Below w.heap.size w w':=by
 have H:=dhid (fun w'=>rh_any op 0 0 w' (by decide) (by decide))
 rw [←hoE_kind op hop,←dec_nought]
 generalize hoE op=er at *
 go_enter Tryz.func70,Tryz.ntmps70
 go_wp2_with (go_at_call 71;refine (H.out _).mono ?_;rintro e w1 ⟨rfl,hb1⟩)
 go_ret
 exact ⟨rfl,hb1⟩
def WoR (w:World) (ao:Option Addr) (ws:List Nat) (B:Nat):Prop:=
 0<ws.length→∃ b off,ao=some ⟨b,off,none⟩∧b<B∧∀ j,j<ws.length→w.cell? ⟨b,off+j,none⟩=some (.int .u32 ((ws.getD j 0:Nat):Int))
theorem WoR.below {w w':World} {ao:Option Addr} {ws:List Nat} {B:Nat} (h:WoR w ao ws B) (hb:Below B w w'):WoR w' ao ws B:=by
 intro hl
 obtain ⟨b,off,e,hlt,hc⟩:=h hl
 exact ⟨b,off,e,hlt,fun j hj=>(hb.cell (p:=⟨b,off+j,none⟩) hlt).trans (hc j hj)⟩
theorem WoR.mono {w:World} {ao:Option Addr} {ws:List Nat} {B C:Nat} (h:WoR w ao ws B) (hb:B≤C):WoR w ao ws C:=by
 intro hl
 obtain ⟨b,off,e,hlt,hc⟩:=h hl
 exact ⟨b,off,e,Nat.lt_of_lt_of_le hlt hb,hc⟩
def wvD (ws:List Nat):List Value:=ws.map fun (z:Nat)=>Value.int .u32 (z:Int)
theorem own_wor {w:World} {B:Nat} {v:Value} {ws:List Nat} (h:w.ownsRow B 23 1 v ws.length (wvD ws)):∃ ao cap,v=.slice ao ws.length cap∧ws.length≤cap∧WoR w ao ws w.heap.size:=by
 rcases h.2 with ⟨rfl,h0⟩|⟨g,cap,cur,rfl,hh⟩
 · exact ⟨none,0,by rw [h0],by omega,fun hp=>absurd hp (by omega)⟩
 · refine ⟨some ⟨g,0,none⟩,cap,rfl,hh.2.2.1,fun _=>⟨g,0,rfl,(h.lt g rfl).2,fun j hj=>?_⟩⟩
   have c0:(wvD ws)[j]?=some (.int .u32 ((ws.getD j 0:Nat):Int)):=by
     simp [wvD,List.getD,List.getElem?_eq_getElem hj]
   have a0:=h.cells (g:=g) rfl _ _ c0
   rw [Go.WideShapes.add_plain] at a0
   exact a0
def Reads (w:World) (ao:Option Addr) (zs:List Int) (B:Nat):Prop:=
 0<zs.length→∃ b off,ao=some ⟨b,off,none⟩∧b<B∧∀ j,j<zs.length→w.cell? ⟨b,off+j,none⟩=some (.int .u8 (zs.getD j 0))
theorem Reads.below {w w':World} {ao:Option Addr} {zs:List Int} {B:Nat} (h:Reads w ao zs B) (hb:Below B w w'):Reads w' ao zs B:=by
 intro hl
 obtain ⟨b,off,e,hlt,hc⟩:=h hl
 exact ⟨b,off,e,hlt,fun j hj=>(hb.cell (p:=⟨b,off+j,none⟩) hlt).trans (hc j hj)⟩
theorem Reads.mono {w:World} {ao:Option Addr} {zs:List Int} {B C:Nat} (h:Reads w ao zs B) (hb:B≤C):Reads w ao zs C:=by
 intro hl
 obtain ⟨b,off,e,hlt,hc⟩:=h hl
 exact ⟨b,off,e,Nat.lt_of_lt_of_le hlt hb,hc⟩
theorem Reads.nil (w:World) (ao:Option Addr) (B:Nat):Reads w ao [] B:=fun h=>by simp at h
theorem grown_below {B e sz:Nat} {a w w':World} {xs:List Value} {v:Value} {n:Nat} {o:Obj} (h:Below B a w) (hB:B≤w.heap.size) (hown:w.ownsRow B e sz v n xs) (hg:(w.alloc o).grownBy w' v.ownBlock):Below B a w':=
 (h.alloc hB o).grown hg (by simp;omega) (fun k e=>(hown.lt k e).1)
theorem below_drewN {B:Nat} {a w:World} (h:Below B a w) (n:Nat):Below B a (w.drewN n):=h.trans ⟨rfl,rfl,rfl,Nat.le_refl _,fun _ _=>rfl⟩
theorem infoDW:∃ i:TypeInfo,Tryz.prog.info? 23=some i∧i.zero=some (.int .u32 0)∧i.size=1∧i.bytes=4:=by
 have h:(Tryz.prog.info? 23).map (fun i=>(i.zero,i.size,i.bytes))=some (some (.int .u32 0),1,4):=by kernel_rfl
 cases hi:Tryz.prog.info? 23 with
 |none=>rw [hi] at h;simp at h
 | some i=>
   rw [hi] at h
   simp only [Option.map_some,Option.some.injEq,Prod.mk.injEq] at h
   exact ⟨i,rfl,h.1,h.2.1,h.2.2⟩
theorem takeD (J:List Nat) (k:Nat) (h:k<J.length):J.take (k+1)=J.take k ++ [J.getD k 0]:=by
 rw [List.take_add_one,List.getD_eq_getElem?_getD,List.getElem?_eq_getElem h];rfl
theorem wvD_snoc (l:List Nat) (x:Nat):wvD (l ++ [x])=wvD l ++ [.int .u32 (x:Int)]:=by simp [wvD]
theorem oneD_cells (x:Nat) (w:World) {ty:TypeId}:∀ j u,([.int .u32 (x:Int)]:List Value)[j]?=some u→(w.alloc (.cells #[.int .u32 (x:Int)] ty)).cell? ((⟨w.heap.size,0,none⟩:Addr).add j)=some u:=by
 intro j u hj
 match j,hj with
 |0,hj=>simp at hj;subst hj;simp [Addr.add]
theorem with_any (ao:Option Addr) (cap n x:Nat) (ws:List Nat) (w:World) (hn:n≤ws.length) (hl:ws.length≤64) (hr:WoR w ao ws w.heap.size) :
   Calls Tryz.prog 83 #[.slice ao ws.length cap,.int .i64 (n:Int),.int .u32 (x:Int)] w fun e w'=>∃ v,e=.returned v∧w'.ownsRow w.heap.size 23 1 v (n+1) (wvD (ws.take n ++ [x]))∧Below w.heap.size w w':=by
 obtain ⟨i0,hi,hz0,hz1,hz2⟩:=infoDW
 go_enter Tryz.func83,Tryz.ntmps83
 go_wp2
 go_loopw [7,8] (fun u v wr=>∃ k:Nat,v=.int .i64 k∧k≤n∧wr.ownsRow w.heap.size 23 1 u k (wvD (ws.take k))∧Below w.heap.size w wr)
   (fun _ v _=>n-(intOf v).toNat)
 case atStart=>exact ⟨0,rfl,Nat.zero_le _,World.ownsRow_nil _ _ _ _,Below.refl _ _⟩
 case round=>
   obtain ⟨k,rfl,hk,hown,hb⟩:=hrel
   by_cases hlt:k<n
   · have hltI:(k:Int)<(n:Int):=by omega
     have hltL:(k:Int)<(ws.length:Int):=by omega
     obtain ⟨b,off,rfl,hbj,hc⟩:=(hr.below hb) (by omega)
     have v0:=hc k (by omega)
     have HTK:=dhid (takeD ws k (by omega))
     generalize ws.getD k 0=z at v0 HTK
     have hB:=hb.size
     clear hc
     go_wp2_with (at_builtin;refine wpList_append_own _ rfl _ _ 96 rfl w.heap.size 23 i0 (.int .u32 0) 1 4 Tryz.underlying96 hi hz0 hz1 hz2 rfl (by decide) _ _ _ rfl (hown.alloc _) ⟨_,0,none⟩ 1 1 [.int .u32 z] rfl rfl ?c1 ?c2 ?c3 ?c4 ?c5 ?_)
     case c1=>
       intro j u hj
       match j,hj with
       |0,hj=>simp at hj;subst hj;simp [Addr.add]
     case c2=>first|rfl|(intro u hu;simp at hu;subst hu;rfl)
     case c3=>unfold maxLen;omega
     case c4=>omega
     case c5=>first|omega|(simp;omega)
     intro v' w1 hown' hgrow _
     have R2:Below w.heap.size w w1:=grown_below hb hB hown hgrow
     have R1:w1.ownsRow w.heap.size 23 1 v' (k+1) (wvD (ws.take (k+1))):=by
       rw [HTK.out,wvD_snoc]
       exact hown'
     clear hown' hgrow hown
     go_wp2
     go_roundw
     case rel=>exact ⟨k+1,by go_num,by omega,R1,R2⟩
     case measure=>simp [intOf];omega
   · have hltI:¬ (k:Int)<(n:Int):=by omega
     have hkn:Hid (k=n):=dhid (by omega)
     have hB:=hb.size
     clear hlt
     go_wp2_with (at_builtin;refine wpList_append_own _ rfl _ _ 96 rfl w.heap.size 23 i0 (.int .u32 0) 1 4 Tryz.underlying96 hi hz0 hz1 hz2 rfl (by decide) _ _ _ rfl (hown.alloc _) ⟨_,0,none⟩ 1 1 [.int .u32 (x:Int)] rfl rfl (oneD_cells x wr) ?c2 ?c3 ?c4 ?c5 ?_)
     case c2=>first|rfl|(intro u hu;simp at hu;subst hu;rfl)
     case c3=>unfold maxLen;omega
     case c4=>omega
     case c5=>first|omega|(simp;omega)
     intro v' w1 hown' hgrow _
     have R2:Below w.heap.size w w1:=grown_below hb hB hown hgrow
     rw [←wvD_snoc] at hown'
     have R1:=dhid hown'
     clear hown' hgrow hown
     go_wp2
     go_ret
     rw [←hkn.out]
     exact ⟨_,rfl,R1.out,R2⟩
theorem kn_rest {op:Nat} (h1:¬ op=1) (h8:¬ op=8) (h10:¬ op=10) (h11:¬ op=11):kn op=(decide (unE op=0) || (decide (binE op 1=0) || decide (opKi op=2))):=by
 simp [kn,h1,h8,h10,h11]
theorem ne_i {op k:Nat} (h:¬ op=k):((op:Int) == (k:Int))=false:=by rw [beq_eq_false_iff_ne];omega
theorem known_any (op:Nat) (w:World) (hop:op<256) :
   Calls Tryz.prog 58 #[.int .u8 (op:Int)] w fun e w'=>e=.returned (.bool (kn op))∧Below w.heap.size w w':=by
 by_cases h1:op=1
 · subst h1
   rw [show kn 1=true by decide +kernel]
   go_enter Tryz.func58,Tryz.ntmps58
   go_wp2
   go_ret
   exact ⟨rfl,Below.refl _ _⟩
 by_cases h8:op=8
 · subst h8
   rw [show kn 8=true by decide +kernel]
   go_enter Tryz.func58,Tryz.ntmps58
   go_wp2
   go_ret
   exact ⟨rfl,Below.refl _ _⟩
 by_cases h10:op=10
 · subst h10
   rw [show kn 10=true by decide +kernel]
   go_enter Tryz.func58,Tryz.ntmps58
   go_wp2
   go_ret
   exact ⟨rfl,Below.refl _ _⟩
 by_cases h11:op=11
 · subst h11
   rw [show kn 11=true by decide +kernel]
   go_enter Tryz.func58,Tryz.ntmps58
   go_wp2
   go_ret
   exact ⟨rfl,Below.refl _ _⟩
 have d1:((op:Int) == 1)=false:=ne_i h1
 have d8:((op:Int) == 8)=false:=ne_i h8
 have d10:((op:Int) == 10)=false:=ne_i h10
 have d11:((op:Int) == 11)=false:=ne_i h11
 rw [kn_rest h1 h8 h10 h11]
 clear h1 h8 h10 h11
 have HU:=dhid (fun w'=>isun_any op w')
 have HB:=dhid (fun w'=>isbin_any op w')
 have HC:=dhid (fun w'=>iscmp_any op w' hop)
 generalize decide (unE op=0)=bu at *
 generalize decide (binE op 1=0)=bb at *
 generalize decide (opKi op=2)=bc at *
 cases bu
 · cases bb
   · go_enter Tryz.func58,Tryz.ntmps58
     go_wp2_with (first
       |(go_at_call 68;refine (HU.out _).mono ?_;rintro e w1 ⟨rfl,hb1⟩)
       |(go_at_call 69;refine (HB.out _).mono ?_;rintro e w2 ⟨rfl,hb2⟩)
       |(go_at_call 70;refine (HC.out _).mono ?_;rintro e w3 ⟨rfl,hb3⟩))
     go_ret
     exact ⟨rfl,(hb1.trans (hb2.mono hb1.size)).trans (hb3.mono (Nat.le_trans hb1.size hb2.size))⟩
   · go_enter Tryz.func58,Tryz.ntmps58
     go_wp2_with (first
       |(go_at_call 68;refine (HU.out _).mono ?_;rintro e w1 ⟨rfl,hb1⟩)
       |(go_at_call 69;refine (HB.out _).mono ?_;rintro e w2 ⟨rfl,hb2⟩)
       |(go_at_call 70;refine (HC.out _).mono ?_;rintro e w3 ⟨rfl,hb3⟩))
     go_ret
     exact ⟨rfl,hb1.trans (hb2.mono hb1.size)⟩
 · go_enter Tryz.func58,Tryz.ntmps58
   go_wp2_with (first
     |(go_at_call 68;refine (HU.out _).mono ?_;rintro e w1 ⟨rfl,hb1⟩)
     |(go_at_call 69;refine (HB.out _).mono ?_;rintro e w2 ⟨rfl,hb2⟩)
     |(go_at_call 70;refine (HC.out _).mono ?_;rintro e w3 ⟨rfl,hb3⟩))
   go_ret
   exact ⟨rfl,hb1⟩
def onD (ws:List Nat) (op arg:Nat):Option (List Nat):=
 if op=1 then some ws
 else if op=8 then some (ws ++ [arg])
 else if op=10 then (if 1≤ws.length then some ws.dropLast else none)
 else if op=11 then (if 1≤ws.length then some (ws ++ [ws.getLastD 0]) else none)
 else if unE op=0 then (if 1≤ws.length then some (ws.dropLast ++ [unV op (ws.getLastD 0)]) else none)
 else if binE op 1=0 then (if 2≤ws.length∧binE op (ws.getLastD 0)=0 then some (ws.dropLast.dropLast ++ [binV op (ws.dropLast.getLastD 0) (ws.getLastD 0)]) else none)
 else none
def capD:Option (List Nat)→Option (List Nat)
 |none=>none
 |some r=>if r.length≤64 then some r else none
theorem doD_on {ws:List Nat} {op arg:Nat} (hl:ws.length≤64):doD ws op arg=capD (onD ws op arg):=by
 unfold doD onD
 by_cases h1:op=1
 · simp [h1,capD,hl]
 by_cases h8:op=8
 · simp [h8,capD]
 by_cases h10:op=10
 · subst h10
   show (if 1≤ws.length then some ws.dropLast else none)=capD (if 1≤ws.length then some ws.dropLast else none)
   by_cases hw:1≤ws.length
   · rw [if_pos hw];show _=if _ then _ else _;rw [if_pos (by simp;omega)]
   · rw [if_neg hw];rfl
 by_cases h11:op=11
 · subst h11
   show (if 1≤ws.length∧ws.length+1≤64 then some (ws ++ [ws.getLastD 0]) else none)=capD (if 1≤ws.length then some (ws ++ [ws.getLastD 0]) else none)
   by_cases hw:1≤ws.length
   · rw [if_pos hw];show _=if _ then _ else _
     simp only [hw,true_and,List.length_append,List.length_singleton]
   · rw [if_neg hw,if_neg (fun e=>hw e.1)];rfl
 simp only [h1,h8,h10,h11,if_false]
 by_cases hu:unE op=0
 · simp only [hu,if_true]
   by_cases hw:1≤ws.length
   · rw [if_pos hw];show _=if _ then _ else _;rw [if_pos (by simp;omega)]
   · rw [if_neg hw];rfl
 simp only [hu,if_false]
 by_cases hb:binE op 1=0
 · simp only [hb,if_true]
   by_cases hw:2≤ws.length∧binE op (ws.getLastD 0)=0
   · rw [if_pos hw];show _=if _ then _ else _;rw [if_pos (by simp;omega)]
   · rw [if_neg hw];rfl
 · simp only [hb,if_false];rfl
def OnP (o:Option (List Nat)) (w w':World) (e:Ending):Prop:=
 (∃ ao cap n,o=none∧e=.returned (.tuple #[.slice ao n cap,.bool false])∧Below w.heap.size w w')
 ∨ ∃ ao cap M,o=some M∧e=.returned (.tuple #[.slice ao (M:List Nat).length cap,.bool true])∧M.length≤cap∧WoR w' ao M w'.heap.size∧Below w.heap.size w w'
theorem with_on (ao:Option Addr) (cap n x:Nat) (ws M:List Nat) (hM:ws.take n ++ [x]=M) (w:World) (hn:n≤ws.length) (hl:ws.length≤64) (hr:WoR w ao ws w.heap.size) :
   Calls Tryz.prog 83 #[.slice ao ws.length cap,.int .i64 (n:Int),.int .u32 (x:Int)] w fun e w'=>∃ bo c,e=.returned (.slice bo M.length c)∧Hid (M.length≤c∧WoR w' bo M w'.heap.size)∧Below w.heap.size w w':=by
 refine (with_any ao cap n x ws w hn hl hr).mono ?_
 rintro e w' ⟨v,rfl,hown,hb⟩
 have hlen:M.length=n+1:=by rw [←hM];simp;omega
 rw [hM,←hlen] at hown
 obtain ⟨bo,c,rfl,h1,h2⟩:=own_wor hown
 exact ⟨bo,c,rfl,dhid ⟨h1,h2⟩,hb⟩
theorem last_at {ws:List Nat} {k:Nat} (h:ws.length=k+1):ws.getLastD 0=ws.getD k 0∧ws.dropLast=ws.take k:=by
 constructor
 · rw [List.getLastD_eq_getLast?,List.getLast?_eq_getElem?,List.getD_eq_getElem?_getD,h];rfl
 · rw [List.dropLast_eq_take,h];rfl
theorem last_at2 {ws:List Nat} {k:Nat} (h:ws.length=k+2):ws.dropLast.getLastD 0=ws.getD k 0∧ws.dropLast.dropLast=ws.take k:=by
 have hd:ws.dropLast=ws.take (k+1):=(last_at h).2
 have hl:(ws.take (k+1)).length=k+1:=by simp;omega
 rw [hd]
 refine ⟨(last_at hl).1.trans ?_,(last_at hl).2.trans ?_⟩
 · rw [List.getD_eq_getElem?_getD,List.getElem?_take_of_lt (by omega),List.getD_eq_getElem?_getD]
 · rw [List.take_take,Nat.min_eq_left (by omega)]
theorem WoR.take {w:World} {ao:Option Addr} {ws:List Nat} {B:Nat} (h:WoR w ao ws B) (k:Nat):WoR w ao (ws.take k) B:=by
 intro hl
 rw [List.length_take] at hl
 obtain ⟨b,off,e,hlt,hc⟩:=h (by omega)
 refine ⟨b,off,e,hlt,fun j hj=>?_⟩
 rw [List.length_take] at hj
 rw [hc j (by omega),List.getD_eq_getElem?_getD,List.getD_eq_getElem?_getD,List.getElem?_take_of_lt (by omega)]
end Go.Proofs.YtibhlcfligfhdaaGreat
