import Derived.Test.YtibhlcfligfhdaaGreatRows
import Derived.WalkKit
import Derived.Laws.BitsAllLaws
import Derived.Deep.QuietTactic
import Derived.BigQuiet
import Derived.WalkSmall
import Derived.WideShapes
import Derived.Laws.Cover3
import Derived.Laws.CopyOwn
import Derived.Laws.OwnMore
import Derived.Deep.RegionHeld3
import Derived.LaidEqlPtr
import Derived.WalkLawsBesides
import Derived.Laws.Externs
import Derived.Defers
import Derived.Recover
import Derived.Laws.Pointers
namespace Go.Proofs.YtibhlcfligfhdaaGreat
open Go.RowKit Go.WideShapes
set_option maxRecDepth 100000
structure Kp (S:Nat→Prop) (w w':World):Prop where
 os:w'.os=w.os
 tape:w'.tape=w.tape
 output:w'.output=w.output
 size:w.heap.size≤w'.heap.size
 block:∀ k,k<w.heap.size→¬ S k→w'.heap[k]?=w.heap[k]?
theorem Kp.refl (S:Nat→Prop) (w:World):Kp S w w:=⟨rfl,rfl,rfl,Nat.le_refl _,fun _ _ _=>rfl⟩
theorem Kp.trans {S S':Nat→Prop} {a b c:World} (h:Kp S a b) (k:Kp S' b c) (hs:∀ i,i<a.heap.size→S' i→S i):Kp S a c:=
 ⟨k.os.trans h.os,k.tape.trans h.tape,k.output.trans h.output,Nat.le_trans h.size k.size,fun i hi hn=>(k.block i (Nat.lt_of_lt_of_le hi h.size) (fun e=>hn (hs i hi e))).trans (h.block i hi hn)⟩
theorem Kp.mono {S S':Nat→Prop} {a b:World} (h:Kp S a b) (hs:∀ i,i<a.heap.size→S i→S' i):Kp S' a b:=
 ⟨h.os,h.tape,h.output,h.size,fun i hi hn=>h.block i hi (fun e=>hn (hs i hi e))⟩
theorem Kp.below {S:Nat→Prop} {B:Nat} {a b:World} (h:Kp S a b) (hB:B≤a.heap.size) (hs:∀ i,S i→B≤i):Below B a b:=
 ⟨h.os,h.tape,h.output,h.size,fun k hk=>h.block k (by omega) (fun e=>by have:=hs k e;omega)⟩
theorem Kp.ofBelow {S:Nat→Prop} {a b:World} (h:Below a.heap.size a b):Kp S a b:=⟨h.os,h.tape,h.output,h.size,fun k hk _=>h.block k hk⟩
theorem Kp.ofGrown {S:Nat→Prop} {a b:World} {r:Option Nat} (h:a.grownBy b r) (hs:∀ i,r=some i→i<a.heap.size→S i):Kp S a b:=
 ⟨h.os,h.tape,h.output,h.size,fun k hk hn=>h.block k hk (fun e=>hn (hs k e.symm hk))⟩
theorem Kp.setCell {S:Nat→Prop} (w:World) (p:Addr) (u:Value) (hs:S p.block):Kp S w (w.setCell p u):=
 ⟨rfl,rfl,rfl,by simp [World.setCell],fun k _ hn=>Below.heap_setCell _ _ _ _ (fun e=>hn (e▸hs))⟩
theorem Kp.alloc {S:Nat→Prop} (w:World) (o:Obj):Kp S w (w.alloc o):=
 ⟨rfl,rfl,rfl,by simp,fun k hk _=>Below.heap_alloc _ _ _ hk⟩
theorem Kp.own {S:Nat→Prop} {w w':World} (h:Kp S w w') {B e sz n:Nat} {v:Value} {xs:List Value} (ho:w.ownsRow B e sz v n xs) (hs:∀ k,v.ownBlock=some k→¬ S k):w'.ownsRow B e sz v n xs:=by
 refine ⟨ho.1,?_⟩
 rcases ho.2 with hn|⟨g,cap,cur,rfl,hb,hgg,rest⟩
 · exact .inl hn
 · exact .inr ⟨g,cap,cur,rfl,hb,by rw [h.block g (Array.getElem?_eq_some_iff.1 hgg).1 (hs g rfl)];exact hgg,rest⟩
theorem Kp.cell {S:Nat→Prop} {w w':World} (h:Kp S w w') {p:Addr} (hl:p.block<w.heap.size) (hs:¬ S p.block):w'.cell? p=w.cell? p:=World.cell?_of_block (w:=w) (h.block p.block hl hs)
theorem obj_cell {w:World} {a:Nat} {cs:Array Value} {t:TypeId} {fr:Nat × Nat} (h:w.heap[a]?=some (.cells cs t fr)) (i:Nat):w.cell? ⟨a,i,none⟩=cs[i]?:=by
 simp [World.cell?,h]
theorem obj_frozen {w:World} {a:Nat} {cs:Array Value} {t:TypeId} (h:w.heap[a]?=some (.cells cs t (0,0))) (i:Nat):w.frozen? ⟨a,i,none⟩=false:=by
 simp [World.frozen?,h]
@[go_sem] theorem call_from32 (n:Int) (w:World):(callFunc 150 #[.int .u32 n]).run Tryz.prog w=.ok (.value (.float .f32 n.toNat)) w:=by
 rw [run_callFunc_extern (e:=Extern.MathFloatBits.float32frombits) Tryz.func150 (by kernel_rfl) (by kernel_rfl) (by kernel_rfl) (by kernel_rfl)]
 rfl
@[go_sem] theorem call_bits32 (n:Nat) (w:World):(callFunc 151 #[.float .f32 n]).run Tryz.prog w=.ok (.value (.int .u32 n)) w:=by
 rw [run_callFunc_extern (e:=Extern.MathFloatBits.float32bits) Tryz.func151 (by kernel_rfl) (by kernel_rfl) (by kernel_rfl) (by kernel_rfl)]
 rfl
/-! words: the bits -/
def tn (a:Nat):Nat:=if a<2147483648 then a+2147483648 else a-2147483648
theorem tn_lt {a:Nat} (h:a<4294967296):tn a<4294967296:=by unfold tn;split <;> omega
theorem b_xor (a:Nat) (h:a<4294967296):bits .xor .u32 (a:Int) 2147483648=((tn a:Nat):Int):=by
 have:=u32_xor_nat a 2147483648 h (by omega)
 rw [show a ^^^ 2147483648=tn a from ?_] at this
 · exact this
 have e1:(a ^^^ 2147483648) % 2 ^ 31=a % 2 ^ 31:=by
   rw [show 2147483648=2 ^ 31 by decide,Nat.xor_mod_two_pow];simp
 have e2:(a ^^^ 2147483648) / 2 ^ 31=(a / 2 ^ 31) ^^^ 1:=by
   rw [show 2147483648=2 ^ 31 by decide,←Nat.shiftRight_eq_div_pow,←Nat.shiftRight_eq_div_pow,Nat.shiftRight_xor_distrib];rfl
 have e3:(a / 2 ^ 31) ^^^ 1=if a<2147483648 then 1 else 0:=by
   have:a / 2 ^ 31=0∨a / 2 ^ 31=1:=by omega
   rcases this with h|h <;> rw [h] <;> split <;> first|rfl|omega
 rw [e3] at e2
 unfold tn
 split <;> rename_i h' <;> simp only [h',if_true,if_false] at e2 <;> omega
theorem number_any (a:Nat) (w:World) :
   Calls Tryz.prog 146 #[.int .u32 a] w fun e w'=>e=.returned (.float .f32 a)∧w'=w:=by
 go_enter Tryz.func146,Tryz.ntmps146
 go_wp2
 go_ret
 exact ⟨rfl,rfl⟩
def ok (x:Nat):Bool:=decide (x % 2147483648≤2139095040)
theorem read_single (x:Nat):Ieee.single.read x=if x % 2147483648<8388608 then .number (x / 2147483648 % 2 == 1) (x % 2147483648) (-149)
   else if x % 2147483648<2139095040 then .number (x / 2147483648 % 2 == 1) (8388608+x % 2147483648 % 8388608) (-149+(x % 2147483648 / 8388608-1:Nat))
   else if x % 2147483648=2139095040 then .infinity (x / 2147483648 % 2 == 1) else .nan (x / 2147483648 % 2 == 1) (x % 2147483648-2139095040):=rfl
theorem order_refl (d:Ieee.Datum):d.order d=if d.isNaN then none else some .eq:=by
 cases d <;> simp [Ieee.Datum.order,Ieee.Datum.isNaN,compare,compareOfLessAndEq]
theorem nan_single (x:Nat):(Ieee.single.read x).isNaN = !ok x:=by
 rw [read_single];unfold ok
 split
 · rw [decide_eq_true (by omega)];rfl
 · split
   · rw [decide_eq_true (by omega)];rfl
   · split
     · rw [decide_eq_true (by omega)];rfl
     · rw [decide_eq_false (by omega)];rfl
theorem order_self (x:Nat):Ieee.single.order x x=if ok x then some .eq else none:=by
 show (Ieee.single.read x).order (Ieee.single.read x)=_
 rw [order_refl,nan_single];cases ok x <;> rfl
def wd (x:Nat):Nat:=if ok x then x else 2143289344
theorem sword_any (x:Nat) (w:World) :
   Calls Tryz.prog 147 #[.float .f32 x] w fun e w'=>e=.returned (.int .u32 (wd x))∧w'=w:=by
 have ho:=order_self x
 by_cases h:ok x=true
 · rw [if_pos h] at ho
   have hb:(FloatKind.f32.format.order x x != some .eq)=false:=by show (Ieee.single.order x x != some .eq)=false;rw [ho];rfl
   have hw:wd x=x:=by simp [wd,h]
   rw [hw]
   clear hw ho
   go_enter Tryz.func147,Tryz.ntmps147
   go_wp2
   go_ret
   exact ⟨rfl,rfl⟩
 · rw [if_neg h] at ho
   have hb:(FloatKind.f32.format.order x x != some .eq)=true:=by show (Ieee.single.order x x != some .eq)=true;rw [ho];rfl
   have hw:wd x=2143289344:=by simp [wd,h]
   rw [hw]
   clear hw ho
   go_enter Tryz.func147,Tryz.ntmps147
   go_wp2
   go_ret
   exact ⟨rfl,rfl⟩
theorem turned_any (a:Nat) (w:World) (h:a<4294967296) :
   Calls Tryz.prog 119 #[.int .u32 a] w fun e w'=>e=.returned (.int .u32 (tn a))∧w'=w:=by
 have hb:=b_xor a h
 go_enter Tryz.func119,Tryz.ntmps119
 go_wp2
 go_ret
 exact ⟨rfl,rfl⟩
def on (a:Nat):Nat:=if ok a then a else 2143289344
def nanOf (k:FloatKind) (x y:Nat) (w:World):Nat:=Question.cut (.nanBits k x y) (w.tape w.drawn (.nanBits k x y))
theorem run_float_none {P:Program} (op:BinOp) (t:TypeId) (k:FloatKind) (x y:Nat) (w:World) (ho:op=.add∨op=.sub∨op=.mul∨op=.quo) (h:floatBits op k x y=none) :
   (binOp op t (.float k x) (.float k y)).run P w=.ok (.float k (nanOf k x y w)) w.drew:=by
 have hf:(Question.nanBits k x y).forced=false:=rfl
 rcases ho with rfl|rfl|rfl|rfl <;> simp only [floatBits] at h <;> simp [binOp,Op.floatArith,h,nanOf,hf]
def nan32 (t:Nat):Nat:=(t % 2)*2 ^ 31+0x7f800000+1+(t / 2) % (2 ^ 23-1)
theorem nan32_not (t:Nat):ok (nan32 t)=false:=by
 unfold ok nan32
 apply decide_eq_false
 have:(t / 2) % (2 ^ 23-1)<2 ^ 23-1:=Nat.mod_lt _ (by decide)
 generalize (t / 2) % (2 ^ 23-1)=u at this
 have:t % 2=0∨t % 2=1:=by omega
 rcases this with h|h <;> rw [h] <;> omega
theorem nanOf_wd (x y:Nat) (w:World):wd (nanOf .f32 x y w)=2143289344:=by
 have:ok (nanOf .f32 x y w)=false:=nan32_not _
 simp [wd,this]
theorem word_ok (neg:Bool) (r:Nat) (h:r≤2139095040):ok (Ieee.single.word neg r)=true:=by
 unfold ok Ieee.Format.word
 have e1:Ieee.single.signWeight=2147483648:=rfl
 rw [e1]
 apply decide_eq_true
 split <;> omega
theorem write_ok (d:Ieee.Datum) (h:d.isNaN=false):ok (Ieee.single.write d)=true:=by
 have e3:Ieee.single.infRung=2139095040:=rfl
 cases d with
 | number neg mag place=>
   show ok (Ieee.single.nearest neg mag place)=true
   unfold Ieee.Format.nearest
   split
   · exact word_ok _ _ (by omega)
   · exact word_ok _ _ (Nat.le_trans (Nat.min_le_right _ _) (Nat.le_of_eq e3))
 |infinity neg=>exact word_ok _ _ (Nat.le_of_eq e3)
 |nan neg fr=>simp [Ieee.Datum.isNaN] at h
theorem sum_not_nan {d e r:Ieee.Datum} (h:d.sum e=some r):r.isNaN=false:=by
 unfold Ieee.Datum.sum at h
 split at h <;> first|(cases h;done)|(split at h <;> first|(cases h;done)|(cases h;rfl))|(cases h;rfl)
theorem product_not_nan {d e r:Ieee.Datum} (h:d.product e=some r):r.isNaN=false:=by
 unfold Ieee.Datum.product at h
 split at h <;> first|(cases h;done)|(split at h <;> first|(cases h;done)|(cases h;rfl))|(cases h;rfl)
theorem quotient_not_nan {n:Nat} {d e r:Ieee.Datum} (h:d.quotient n e=some r):r.isNaN=false:=by
 unfold Ieee.Datum.quotient at h
 split at h <;> first|(cases h;done)|(split at h <;> first|(cases h;done)|(split at h <;> first|(cases h;done)|(cases h;rfl))|(cases h;rfl))|(cases h;rfl)
theorem add_ok {a b r:Nat} (h:Ieee.single.add a b=some r):ok r=true:=by
 unfold Ieee.Format.add at h
 cases e:(Ieee.single.read a).sum (Ieee.single.read b) with
 |none=>rw [e] at h;cases h
 |some d=>rw [e] at h;cases h;exact write_ok _ (sum_not_nan e)
theorem mul_ok {a b r:Nat} (h:Ieee.single.mul a b=some r):ok r=true:=by
 unfold Ieee.Format.mul at h
 cases e:(Ieee.single.read a).product (Ieee.single.read b) with
 |none=>rw [e] at h;cases h
 |some d=>rw [e] at h;cases h;exact write_ok _ (product_not_nan e)
theorem div_ok {a b r:Nat} (h:Ieee.single.div a b=some r):ok r=true:=by
 unfold Ieee.Format.div at h
 cases e:(Ieee.single.read a).quotient (Ieee.single.fractionBits+2) (Ieee.single.read b) with
 |none=>rw [e] at h;cases h
 |some d=>rw [e] at h;cases h;exact write_ok _ (quotient_not_nan e)
def fsum (a b:Nat):Nat:=(Ieee.single.add a b).getD 2143289344
def fmul (a b:Nat):Nat:=(Ieee.single.mul a b).getD 2143289344
def fdiv (a b:Nat):Nat:=(Ieee.single.div a b).getD 2143289344
theorem sum_any (a b:Nat) (w:World) :
   Calls Tryz.prog 124 #[.int .u32 a,.int .u32 b] w fun e w'=>e=.returned (.int .u32 (fsum a b))∧∃ m,w'=w.drewN m:=by
 cases h:Ieee.single.add a b with
 | some r=>
   have e1:fsum a b=r:=by simp [fsum,h]
   have hl:=fun (w:World)=>run_float_arith (P:=Tryz.prog) w .add 166 .f32 a b r h
   have e2:wd r=r:=by simp [wd,add_ok h]
   rw [e1]
   clear e1
   go_enter Tryz.func124,Tryz.ntmps124
   go_wp2_with (first
     |(go_at_call 146;refine (number_any _ _).mono ?_;rintro e wq ⟨rfl,hq⟩;subst wq)
     |(go_at_call 147;refine (sword_any _ _).mono ?_;rintro e wq ⟨rfl,hq⟩;subst wq))
   go_ret
   exact ⟨by rw [←e2];rfl,0,rfl⟩
 | none=>
   have e1:fsum a b=2143289344:=by simp [fsum,h]
   have hl:=fun (w:World)=>run_float_none (P:=Tryz.prog) .add 166 .f32 a b w (Or.inl rfl) h
   have e2:=nanOf_wd a b w
   rw [e1]
   clear e1
   go_enter Tryz.func124,Tryz.ntmps124
   go_wp2_with (first
     |(go_at_call 146;refine (number_any _ _).mono ?_;rintro e wq ⟨rfl,hq⟩;subst wq)
     |(go_at_call 147;refine (sword_any _ _).mono ?_;rintro e wq ⟨rfl,hq⟩;subst wq))
   go_ret
   exact ⟨rfl,1,rfl⟩
theorem prod_any (a b:Nat) (w:World) :
   Calls Tryz.prog 126 #[.int .u32 a,.int .u32 b] w fun e w'=>e=.returned (.int .u32 (fmul a b))∧∃ m,w'=w.drewN m:=by
 cases h:Ieee.single.mul a b with
 | some r=>
   have e1:fmul a b=r:=by simp [fmul,h]
   have hl:=fun (w:World)=>run_float_arith (P:=Tryz.prog) w .mul 166 .f32 a b r h
   have e2:wd r=r:=by simp [wd,mul_ok h]
   rw [e1]
   clear e1
   go_enter Tryz.func126,Tryz.ntmps126
   go_wp2_with (first
     |(go_at_call 146;refine (number_any _ _).mono ?_;rintro e wq ⟨rfl,hq⟩;subst wq)
     |(go_at_call 147;refine (sword_any _ _).mono ?_;rintro e wq ⟨rfl,hq⟩;subst wq))
   go_ret
   exact ⟨by rw [←e2];rfl,0,rfl⟩
 | none=>
   have e1:fmul a b=2143289344:=by simp [fmul,h]
   have hl:=fun (w:World)=>run_float_none (P:=Tryz.prog) .mul 166 .f32 a b w (Or.inr (Or.inr (Or.inl rfl))) h
   have e2:=nanOf_wd a b w
   rw [e1]
   clear e1
   go_enter Tryz.func126,Tryz.ntmps126
   go_wp2_with (first
     |(go_at_call 146;refine (number_any _ _).mono ?_;rintro e wq ⟨rfl,hq⟩;subst wq)
     |(go_at_call 147;refine (sword_any _ _).mono ?_;rintro e wq ⟨rfl,hq⟩;subst wq))
   go_ret
   exact ⟨rfl,1,rfl⟩
theorem ratio_any (a b:Nat) (w:World) :
   Calls Tryz.prog 127 #[.int .u32 a,.int .u32 b] w fun e w'=>e=.returned (.int .u32 (fdiv a b))∧∃ m,w'=w.drewN m:=by
 cases h:Ieee.single.div a b with
 | some r=>
   have e1:fdiv a b=r:=by simp [fdiv,h]
   have hl:=fun (w:World)=>run_float_arith (P:=Tryz.prog) w .quo 166 .f32 a b r h
   have e2:wd r=r:=by simp [wd,div_ok h]
   rw [e1]
   clear e1
   go_enter Tryz.func127,Tryz.ntmps127
   go_wp2_with (first
     |(go_at_call 146;refine (number_any _ _).mono ?_;rintro e wq ⟨rfl,hq⟩;subst wq)
     |(go_at_call 147;refine (sword_any _ _).mono ?_;rintro e wq ⟨rfl,hq⟩;subst wq))
   go_ret
   exact ⟨by rw [←e2];rfl,0,rfl⟩
 | none=>
   have e1:fdiv a b=2143289344:=by simp [fdiv,h]
   have hl:=fun (w:World)=>run_float_none (P:=Tryz.prog) .quo 166 .f32 a b w (Or.inr (Or.inr (Or.inr rfl))) h
   have e2:=nanOf_wd a b w
   rw [e1]
   clear e1
   go_enter Tryz.func127,Tryz.ntmps127
   go_wp2_with (first
     |(go_at_call 146;refine (number_any _ _).mono ?_;rintro e wq ⟨rfl,hq⟩;subst wq)
     |(go_at_call 147;refine (sword_any _ _).mono ?_;rintro e wq ⟨rfl,hq⟩;subst wq))
   go_ret
   exact ⟨rfl,1,rfl⟩
def fstand (a b:Nat):Nat:=match Ieee.single.order a b with
 |some .lt=>2
 |some .eq=>3
 |some .gt=>4
 |none=>1
theorem stand_any (a b:Nat) (w:World) :
   Calls Tryz.prog 118 #[.int .u32 a,.int .u32 b] w fun e w'=>e=.returned (.int .u8 (fstand a b))∧w'=w:=by
 have e0:FloatKind.f32.format.order a b=Ieee.single.order a b:=rfl
 unfold fstand
 cases h:Ieee.single.order a b with
 | none=>
   have h1:(FloatKind.f32.format.order a b == some .lt)=false:=by rw [e0,h];rfl
   have h2:(FloatKind.f32.format.order a b == some .eq)=false:=by rw [e0,h];rfl
   have h3:(FloatKind.f32.format.order a b == some .gt)=false:=by rw [e0,h];rfl
   clear e0 h
   go_enter Tryz.func118,Tryz.ntmps118
   go_wp2_with (go_at_call 146;refine (number_any _ _).mono ?_;rintro e wq ⟨rfl,hq⟩;subst wq)
   go_ret
   exact ⟨rfl,rfl⟩
 | some o=>
   cases o with
   | lt=>
     have h1:(FloatKind.f32.format.order a b == some .lt)=true:=by rw [e0,h];rfl
     clear e0 h
     go_enter Tryz.func118,Tryz.ntmps118
     go_wp2_with (go_at_call 146;refine (number_any _ _).mono ?_;rintro e wq ⟨rfl,hq⟩;subst wq)
     go_ret
     exact ⟨rfl,rfl⟩
   | eq=>
     have h1:(FloatKind.f32.format.order a b == some .lt)=false:=by rw [e0,h];rfl
     have h2:(FloatKind.f32.format.order a b == some .eq)=true:=by rw [e0,h];rfl
     clear e0 h
     go_enter Tryz.func118,Tryz.ntmps118
     go_wp2_with (go_at_call 146;refine (number_any _ _).mono ?_;rintro e wq ⟨rfl,hq⟩;subst wq)
     go_ret
     exact ⟨rfl,rfl⟩
   | gt=>
     have h1:(FloatKind.f32.format.order a b == some .lt)=false:=by rw [e0,h];rfl
     have h2:(FloatKind.f32.format.order a b == some .eq)=false:=by rw [e0,h];rfl
     have h3:(FloatKind.f32.format.order a b == some .gt)=true:=by rw [e0,h];rfl
     clear e0 h
     go_enter Tryz.func118,Tryz.ntmps118
     go_wp2_with (go_at_call 146;refine (number_any _ _).mono ?_;rintro e wq ⟨rfl,hq⟩;subst wq)
     go_ret
     exact ⟨rfl,rfl⟩
def wide (a:Nat):Nat:=Ieee.double.write (Ieee.single.read a)
def fof (n:Int):Nat:=Ieee.single.write (.number (n<0) n.natAbs 0)
theorem of_any (n:Int) (w:World) :
   Calls Tryz.prog 120 #[.int .i32 n] w fun e w'=>e=.returned (.int .u32 (fof n))∧w'=w:=by
 have e1:floatOfInt .f32 n=fof n:=rfl
 have e2:wd (fof n)=fof n:=by simp [wd,fof,write_ok (.number (n<0) n.natAbs 0) rfl]
 go_enter Tryz.func120,Tryz.ntmps120
 go_wp2_with (first
   |(go_at_call 147;refine (sword_any _ _).mono ?_;(first|rw [e2]|rw [e1,e2]);rintro e wq ⟨rfl,hq⟩;subst wq))
 go_ret
 exact ⟨rfl,rfl⟩
theorem toward_nan (a:Nat) (w:World) (ho:ok a=false) :
   Calls Tryz.prog 121 #[.int .u32 a] w fun e w'=>e=.returned (.int .i32 0)∧w'=w:=by
 have h0:=order_self a
 rw [ho] at h0
 have h1:(FloatKind.f32.format.order a a != some .eq)=true:=by show (Ieee.single.order a a != some .eq)=true;rw [h0];rfl
 go_enter Tryz.func121,Tryz.ntmps121
 go_wp2_with (go_at_call 146;refine (number_any _ _).mono ?_;rintro e wq ⟨rfl,hq⟩;subst wq)
 go_ret
 exact ⟨rfl,rfl⟩
theorem toward_max (a:Nat) (w:World) (ho:ok a=true) (hg:Ieee.single.order a 1325400064=some .gt∨Ieee.single.order a 1325400064=some .eq) :
   Calls Tryz.prog 121 #[.int .u32 a] w fun e w'=>e=.returned (.int .i32 2147483647)∧w'=w:=by
 have h0:=order_self a
 rw [ho] at h0
 have h1:(FloatKind.f32.format.order a a != some .eq)=false:=by show (Ieee.single.order a a != some .eq)=false;rw [h0];rfl
 have h2:(FloatKind.f32.format.order a 1325400064 == some .gt || FloatKind.f32.format.order a 1325400064 == some .eq)=true:=by
   show (Ieee.single.order a 1325400064 == some .gt || Ieee.single.order a 1325400064 == some .eq)=true
   rcases hg with h|h <;> rw [h] <;> rfl
 go_enter Tryz.func121,Tryz.ntmps121
 go_wp2_with (go_at_call 146;refine (number_any _ _).mono ?_;rintro e wq ⟨rfl,hq⟩;subst wq)
 go_ret
 exact ⟨rfl,rfl⟩
theorem toward_min (a:Nat) (w:World) (ho:ok a=true) (hg:Ieee.single.order a 1325400064=some .lt) (hl:Ieee.single.order a 3472883712=some .lt∨Ieee.single.order a 3472883712=some .eq) :
   Calls Tryz.prog 121 #[.int .u32 a] w fun e w'=>e=.returned (.int .i32 (-2147483648))∧w'=w:=by
 have h0:=order_self a
 rw [ho] at h0
 have h1:(FloatKind.f32.format.order a a != some .eq)=false:=by show (Ieee.single.order a a != some .eq)=false;rw [h0];rfl
 have h2:(FloatKind.f32.format.order a 1325400064 == some .gt || FloatKind.f32.format.order a 1325400064 == some .eq)=false:=by
   show (Ieee.single.order a 1325400064 == some .gt || Ieee.single.order a 1325400064 == some .eq)=false
   rw [hg];rfl
 have h3:(FloatKind.f32.format.order a 3472883712 == some .lt || FloatKind.f32.format.order a 3472883712 == some .eq)=true:=by
   show (Ieee.single.order a 3472883712 == some .lt || Ieee.single.order a 3472883712 == some .eq)=true
   rcases hl with h|h <;> rw [h] <;> rfl
 go_enter Tryz.func121,Tryz.ntmps121
 go_wp2_with (go_at_call 146;refine (number_any _ _).mono ?_;rintro e wq ⟨rfl,hq⟩;subst wq)
 go_ret
 exact ⟨rfl,rfl⟩
theorem toward_int (a:Nat) (n:Int) (w:World) (ho:ok a=true) (hg:Ieee.single.order a 1325400064=some .lt) (hl:Ieee.single.order a 3472883712=some .gt) (hn:floatToIntVal .f32 a .i32=some n) :
   Calls Tryz.prog 121 #[.int .u32 a] w fun e w'=>e=.returned (.int .i32 n)∧w'=w:=by
 have h0:=order_self a
 rw [ho] at h0
 have h1:(FloatKind.f32.format.order a a != some .eq)=false:=by show (Ieee.single.order a a != some .eq)=false;rw [h0];rfl
 have h2:(FloatKind.f32.format.order a 1325400064 == some .gt || FloatKind.f32.format.order a 1325400064 == some .eq)=false:=by
   show (Ieee.single.order a 1325400064 == some .gt || Ieee.single.order a 1325400064 == some .eq)=false
   rw [hg];rfl
 have h3:(FloatKind.f32.format.order a 3472883712 == some .lt || FloatKind.f32.format.order a 3472883712 == some .eq)=false:=by
   show (Ieee.single.order a 3472883712 == some .lt || Ieee.single.order a 3472883712 == some .eq)=false
   rw [hl];rfl
 have hl:=fun (w:World)=>run_convert_float_int (P:=Tryz.prog) w 166 21 .f32 .i32 a n (by kernel_rfl) (by kernel_rfl) hn
 go_enter Tryz.func121,Tryz.ntmps121
 go_wp2_with (go_at_call 146;refine (number_any _ _).mono ?_;rintro e wq ⟨rfl,hq⟩;subst wq)
 go_ret
 exact ⟨rfl,rfl⟩
/-! the few answers that are fixed -/
theorem log_lt {n k:Nat} (hk:0<k) (h:n<2 ^ k):n.log2<k:=by
 by_cases h0:n=0
 · subst h0;simpa using hk
 · exact (Nat.log2_lt h0).2 h
theorem read_nan {a:Nat} (h:ok a=false):(Ieee.single.read a).isNaN=true:=by rw [nan_single,h];rfl
theorem sum_nan_l {d e:Ieee.Datum} (h:d.isNaN=true):d.sum e=none:=by
 cases d <;> first|(simp [Ieee.Datum.isNaN] at h;done)|rfl
theorem sum_nan_r {d e:Ieee.Datum} (h:e.isNaN=true):d.sum e=none:=by
 cases e <;> first|(simp [Ieee.Datum.isNaN] at h;done)|(cases d <;> rfl)
theorem product_nan_l {d e:Ieee.Datum} (h:d.isNaN=true):d.product e=none:=by
 cases d <;> first|(simp [Ieee.Datum.isNaN] at h;done)|rfl
theorem product_nan_r {d e:Ieee.Datum} (h:e.isNaN=true):d.product e=none:=by
 cases e <;> first|(simp [Ieee.Datum.isNaN] at h;done)|(cases d <;> rfl)
theorem quotient_nan_l {n:Nat} {d e:Ieee.Datum} (h:d.isNaN=true):d.quotient n e=none:=by
 cases d <;> first|(simp [Ieee.Datum.isNaN] at h;done)|rfl
theorem quotient_nan_r {n:Nat} {d e:Ieee.Datum} (h:e.isNaN=true):d.quotient n e=none:=by
 cases e <;> first|(simp [Ieee.Datum.isNaN] at h;done)|(cases d <;> rfl)
theorem order_nan_l {d e:Ieee.Datum} (h:d.isNaN=true):d.order e=none:=by
 cases d <;> first|(simp [Ieee.Datum.isNaN] at h;done)|rfl
theorem order_nan_r {d e:Ieee.Datum} (h:e.isNaN=true):d.order e=none:=by
 cases e <;> first|(simp [Ieee.Datum.isNaN] at h;done)|(cases d <;> rfl)
theorem fsum_nan {a b:Nat} (h:ok a=false∨ok b=false):fsum a b=2143289344:=by
 unfold fsum Ieee.Format.add
 rcases h with h|h
 · rw [sum_nan_l (read_nan h)];rfl
 · rw [sum_nan_r (read_nan h)];rfl
theorem fmul_nan {a b:Nat} (h:ok a=false∨ok b=false):fmul a b=2143289344:=by
 unfold fmul Ieee.Format.mul
 rcases h with h|h
 · rw [product_nan_l (read_nan h)];rfl
 · rw [product_nan_r (read_nan h)];rfl
theorem fdiv_nan {a b:Nat} (h:ok a=false∨ok b=false):fdiv a b=2143289344:=by
 unfold fdiv Ieee.Format.div
 rcases h with h|h
 · rw [quotient_nan_l (read_nan h)];rfl
 · rw [quotient_nan_r (read_nan h)];rfl
theorem fstand_nan {a b:Nat} (h:ok a=false∨ok b=false):fstand a b=1:=by
 unfold fstand Ieee.Format.order
 rcases h with h|h
 · rw [order_nan_l (read_nan h)]
 · rw [order_nan_r (read_nan h)]
theorem write_lt32 (d:Ieee.Datum):Ieee.single.write d<4294967296:=Ieee.single.write_lt d
theorem fsum_lt (a b:Nat):fsum a b<4294967296:=by
 unfold fsum
 cases h:Ieee.single.add a b with
 |none=>decide
 |some r=>exact Ieee.single.add_lt h
theorem fmul_lt (a b:Nat):fmul a b<4294967296:=by
 unfold fmul
 cases h:Ieee.single.mul a b with
 |none=>decide
 |some r=>exact Ieee.single.mul_lt h
theorem fdiv_lt (a b:Nat):fdiv a b<4294967296:=by
 unfold fdiv
 cases h:Ieee.single.div a b with
 |none=>decide
 |some r=>exact Ieee.single.div_lt h
theorem rest_any (a b:Nat) (w:World) (hb:b<4294967296) :
   Calls Tryz.prog 125 #[.int .u32 a,.int .u32 b] w fun e w'=>e=.returned (.int .u32 (fsum a (tn b)))∧∃ m,w'=w.drewN m:=by
 go_enter Tryz.func125,Tryz.ntmps125
 go_wp2_with (first
   |(go_at_call 119;refine (turned_any _ _ hb).mono ?_;rintro e wq ⟨rfl,hq⟩;subst wq)
   |(go_at_call 124;refine (sum_any _ _ _).mono ?_;rintro e wq ⟨rfl,m,hq⟩;subst wq))
 go_ret
 exact ⟨rfl,_,rfl⟩
theorem catch_panicking (p q:Addr) (x y:Int) (u:TypeId) (pv:Value) (older:List PanicEntry) (w:World) (hc:w.cell? p=some (.int .u32 x)) (hz:w.frozen? p=false)
   (hc2:(w.setCell p (.int .u32 0)).cell? q=some (.int .i64 y)) (hz2:(w.setCell p (.int .u32 0)).frozen? q=false) :
   CallsD Tryz.prog 122 #[.pointer (some p),.pointer (some q)] (.panicking ({ v:=.iface u pv,recovered:=false } :: older)) w fun e u' w'=>
     e=.returned (.tuple #[])∧u'=.panicking ({ v:=.iface u pv,recovered:=true } :: older)∧w'=(w.setCell p (.int .u32 0)).setCell q (.int .i64 60):=by
 refine callsD_of_wpS Tryz.func122 rfl fun c₀ cs hu=>?_
 apply wpS_seq
 apply wpS_region
 simp [wpOpsS,go_sem,recoverD,hu,Tryz.ntmps122,Exit.thenS]
 refine wpS_cond (t:=true) (by simp [Act.eval,Array.replicate]) ?_
 simp only [if_true]
 apply wpS_region
 simp [wpOpsS,go_sem,hc,hz,hc2,hz2,bodyPostS,results,Tryz.results122]
theorem catch_idle (p q:Addr) (w:World) :
   CallsD Tryz.prog 122 #[.pointer (some p),.pointer (some q)] .returning w fun e u' w'=>e=.returned (.tuple #[])∧u'=.returning∧w'=w:=by
 refine callsD_of_wpS Tryz.func122 rfl fun c₀ cs hu=>?_
 apply wpS_seq
 apply wpS_region
 simp [wpOpsS,go_sem,recoverD,hu,Tryz.ntmps122,Exit.thenS]
 refine wpS_cond (t:=false) (by simp [Act.eval,Array.replicate]) ?_
 simp only [Bool.false_eq_true,if_false]
 refine wpS_of_wp (wp_skip ?_)
 cases c₀
 simp_all [bodyPostS,results,Tryz.results122]
theorem below_two (w:World) (x y:Obj):Below w.heap.size w ((w.alloc x).alloc y):=((Below.refl _ _).alloc (Nat.le_refl _) _).alloc (by simp) _
theorem below_set (w:World) (x y:Obj) (m:Nat) (u v:Value):Below w.heap.size w (((((w.alloc x).alloc y).drewN m).setCell ⟨w.heap.size,0,none⟩ u).setCell ⟨w.heap.size+1,0,none⟩ v):=by
 have h1:Below w.heap.size w (((w.alloc x).alloc y).drewN m):=(below_two w x y).trans ⟨rfl,rfl,rfl,Nat.le_refl _,fun _ _=>rfl⟩
 have h2:=h1.setCell (p:=⟨w.heap.size,0,none⟩) (Nat.le_refl _) u
 exact h2.setCell (p:=⟨w.heap.size+1,0,none⟩) (Nat.le_succ _) v
def sx (a:Nat):Int:=if a<2147483648 then a else (a:Int)-4294967296
theorem wrap32_sx {a:Nat} (h:a<4294967296):wrap32 (a:Int)=sx a:=by unfold wrap32 sx;split <;> omega
theorem sx_zero {a:Nat} (h:a<4294967296):sx a=0↔a=0:=by unfold sx;split <;> omega
theorem wrap32_mod (z:Int):wrap32 z % 4294967296=z % 4294967296:=by unfold wrap32;omega
theorem divu_le {a b:Nat} (h:a<4294967296):(a:Int) / (b:Int) % 4294967296=(a:Int) / (b:Int):=by
 have:=Nat.div_le_self a b
 have e:(a:Int) / (b:Int)=((a / b:Nat):Int):=rfl
 rw [e]
 generalize a / b=c at *
 omega
theorem shift_any (b:Nat) (w:World):Calls Tryz.prog 123 #[.int .u32 b] w fun e w'=>e=.returned (.int .u32 (b % 32:Nat))∧w'=w:=by
 go_enter Tryz.func123,Tryz.ntmps123
 go_wp2
 go_ret
 exact ⟨rfl,rfl⟩
theorem b_divi_any (a b:Nat) (w:World) (ha:a<4294967296) (hb:b<4294967296) (hz:b≠0) :
   Calls Tryz.prog 103 #[.int .u8 42,.int .u32 a,.int .u32 b] w fun e w'=>e=.returned (.tuple #[.int .u32 ((sx a).tdiv (sx b) % 4294967296),.int .i64 0])∧Below w.heap.size w w':=by
 have ea:=wrap32_sx ha
 have eb:=wrap32_sx hb
 have ez:¬ wrap32 (b:Int)=0:=by rw [eb,sx_zero hb];exact hz
 rw [←ea,←eb]
 clear ea eb
 have hmf:∀ (fn:Fn) (first cap:Array Value) (w:World),(Instr.makeFunc fn first cap).run Tryz.prog w=.ok (.func fn first cap) w:=fun _ _ _ _=>rfl
 go_enter_defers Tryz.func103,Tryz.ntmps103
 go_wp2
 refine leaves_cons (f:=122) (args:=#[.pointer (some ⟨w.heap.size,0,none⟩),.pointer (some ⟨w.heap.size+1,0,none⟩)]) (by simp) (by simp [go_sem]) ?_
 refine (catch_idle ⟨w.heap.size,0,none⟩ ⟨w.heap.size+1,0,none⟩ _).mono ?_
 rintro e u' w'' ⟨rfl,rfl,rfl⟩
 simp [Leaves,settle,results,Tryz.results103,go_sem,below_two]
 exact wrap32_mod _
theorem b_divu_any (a b:Nat) (w:World) (ha:a<4294967296) (hz:b≠0) :
   Calls Tryz.prog 103 #[.int .u8 43,.int .u32 a,.int .u32 b] w fun e w'=>e=.returned (.tuple #[.int .u32 (a / b:Nat),.int .i64 0])∧Below w.heap.size w w':=by
 have hmf:∀ (fn:Fn) (first cap:Array Value) (w:World),(Instr.makeFunc fn first cap).run Tryz.prog w=.ok (.func fn first cap) w:=fun _ _ _ _=>rfl
 go_enter_defers Tryz.func103,Tryz.ntmps103
 go_wp2
 refine leaves_cons (f:=122) (args:=#[.pointer (some ⟨w.heap.size,0,none⟩),.pointer (some ⟨w.heap.size+1,0,none⟩)]) (by simp) (by simp [go_sem]) ?_
 refine (catch_idle ⟨w.heap.size,0,none⟩ ⟨w.heap.size+1,0,none⟩ _).mono ?_
 rintro e u' w'' ⟨rfl,rfl,rfl⟩
 simp [Leaves,settle,results,Tryz.results103,go_sem,below_two]
 exact divu_le ha
theorem b_modi_any (a b:Nat) (w:World) (ha:a<4294967296) (hb:b<4294967296) (hz:b≠0) :
   Calls Tryz.prog 103 #[.int .u8 44,.int .u32 a,.int .u32 b] w fun e w'=>e=.returned (.tuple #[.int .u32 ((sx a).tmod (sx b) % 4294967296),.int .i64 0])∧Below w.heap.size w w':=by
 have ea:=wrap32_sx ha
 have eb:=wrap32_sx hb
 have ez:¬ wrap32 (b:Int)=0:=by rw [eb,sx_zero hb];exact hz
 rw [←ea,←eb]
 clear ea eb
 have hmf:∀ (fn:Fn) (first cap:Array Value) (w:World),(Instr.makeFunc fn first cap).run Tryz.prog w=.ok (.func fn first cap) w:=fun _ _ _ _=>rfl
 go_enter_defers Tryz.func103,Tryz.ntmps103
 go_wp2
 refine leaves_cons (f:=122) (args:=#[.pointer (some ⟨w.heap.size,0,none⟩),.pointer (some ⟨w.heap.size+1,0,none⟩)]) (by simp) (by simp [go_sem]) ?_
 refine (catch_idle ⟨w.heap.size,0,none⟩ ⟨w.heap.size+1,0,none⟩ _).mono ?_
 rintro e u' w'' ⟨rfl,rfl,rfl⟩
 simp [Leaves,settle,results,Tryz.results103,go_sem,below_two]
theorem b_modu_any (a b:Nat) (w:World) (hz:b≠0) :
   Calls Tryz.prog 103 #[.int .u8 45,.int .u32 a,.int .u32 b] w fun e w'=>e=.returned (.tuple #[.int .u32 (a % b:Nat),.int .i64 0])∧Below w.heap.size w w':=by
 have hmf:∀ (fn:Fn) (first cap:Array Value) (w:World),(Instr.makeFunc fn first cap).run Tryz.prog w=.ok (.func fn first cap) w:=fun _ _ _ _=>rfl
 go_enter_defers Tryz.func103,Tryz.ntmps103
 go_wp2
 refine leaves_cons (f:=122) (args:=#[.pointer (some ⟨w.heap.size,0,none⟩),.pointer (some ⟨w.heap.size+1,0,none⟩)]) (by simp) (by simp [go_sem]) ?_
 refine (catch_idle ⟨w.heap.size,0,none⟩ ⟨w.heap.size+1,0,none⟩ _).mono ?_
 rintro e u' w'' ⟨rfl,rfl,rfl⟩
 simp [Leaves,settle,results,Tryz.results103,go_sem,below_two]
theorem b_divi0_any (a:Nat) (w:World) :
   Calls Tryz.prog 103 #[.int .u8 42,.int .u32 a,.int .u32 0] w fun e w'=>e=.returned (.tuple #[.int .u32 0,.int .i64 60])∧Below w.heap.size w w':=by
 have hmf:∀ (fn:Fn) (first cap:Array Value) (w:World),(Instr.makeFunc fn first cap).run Tryz.prog w=.ok (.func fn first cap) w:=fun _ _ _ _=>rfl
 go_enter_defers Tryz.func103,Tryz.ntmps103
 go_wp2
 refine leaves_cons (f:=122) (args:=#[.pointer (some ⟨w.heap.size,0,none⟩),.pointer (some ⟨w.heap.size+1,0,none⟩)]) (by simp) (by simp [go_sem]) ?_
 refine (catch_panicking ⟨w.heap.size,0,none⟩ ⟨w.heap.size+1,0,none⟩ 0 0 10 _ [] _ ?_ ?_ ?_ ?_).mono ?_
 · simp [go_sem]
 · simp [go_sem]
 · simp [go_sem]
 · simp [go_sem]
 rintro e u' w'' ⟨rfl,rfl,rfl⟩
 simp [Leaves,settle,results,Tryz.results103,go_sem,below_two]
theorem b_divu0_any (a:Nat) (w:World) :
   Calls Tryz.prog 103 #[.int .u8 43,.int .u32 a,.int .u32 0] w fun e w'=>e=.returned (.tuple #[.int .u32 0,.int .i64 60])∧Below w.heap.size w w':=by
 have hmf:∀ (fn:Fn) (first cap:Array Value) (w:World),(Instr.makeFunc fn first cap).run Tryz.prog w=.ok (.func fn first cap) w:=fun _ _ _ _=>rfl
 go_enter_defers Tryz.func103,Tryz.ntmps103
 go_wp2
 refine leaves_cons (f:=122) (args:=#[.pointer (some ⟨w.heap.size,0,none⟩),.pointer (some ⟨w.heap.size+1,0,none⟩)]) (by simp) (by simp [go_sem]) ?_
 refine (catch_panicking ⟨w.heap.size,0,none⟩ ⟨w.heap.size+1,0,none⟩ 0 0 10 _ [] _ ?_ ?_ ?_ ?_).mono ?_
 · simp [go_sem]
 · simp [go_sem]
 · simp [go_sem]
 · simp [go_sem]
 rintro e u' w'' ⟨rfl,rfl,rfl⟩
 simp [Leaves,settle,results,Tryz.results103,go_sem,below_two]
theorem b_modi0_any (a:Nat) (w:World) :
   Calls Tryz.prog 103 #[.int .u8 44,.int .u32 a,.int .u32 0] w fun e w'=>e=.returned (.tuple #[.int .u32 0,.int .i64 60])∧Below w.heap.size w w':=by
 have hmf:∀ (fn:Fn) (first cap:Array Value) (w:World),(Instr.makeFunc fn first cap).run Tryz.prog w=.ok (.func fn first cap) w:=fun _ _ _ _=>rfl
 go_enter_defers Tryz.func103,Tryz.ntmps103
 go_wp2
 refine leaves_cons (f:=122) (args:=#[.pointer (some ⟨w.heap.size,0,none⟩),.pointer (some ⟨w.heap.size+1,0,none⟩)]) (by simp) (by simp [go_sem]) ?_
 refine (catch_panicking ⟨w.heap.size,0,none⟩ ⟨w.heap.size+1,0,none⟩ 0 0 10 _ [] _ ?_ ?_ ?_ ?_).mono ?_
 · simp [go_sem]
 · simp [go_sem]
 · simp [go_sem]
 · simp [go_sem]
 rintro e u' w'' ⟨rfl,rfl,rfl⟩
 simp [Leaves,settle,results,Tryz.results103,go_sem,below_two]
theorem b_modu0_any (a:Nat) (w:World) :
   Calls Tryz.prog 103 #[.int .u8 45,.int .u32 a,.int .u32 0] w fun e w'=>e=.returned (.tuple #[.int .u32 0,.int .i64 60])∧Below w.heap.size w w':=by
 have hmf:∀ (fn:Fn) (first cap:Array Value) (w:World),(Instr.makeFunc fn first cap).run Tryz.prog w=.ok (.func fn first cap) w:=fun _ _ _ _=>rfl
 go_enter_defers Tryz.func103,Tryz.ntmps103
 go_wp2
 refine leaves_cons (f:=122) (args:=#[.pointer (some ⟨w.heap.size,0,none⟩),.pointer (some ⟨w.heap.size+1,0,none⟩)]) (by simp) (by simp [go_sem]) ?_
 refine (catch_panicking ⟨w.heap.size,0,none⟩ ⟨w.heap.size+1,0,none⟩ 0 0 10 _ [] _ ?_ ?_ ?_ ?_).mono ?_
 · simp [go_sem]
 · simp [go_sem]
 · simp [go_sem]
 · simp [go_sem]
 rintro e u' w'' ⟨rfl,rfl,rfl⟩
 simp [Leaves,settle,results,Tryz.results103,go_sem,below_two]
set_option maxHeartbeats 40000000 in
theorem bA :
   (∀ (a b:Nat) (w:World),Calls Tryz.prog 103 #[.int .u8 39,.int .u32 a,.int .u32 b] w fun e w'=>e=.returned (.tuple #[.int .u32 ((a+b) % 4294967296:Nat),.int .i64 0])∧Below w.heap.size w w') ∧
   (∀ (a b:Nat) (w:World),(a<4294967296)→(b<4294967296)→Calls Tryz.prog 103 #[.int .u8 40,.int .u32 a,.int .u32 b] w fun e w'=>e=.returned (.tuple #[.int .u32 ((a+4294967296-b) % 4294967296:Nat),.int .i64 0])∧Below w.heap.size w w') ∧
   (∀ (a b:Nat) (w:World),Calls Tryz.prog 103 #[.int .u8 41,.int .u32 a,.int .u32 b] w fun e w'=>e=.returned (.tuple #[.int .u32 ((a*b) % 4294967296:Nat),.int .i64 0])∧Below w.heap.size w w') ∧
   (∀ (a b:Nat) (w:World),(a<4294967296)→(b<4294967296)→Calls Tryz.prog 103 #[.int .u8 46,.int .u32 a,.int .u32 b] w fun e w'=>e=.returned (.tuple #[.int .u32 (a &&& b:Nat),.int .i64 0])∧Below w.heap.size w w') ∧
   (∀ (a b:Nat) (w:World),(a<4294967296)→(b<4294967296)→Calls Tryz.prog 103 #[.int .u8 47,.int .u32 a,.int .u32 b] w fun e w'=>e=.returned (.tuple #[.int .u32 (a ||| b:Nat),.int .i64 0])∧Below w.heap.size w w') ∧
   (∀ (a b:Nat) (w:World),(a<4294967296)→(b<4294967296)→Calls Tryz.prog 103 #[.int .u8 48,.int .u32 a,.int .u32 b] w fun e w'=>e=.returned (.tuple #[.int .u32 (a ^^^ b:Nat),.int .i64 0])∧Below w.heap.size w w') ∧
   (∀ (a b:Nat) (w:World),Calls Tryz.prog 103 #[.int .u8 50,.int .u32 a,.int .u32 b] w fun e w'=>e=.returned (.tuple #[.int .u32 (a*2 ^ (b % 32) % 4294967296:Nat),.int .i64 0])∧Below w.heap.size w w') ∧
   (∀ (a b:Nat) (w:World),(a<4294967296)→Calls Tryz.prog 103 #[.int .u8 51,.int .u32 a,.int .u32 b] w fun e w'=>e=.returned (.tuple #[.int .u32 ((sx a) / 2 ^ (b % 32) % 4294967296),.int .i64 0])∧Below w.heap.size w w') ∧
   (∀ (a b:Nat) (w:World),Calls Tryz.prog 103 #[.int .u8 52,.int .u32 a,.int .u32 b] w fun e w'=>e=.returned (.tuple #[.int .u32 (a / 2 ^ (b % 32):Nat),.int .i64 0])∧Below w.heap.size w w') ∧
   (∀ (a b:Nat) (w:World),Calls Tryz.prog 103 #[.int .u8 54,.int .u32 a,.int .u32 b] w fun e w'=>e=.returned (.tuple #[.int .u32 (fsum a b:Nat),.int .i64 0])∧Below w.heap.size w w') ∧
   (∀ (a b:Nat) (w:World),(b<4294967296)→Calls Tryz.prog 103 #[.int .u8 55,.int .u32 a,.int .u32 b] w fun e w'=>e=.returned (.tuple #[.int .u32 (fsum a (tn b):Nat),.int .i64 0])∧Below w.heap.size w w') ∧
   (∀ (a b:Nat) (w:World),Calls Tryz.prog 103 #[.int .u8 56,.int .u32 a,.int .u32 b] w fun e w'=>e=.returned (.tuple #[.int .u32 (fmul a b:Nat),.int .i64 0])∧Below w.heap.size w w') ∧
   (∀ (a b:Nat) (w:World),Calls Tryz.prog 103 #[.int .u8 57,.int .u32 a,.int .u32 b] w fun e w'=>e=.returned (.tuple #[.int .u32 (fdiv a b:Nat),.int .i64 0])∧Below w.heap.size w w'):=by
 refine ⟨?_,?_,?_,?_,?_,?_,?_,?_,?_,?_,?_,?_,?_⟩
 intro a b w
 rotate_left
 intro a b w ha hb
 rotate_left
 intro a b w
 rotate_left
 intro a b w ha hb
 rotate_left
 intro a b w ha hb
 rotate_left
 intro a b w ha hb
 rotate_left
 intro a b w
 rotate_left
 intro a b w ha
 rotate_left
 intro a b w
 rotate_left
 intro a b w
 rotate_left
 intro a b w hb
 rotate_left
 intro a b w
 rotate_left
 intro a b w
 rotate_left
 all_goals (have hmf:∀ (fn:Fn) (first cap:Array Value) (w:World),(Instr.makeFunc fn first cap).run Tryz.prog w=.ok (.func fn first cap) w:=fun _ _ _ _=>rfl)
 all_goals (go_enter_defers Tryz.func103,Tryz.ntmps103)
 focus
   go_wp2
 rotate_left
 focus
   go_wp2
 rotate_left
 focus
   go_wp2
 rotate_left
 focus
   go_wp2
 rotate_left
 focus
   go_wp2
 rotate_left
 focus
   go_wp2
 rotate_left
 focus
   go_wp2_with (go_at_call 123;refine (shift_any _ _).mono ?_;rintro e wq ⟨rfl,hq⟩;subst wq)
 rotate_left
 focus
   go_wp2_with (go_at_call 123;refine (shift_any _ _).mono ?_;rintro e wq ⟨rfl,hq⟩;subst wq)
 rotate_left
 focus
   go_wp2_with (go_at_call 123;refine (shift_any _ _).mono ?_;rintro e wq ⟨rfl,hq⟩;subst wq)
 rotate_left
 focus
   go_wp2_with (go_at_call 124;refine (sum_any _ _ _).mono ?_;rintro e wq ⟨rfl,m,hq⟩;subst wq)
 rotate_left
 focus
   go_wp2_with (go_at_call 125;refine (rest_any _ _ _ hb).mono ?_;rintro e wq ⟨rfl,m,hq⟩;subst wq)
 rotate_left
 focus
   go_wp2_with (go_at_call 126;refine (prod_any _ _ _).mono ?_;rintro e wq ⟨rfl,m,hq⟩;subst wq)
 rotate_left
 focus
   go_wp2_with (go_at_call 127;refine (ratio_any _ _ _).mono ?_;rintro e wq ⟨rfl,m,hq⟩;subst wq)
 rotate_left
 all_goals (refine leaves_cons (f:=122) (args:=#[.pointer (some ⟨w.heap.size,0,none⟩),.pointer (some ⟨w.heap.size+1,0,none⟩)]) (by simp) (by simp [go_sem]) ?_)
 all_goals (refine (catch_idle ⟨w.heap.size,0,none⟩ ⟨w.heap.size+1,0,none⟩ _).mono ?_)
 all_goals (rintro e u' w'' ⟨rfl,rfl,rfl⟩)
 simp [Leaves,settle,results,Tryz.results103,go_sem,below_two]
 simp [Leaves,settle,results,Tryz.results103,go_sem,below_two]
 omega
 simp [Leaves,settle,results,Tryz.results103,go_sem,below_two]
 simp [Leaves,settle,results,Tryz.results103,go_sem,below_two]
 exact u32_and_nat a b ha hb
 simp [Leaves,settle,results,Tryz.results103,go_sem,below_two]
 exact u32_or_nat a b ha hb
 simp [Leaves,settle,results,Tryz.results103,go_sem,below_two]
 exact u32_xor_nat a b ha hb
 simp [Leaves,settle,results,Tryz.results103,go_sem,below_two]
 simp [Leaves,settle,results,Tryz.results103,go_sem,below_two]
 rw [wrap32_sx ha]
 simp [Leaves,settle,results,Tryz.results103,go_sem,below_two]
 simp [Leaves,settle,results,Tryz.results103,go_sem]
 exact below_set _ _ _ _ _ _
 simp [Leaves,settle,results,Tryz.results103,go_sem]
 exact below_set _ _ _ _ _ _
 simp [Leaves,settle,results,Tryz.results103,go_sem]
 exact below_set _ _ _ _ _ _
 simp [Leaves,settle,results,Tryz.results103,go_sem]
 exact below_set _ _ _ _ _ _
abbrev b_add_any:=bA.1
abbrev b_sub_any:=bA.2.1
abbrev b_mul_any:=bA.2.2.1
abbrev b_and_any:=bA.2.2.2.1
abbrev b_or_any:=bA.2.2.2.2.1
abbrev b_xor_any:=bA.2.2.2.2.2.1
abbrev b_shl_any:=bA.2.2.2.2.2.2.1
abbrev b_shri_any:=bA.2.2.2.2.2.2.2.1
abbrev b_shru_any:=bA.2.2.2.2.2.2.2.2.1
abbrev b_addf_any:=bA.2.2.2.2.2.2.2.2.2.1
abbrev b_subf_any:=bA.2.2.2.2.2.2.2.2.2.2.1
abbrev b_mulf_any:=bA.2.2.2.2.2.2.2.2.2.2.2.1
abbrev b_divf_any:=bA.2.2.2.2.2.2.2.2.2.2.2.2
theorem sx_range {a:Nat} (h:a<4294967296) : -2147483648≤sx a∧sx a≤2147483647:=by unfold sx;split <;> omega
theorem b_none_any (op a b:Nat) (w:World) (h39:¬ (op:Int)=39) (h40:¬ (op:Int)=40) (h41:¬ (op:Int)=41) (h42:¬ (op:Int)=42) (h43:¬ (op:Int)=43) (h44:¬ (op:Int)=44) (h45:¬ (op:Int)=45) (h46:¬ (op:Int)=46) (h47:¬ (op:Int)=47) (h48:¬ (op:Int)=48) (h50:¬ (op:Int)=50) (h51:¬ (op:Int)=51) (h52:¬ (op:Int)=52) (h54:¬ (op:Int)=54) (h55:¬ (op:Int)=55) (h56:¬ (op:Int)=56) (h57:¬ (op:Int)=57) :
   Calls Tryz.prog 103 #[.int .u8 op,.int .u32 a,.int .u32 b] w fun e w'=>e=.returned (.tuple #[.int .u32 0,.int .i64 61])∧Below w.heap.size w w':=by
 have hmf:∀ (fn:Fn) (first cap:Array Value) (w:World),(Instr.makeFunc fn first cap).run Tryz.prog w=.ok (.func fn first cap) w:=fun _ _ _ _=>rfl
 go_enter_defers Tryz.func103,Tryz.ntmps103
 go_wp2
 refine leaves_cons (f:=122) (args:=#[.pointer (some ⟨w.heap.size,0,none⟩),.pointer (some ⟨w.heap.size+1,0,none⟩)]) (by simp) (by simp [go_sem]) ?_
 refine (catch_idle ⟨w.heap.size,0,none⟩ ⟨w.heap.size+1,0,none⟩ _).mono ?_
 rintro e u' w'' ⟨rfl,rfl,rfl⟩
 simp [Leaves,settle,results,Tryz.results103,go_sem,below_two]
end Go.Proofs.YtibhlcfligfhdaaGreat
