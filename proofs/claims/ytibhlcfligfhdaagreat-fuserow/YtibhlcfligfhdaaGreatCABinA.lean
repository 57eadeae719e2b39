import Derived.Test.YtibhlcfligfhdaaGreatCPKp
import Derived.Test.YtibhlcfligfhdaaGreatRows
import Derived.WalkKit
import Derived.WalkLawsBesides
import Derived.Laws.BitsAllLaws
import Derived.Deep.QuietTactic
import Derived.BigQuiet
import Derived.WalkSmall
import Derived.Laws.AppendOwn
namespace Go.Proofs.YtibhlcfligfhdaaGreat
set_option maxHeartbeats 4000000
open Go.RowKit
set_option maxRecDepth 100000
def binV (op a b:Nat):Nat:=if op=39 then (((a+b) % 4294967296:Nat)) else if op=40 then (((a+4294967296-b) % 4294967296:Nat)) else if op=41 then (((a*b) % 4294967296:Nat)) else if op=42 then (if b=0 then 0 else (((sx a).tdiv (sx b) % 4294967296)).toNat) else if op=43 then (if b=0 then 0 else (a / b:Nat)) else if op=44 then (if b=0 then 0 else (((sx a).tmod (sx b) % 4294967296)).toNat) else if op=45 then (if b=0 then 0 else (a % b:Nat)) else if op=46 then ((a &&& b:Nat)) else if op=47 then ((a ||| b:Nat)) else if op=48 then ((a ^^^ b:Nat)) else if op=50 then ((a*2 ^ (b % 32) % 4294967296:Nat)) else if op=51 then ((((sx a) / 2 ^ (b % 32) % 4294967296)).toNat) else if op=52 then ((a / 2 ^ (b % 32):Nat)) else if op=54 then (fsum a b) else if op=55 then (fsum a (tn b)) else if op=56 then (fmul a b) else if op=57 then (fdiv a b) else 0
def binE (op b:Nat):Int:=if op=42∨op=43∨op=44∨op=45 then (if b=0 then 60 else 0) else if 39≤op∧op≤57∧op≠49∧op≠53 then 0 else 61
theorem binV_39 (a b:Nat):binV 39 a b=(((a+b) % 4294967296:Nat)):=by
 unfold binV
 repeat (first|rw [if_pos rfl]|rw [if_neg (by decide)])
theorem binE_39 (b:Nat):binE 39 b=0:=by
 unfold binE
 rw [if_neg (by decide),if_pos (by decide)]
theorem binV_40 (a b:Nat):binV 40 a b=(((a+4294967296-b) % 4294967296:Nat)):=by
 unfold binV
 repeat (first|rw [if_pos rfl]|rw [if_neg (by decide)])
theorem binE_40 (b:Nat):binE 40 b=0:=by
 unfold binE
 rw [if_neg (by decide),if_pos (by decide)]
theorem binV_41 (a b:Nat):binV 41 a b=(((a*b) % 4294967296:Nat)):=by
 unfold binV
 repeat (first|rw [if_pos rfl]|rw [if_neg (by decide)])
theorem binE_41 (b:Nat):binE 41 b=0:=by
 unfold binE
 rw [if_neg (by decide),if_pos (by decide)]
theorem binV_42 (a b:Nat):binV 42 a b=(if b=0 then 0 else (((sx a).tdiv (sx b) % 4294967296)).toNat):=by
 unfold binV
 repeat (first|rw [if_pos rfl]|rw [if_neg (by decide)])
theorem binE_42 (b:Nat):binE 42 b=if b=0 then 60 else 0:=by
 unfold binE
 rw [if_pos (by decide)]
theorem binV_43 (a b:Nat):binV 43 a b=(if b=0 then 0 else (a / b:Nat)):=by
 unfold binV
 repeat (first|rw [if_pos rfl]|rw [if_neg (by decide)])
theorem binE_43 (b:Nat):binE 43 b=if b=0 then 60 else 0:=by
 unfold binE
 rw [if_pos (by decide)]
theorem binV_44 (a b:Nat):binV 44 a b=(if b=0 then 0 else (((sx a).tmod (sx b) % 4294967296)).toNat):=by
 unfold binV
 repeat (first|rw [if_pos rfl]|rw [if_neg (by decide)])
theorem binE_44 (b:Nat):binE 44 b=if b=0 then 60 else 0:=by
 unfold binE
 rw [if_pos (by decide)]
theorem binV_45 (a b:Nat):binV 45 a b=(if b=0 then 0 else (a % b:Nat)):=by
 unfold binV
 repeat (first|rw [if_pos rfl]|rw [if_neg (by decide)])
theorem binE_45 (b:Nat):binE 45 b=if b=0 then 60 else 0:=by
 unfold binE
 rw [if_pos (by decide)]
theorem binV_46 (a b:Nat):binV 46 a b=((a &&& b:Nat)):=by
 unfold binV
 repeat (first|rw [if_pos rfl]|rw [if_neg (by decide)])
theorem binE_46 (b:Nat):binE 46 b=0:=by
 unfold binE
 rw [if_neg (by decide),if_pos (by decide)]
theorem binV_47 (a b:Nat):binV 47 a b=((a ||| b:Nat)):=by
 unfold binV
 repeat (first|rw [if_pos rfl]|rw [if_neg (by decide)])
theorem binE_47 (b:Nat):binE 47 b=0:=by
 unfold binE
 rw [if_neg (by decide),if_pos (by decide)]
theorem binV_48 (a b:Nat):binV 48 a b=((a ^^^ b:Nat)):=by
 unfold binV
 repeat (first|rw [if_pos rfl]|rw [if_neg (by decide)])
theorem binE_48 (b:Nat):binE 48 b=0:=by
 unfold binE
 rw [if_neg (by decide),if_pos (by decide)]
theorem binV_50 (a b:Nat):binV 50 a b=((a*2 ^ (b % 32) % 4294967296:Nat)):=by
 unfold binV
 repeat (first|rw [if_pos rfl]|rw [if_neg (by decide)])
theorem binE_50 (b:Nat):binE 50 b=0:=by
 unfold binE
 rw [if_neg (by decide),if_pos (by decide)]
theorem binV_51 (a b:Nat):binV 51 a b=((((sx a) / 2 ^ (b % 32) % 4294967296)).toNat):=by
 unfold binV
 repeat (first|rw [if_pos rfl]|rw [if_neg (by decide)])
theorem binE_51 (b:Nat):binE 51 b=0:=by
 unfold binE
 rw [if_neg (by decide),if_pos (by decide)]
theorem binV_52 (a b:Nat):binV 52 a b=((a / 2 ^ (b % 32):Nat)):=by
 unfold binV
 repeat (first|rw [if_pos rfl]|rw [if_neg (by decide)])
theorem binE_52 (b:Nat):binE 52 b=0:=by
 unfold binE
 rw [if_neg (by decide),if_pos (by decide)]
theorem binV_54 (a b:Nat):binV 54 a b=(fsum a b):=by
 unfold binV
 repeat (first|rw [if_pos rfl]|rw [if_neg (by decide)])
theorem binE_54 (b:Nat):binE 54 b=0:=by
 unfold binE
 rw [if_neg (by decide),if_pos (by decide)]
theorem binV_55 (a b:Nat):binV 55 a b=(fsum a (tn b)):=by
 unfold binV
 repeat (first|rw [if_pos rfl]|rw [if_neg (by decide)])
theorem binE_55 (b:Nat):binE 55 b=0:=by
 unfold binE
 rw [if_neg (by decide),if_pos (by decide)]
theorem binV_56 (a b:Nat):binV 56 a b=(fmul a b):=by
 unfold binV
 repeat (first|rw [if_pos rfl]|rw [if_neg (by decide)])
theorem binE_56 (b:Nat):binE 56 b=0:=by
 unfold binE
 rw [if_neg (by decide),if_pos (by decide)]
theorem binV_57 (a b:Nat):binV 57 a b=(fdiv a b):=by
 unfold binV
 repeat (first|rw [if_pos rfl]|rw [if_neg (by decide)])
theorem binE_57 (b:Nat):binE 57 b=0:=by
 unfold binE
 rw [if_neg (by decide),if_pos (by decide)]
theorem anat_of {z:Int}:((z % 4294967296).toNat:Int)=z % 4294967296:=Int.toNat_of_nonneg (Int.emod_nonneg _ (by decide))
theorem bin_any (op a b:Nat) (w:World) (ha:a<4294967296) (hb:b<4294967296) :
   Calls Tryz.prog 103 #[.int .u8 op,.int .u32 a,.int .u32 b] w fun e w'=>e=.returned (.tuple #[.int .u32 (binV op a b),.int .i64 (binE op b)])∧Below w.heap.size w w':=by
 by_cases h39:op=39
 · subst h39
   rw [binV_39,binE_39]
   exact b_add_any a b w 
 by_cases h40:op=40
 · subst h40
   rw [binV_40,binE_40]
   exact b_sub_any a b w ha hb
 by_cases h41:op=41
 · subst h41
   rw [binV_41,binE_41]
   exact b_mul_any a b w 
 by_cases h42:op=42
 · subst h42
   by_cases hz:b=0
   · subst hz
     rw [binV_42,binE_42,if_pos rfl,if_pos rfl]
     exact b_divi0_any a w
   · have:=b_divi_any a b w ha hb hz
     rw [←anat_of] at this
     rw [binV_42,binE_42,if_neg hz,if_neg hz]
     exact this
 by_cases h43:op=43
 · subst h43
   by_cases hz:b=0
   · subst hz
     rw [binV_43,binE_43,if_pos rfl,if_pos rfl]
     exact b_divu0_any a w
   · have:=b_divu_any a b w ha hz
     rw [binV_43,binE_43,if_neg hz,if_neg hz]
     exact this
 by_cases h44:op=44
 · subst h44
   by_cases hz:b=0
   · subst hz
     rw [binV_44,binE_44,if_pos rfl,if_pos rfl]
     exact b_modi0_any a w
   · have:=b_modi_any a b w ha hb hz
     rw [←anat_of] at this
     rw [binV_44,binE_44,if_neg hz,if_neg hz]
     exact this
 by_cases h45:op=45
 · subst h45
   by_cases hz:b=0
   · subst hz
     rw [binV_45,binE_45,if_pos rfl,if_pos rfl]
     exact b_modu0_any a w
   · have:=b_modu_any a b w hz
     rw [binV_45,binE_45,if_neg hz,if_neg hz]
     exact this
 by_cases h46:op=46
 · subst h46
   rw [binV_46,binE_46]
   exact b_and_any a b w ha hb
 by_cases h47:op=47
 · subst h47
   rw [binV_47,binE_47]
   exact b_or_any a b w ha hb
 by_cases h48:op=48
 · subst h48
   rw [binV_48,binE_48]
   exact b_xor_any a b w ha hb
 by_cases h50:op=50
 · subst h50
   rw [binV_50,binE_50]
   exact b_shl_any a b w 
 by_cases h51:op=51
 · subst h51
   have:=b_shri_any a b w ha
   rw [←anat_of] at this
   rw [binV_51,binE_51]
   exact this
 by_cases h52:op=52
 · subst h52
   rw [binV_52,binE_52]
   exact b_shru_any a b w 
 by_cases h54:op=54
 · subst h54
   rw [binV_54,binE_54]
   exact b_addf_any a b w
 by_cases h55:op=55
 · subst h55
   rw [binV_55,binE_55]
   exact b_subf_any a b w hb
 by_cases h56:op=56
 · subst h56
   rw [binV_56,binE_56]
   exact b_mulf_any a b w
 by_cases h57:op=57
 · subst h57
   rw [binV_57,binE_57]
   exact b_divf_any a b w
 have h0:binV op a b=0:=by unfold binV;simp only [if_neg h39,if_neg h40,if_neg h41,if_neg h42,if_neg h43,if_neg h44,if_neg h45,if_neg h46,if_neg h47,if_neg h48,if_neg h50,if_neg h51,if_neg h52,if_neg h54,if_neg h55,if_neg h56,if_neg h57]
 have h1:binE op b=61:=by unfold binE;rw [if_neg (by omega),if_neg (by omega)]
 rw [h0,h1]
 exact b_none_any op a b w (by omega) (by omega) (by omega) (by omega) (by omega) (by omega) (by omega) (by omega) (by omega) (by omega) (by omega) (by omega) (by omega) (by omega) (by omega) (by omega) (by omega)
theorem beq_cast (a b:Nat):((a:Int) == (b:Int))=decide (a=b):=by
 by_cases h:a=b
 · subst h;simp
 · rw [decide_eq_false h];simp;omega
theorem stds_any (a b x y:Nat) (w:World) :
   Calls Tryz.prog 101 #[.int .u32 a,.int .u32 b,.int .u8 x,.int .u8 y] w fun e w'=>e=.returned (.bool (decide (fstand a b=x) || decide (fstand a b=y)))∧w'=w:=by
 go_enter Tryz.func101,Tryz.ntmps101
 go_wp2_with (go_at_call 118;refine (stand_any _ _ _).mono ?_;rintro e wq ⟨rfl,hq⟩;subst wq)
 all_goals (go_ret;refine ⟨?_,rfl⟩;simp_all [beq_cast];try omega)
theorem h_eq_any (a b:Nat) (w:World) :
   Calls Tryz.prog 85 #[.int .u8 13,.int .u32 a,.int .u32 b] w fun e w'=>e=.returned (.tuple #[.bool (decide (a=b)),.int .i64 0])∧w'=w:=by
 go_enter Tryz.func85,Tryz.ntmps85
 go_wp2
 simp [bodyPost,results,Tryz.results85]
 exact beq_cast a b
theorem h_ne_any (a b:Nat) (w:World) :
   Calls Tryz.prog 85 #[.int .u8 14,.int .u32 a,.int .u32 b] w fun e w'=>e=.returned (.tuple #[.bool (decide (a≠b)),.int .i64 0])∧w'=w:=by
 go_enter Tryz.func85,Tryz.ntmps85
 go_wp2
 simp [bodyPost,results,Tryz.results85]
 rw [bne,beq_cast]
theorem h_lti_any (a b:Nat) (w:World) (ha:a<4294967296) (hb:b<4294967296) :
   Calls Tryz.prog 85 #[.int .u8 15,.int .u32 a,.int .u32 b] w fun e w'=>e=.returned (.tuple #[.bool (decide (sx a<sx b)),.int .i64 0])∧w'=w:=by
 rw [←wrap32_sx ha,←wrap32_sx hb]
 go_enter Tryz.func85,Tryz.ntmps85
 go_wp2
 simp [bodyPost,results,Tryz.results85]
theorem h_lei_any (a b:Nat) (w:World) (ha:a<4294967296) (hb:b<4294967296) :
   Calls Tryz.prog 85 #[.int .u8 16,.int .u32 a,.int .u32 b] w fun e w'=>e=.returned (.tuple #[.bool (decide (sx a≤sx b)),.int .i64 0])∧w'=w:=by
 rw [←wrap32_sx ha,←wrap32_sx hb]
 go_enter Tryz.func85,Tryz.ntmps85
 go_wp2
 simp [bodyPost,results,Tryz.results85]
theorem h_gti_any (a b:Nat) (w:World) (ha:a<4294967296) (hb:b<4294967296) :
   Calls Tryz.prog 85 #[.int .u8 17,.int .u32 a,.int .u32 b] w fun e w'=>e=.returned (.tuple #[.bool (decide (sx b<sx a)),.int .i64 0])∧w'=w:=by
 rw [←wrap32_sx ha,←wrap32_sx hb]
 go_enter Tryz.func85,Tryz.ntmps85
 go_wp2
 simp [bodyPost,results,Tryz.results85]
theorem h_gei_any (a b:Nat) (w:World) (ha:a<4294967296) (hb:b<4294967296) :
   Calls Tryz.prog 85 #[.int .u8 18,.int .u32 a,.int .u32 b] w fun e w'=>e=.returned (.tuple #[.bool (decide (sx b≤sx a)),.int .i64 0])∧w'=w:=by
 rw [←wrap32_sx ha,←wrap32_sx hb]
 go_enter Tryz.func85,Tryz.ntmps85
 go_wp2
 simp [bodyPost,results,Tryz.results85]
theorem h_ltu_any (a b:Nat) (w:World) :
   Calls Tryz.prog 85 #[.int .u8 19,.int .u32 a,.int .u32 b] w fun e w'=>e=.returned (.tuple #[.bool (decide (a<b)),.int .i64 0])∧w'=w:=by
 go_enter Tryz.func85,Tryz.ntmps85
 go_wp2
 simp [bodyPost,results,Tryz.results85]
theorem h_leu_any (a b:Nat) (w:World) :
   Calls Tryz.prog 85 #[.int .u8 20,.int .u32 a,.int .u32 b] w fun e w'=>e=.returned (.tuple #[.bool (decide (a≤b)),.int .i64 0])∧w'=w:=by
 go_enter Tryz.func85,Tryz.ntmps85
 go_wp2
 simp [bodyPost,results,Tryz.results85]
theorem h_gtu_any (a b:Nat) (w:World) :
   Calls Tryz.prog 85 #[.int .u8 21,.int .u32 a,.int .u32 b] w fun e w'=>e=.returned (.tuple #[.bool (decide (b<a)),.int .i64 0])∧w'=w:=by
 go_enter Tryz.func85,Tryz.ntmps85
 go_wp2
 simp [bodyPost,results,Tryz.results85]
theorem h_geu_any (a b:Nat) (w:World) :
   Calls Tryz.prog 85 #[.int .u8 22,.int .u32 a,.int .u32 b] w fun e w'=>e=.returned (.tuple #[.bool (decide (b≤a)),.int .i64 0])∧w'=w:=by
 go_enter Tryz.func85,Tryz.ntmps85
 go_wp2
 simp [bodyPost,results,Tryz.results85]
theorem h_eqf_any (a b:Nat) (w:World) :
   Calls Tryz.prog 85 #[.int .u8 23,.int .u32 a,.int .u32 b] w fun e w'=>e=.returned (.tuple #[.bool (decide (fstand a b=3)),.int .i64 0])∧w'=w:=by
 have hc:∀ w,Calls Tryz.prog 101 #[.int .u32 a,.int .u32 b,.int .u8 3,.int .u8 3] w fun e w'=>e=.returned (.bool (decide (fstand a b=3) || decide (fstand a b=3)))∧w'=w:=fun w=>stds_any a b 3 3 w
 go_enter Tryz.func85,Tryz.ntmps85
 go_wp2_with (go_at_call 101;refine (hc _).mono ?_;rintro e wq ⟨rfl,hq⟩;subst wq)
 simp [bodyPost,results,Tryz.results85]
theorem h_nef_any (a b:Nat) (w:World) :
   Calls Tryz.prog 85 #[.int .u8 24,.int .u32 a,.int .u32 b] w fun e w'=>e=.returned (.tuple #[.bool (!decide (fstand a b=3)),.int .i64 0])∧w'=w:=by
 have hc:∀ w,Calls Tryz.prog 101 #[.int .u32 a,.int .u32 b,.int .u8 3,.int .u8 3] w fun e w'=>e=.returned (.bool (decide (fstand a b=3) || decide (fstand a b=3)))∧w'=w:=fun w=>stds_any a b 3 3 w
 go_enter Tryz.func85,Tryz.ntmps85
 go_wp2_with (go_at_call 101;refine (hc _).mono ?_;rintro e wq ⟨rfl,hq⟩;subst wq)
 simp [bodyPost,results,Tryz.results85]
theorem h_ltf_any (a b:Nat) (w:World) :
   Calls Tryz.prog 85 #[.int .u8 25,.int .u32 a,.int .u32 b] w fun e w'=>e=.returned (.tuple #[.bool (decide (fstand a b=2)),.int .i64 0])∧w'=w:=by
 have hc:∀ w,Calls Tryz.prog 101 #[.int .u32 a,.int .u32 b,.int .u8 2,.int .u8 2] w fun e w'=>e=.returned (.bool (decide (fstand a b=2) || decide (fstand a b=2)))∧w'=w:=fun w=>stds_any a b 2 2 w
 go_enter Tryz.func85,Tryz.ntmps85
 go_wp2_with (go_at_call 101;refine (hc _).mono ?_;rintro e wq ⟨rfl,hq⟩;subst wq)
 simp [bodyPost,results,Tryz.results85]
theorem h_lef_any (a b:Nat) (w:World) :
   Calls Tryz.prog 85 #[.int .u8 26,.int .u32 a,.int .u32 b] w fun e w'=>e=.returned (.tuple #[.bool ((decide (fstand a b=2) || decide (fstand a b=3))),.int .i64 0])∧w'=w:=by
 have hc:∀ w,Calls Tryz.prog 101 #[.int .u32 a,.int .u32 b,.int .u8 2,.int .u8 3] w fun e w'=>e=.returned (.bool (decide (fstand a b=2) || decide (fstand a b=3)))∧w'=w:=fun w=>stds_any a b 2 3 w
 go_enter Tryz.func85,Tryz.ntmps85
 go_wp2_with (go_at_call 101;refine (hc _).mono ?_;rintro e wq ⟨rfl,hq⟩;subst wq)
 simp [bodyPost,results,Tryz.results85]
theorem h_gtf_any (a b:Nat) (w:World) :
   Calls Tryz.prog 85 #[.int .u8 27,.int .u32 a,.int .u32 b] w fun e w'=>e=.returned (.tuple #[.bool (decide (fstand a b=4)),.int .i64 0])∧w'=w:=by
 have hc:∀ w,Calls Tryz.prog 101 #[.int .u32 a,.int .u32 b,.int .u8 4,.int .u8 4] w fun e w'=>e=.returned (.bool (decide (fstand a b=4) || decide (fstand a b=4)))∧w'=w:=fun w=>stds_any a b 4 4 w
 go_enter Tryz.func85,Tryz.ntmps85
 go_wp2_with (go_at_call 101;refine (hc _).mono ?_;rintro e wq ⟨rfl,hq⟩;subst wq)
 simp [bodyPost,results,Tryz.results85]
theorem h_gef_any (a b:Nat) (w:World) :
   Calls Tryz.prog 85 #[.int .u8 28,.int .u32 a,.int .u32 b] w fun e w'=>e=.returned (.tuple #[.bool ((decide (fstand a b=4) || decide (fstand a b=3))),.int .i64 0])∧w'=w:=by
 have hc:∀ w,Calls Tryz.prog 101 #[.int .u32 a,.int .u32 b,.int .u8 4,.int .u8 3] w fun e w'=>e=.returned (.bool (decide (fstand a b=4) || decide (fstand a b=3)))∧w'=w:=fun w=>stds_any a b 4 3 w
 go_enter Tryz.func85,Tryz.ntmps85
 go_wp2_with (go_at_call 101;refine (hc _).mono ?_;rintro e wq ⟨rfl,hq⟩;subst wq)
 simp [bodyPost,results,Tryz.results85]
theorem h_none_any (op a b:Nat) (w:World) (h13:¬ (op:Int)=13) (h14:¬ (op:Int)=14) (h15:¬ (op:Int)=15) (h16:¬ (op:Int)=16) (h17:¬ (op:Int)=17) (h18:¬ (op:Int)=18) (h19:¬ (op:Int)=19) (h20:¬ (op:Int)=20) (h21:¬ (op:Int)=21) (h22:¬ (op:Int)=22) (h23:¬ (op:Int)=23) (h24:¬ (op:Int)=24) (h25:¬ (op:Int)=25) (h26:¬ (op:Int)=26) (h27:¬ (op:Int)=27) (h28:¬ (op:Int)=28) :
   Calls Tryz.prog 85 #[.int .u8 op,.int .u32 a,.int .u32 b] w fun e w'=>e=.returned (.tuple #[.bool false,.int .i64 61])∧w'=w:=by
 go_enter Tryz.func85,Tryz.ntmps85
 go_wp2
 simp [bodyPost,results,Tryz.results85]
def hoV (op a b:Nat):Bool:=if op=13 then (decide (a=b)) else if op=14 then (decide (a≠b)) else if op=15 then (decide (sx a<sx b)) else if op=16 then (decide (sx a≤sx b)) else if op=17 then (decide (sx b<sx a)) else if op=18 then (decide (sx b≤sx a)) else if op=19 then (decide (a<b)) else if op=20 then (decide (a≤b)) else if op=21 then (decide (b<a)) else if op=22 then (decide (b≤a)) else if op=23 then (decide (fstand a b=3)) else if op=24 then (!decide (fstand a b=3)) else if op=25 then (decide (fstand a b=2)) else if op=26 then ((decide (fstand a b=2) || decide (fstand a b=3))) else if op=27 then (decide (fstand a b=4)) else if op=28 then ((decide (fstand a b=4) || decide (fstand a b=3))) else false
def hoE (op:Nat):Int:=if 13≤op∧op≤28 then 0 else 61
theorem hoV_13 (a b:Nat):hoV 13 a b=(decide (a=b)):=by
 unfold hoV
 repeat (first|rw [if_pos rfl]|rw [if_neg (by decide)])
theorem hoV_14 (a b:Nat):hoV 14 a b=(decide (a≠b)):=by
 unfold hoV
 repeat (first|rw [if_pos rfl]|rw [if_neg (by decide)])
theorem hoV_15 (a b:Nat):hoV 15 a b=(decide (sx a<sx b)):=by
 unfold hoV
 repeat (first|rw [if_pos rfl]|rw [if_neg (by decide)])
theorem hoV_16 (a b:Nat):hoV 16 a b=(decide (sx a≤sx b)):=by
 unfold hoV
 repeat (first|rw [if_pos rfl]|rw [if_neg (by decide)])
theorem hoV_17 (a b:Nat):hoV 17 a b=(decide (sx b<sx a)):=by
 unfold hoV
 repeat (first|rw [if_pos rfl]|rw [if_neg (by decide)])
theorem hoV_18 (a b:Nat):hoV 18 a b=(decide (sx b≤sx a)):=by
 unfold hoV
 repeat (first|rw [if_pos rfl]|rw [if_neg (by decide)])
theorem hoV_19 (a b:Nat):hoV 19 a b=(decide (a<b)):=by
 unfold hoV
 repeat (first|rw [if_pos rfl]|rw [if_neg (by decide)])
theorem hoV_20 (a b:Nat):hoV 20 a b=(decide (a≤b)):=by
 unfold hoV
 repeat (first|rw [if_pos rfl]|rw [if_neg (by decide)])
theorem hoV_21 (a b:Nat):hoV 21 a b=(decide (b<a)):=by
 unfold hoV
 repeat (first|rw [if_pos rfl]|rw [if_neg (by decide)])
theorem hoV_22 (a b:Nat):hoV 22 a b=(decide (b≤a)):=by
 unfold hoV
 repeat (first|rw [if_pos rfl]|rw [if_neg (by decide)])
theorem hoV_23 (a b:Nat):hoV 23 a b=(decide (fstand a b=3)):=by
 unfold hoV
 repeat (first|rw [if_pos rfl]|rw [if_neg (by decide)])
theorem hoV_24 (a b:Nat):hoV 24 a b=(!decide (fstand a b=3)):=by
 unfold hoV
 repeat (first|rw [if_pos rfl]|rw [if_neg (by decide)])
theorem hoV_25 (a b:Nat):hoV 25 a b=(decide (fstand a b=2)):=by
 unfold hoV
 repeat (first|rw [if_pos rfl]|rw [if_neg (by decide)])
theorem hoV_26 (a b:Nat):hoV 26 a b=((decide (fstand a b=2) || decide (fstand a b=3))):=by
 unfold hoV
 repeat (first|rw [if_pos rfl]|rw [if_neg (by decide)])
theorem hoV_27 (a b:Nat):hoV 27 a b=(decide (fstand a b=4)):=by
 unfold hoV
 repeat (first|rw [if_pos rfl]|rw [if_neg (by decide)])
theorem hoV_28 (a b:Nat):hoV 28 a b=((decide (fstand a b=4) || decide (fstand a b=3))):=by
 unfold hoV
 repeat (first|rw [if_pos rfl]|rw [if_neg (by decide)])
theorem ho_any (op a b:Nat) (w:World) (ha:a<4294967296) (hb:b<4294967296) :
   Calls Tryz.prog 85 #[.int .u8 op,.int .u32 a,.int .u32 b] w fun e w'=>e=.returned (.tuple #[.bool (hoV op a b),.int .i64 (hoE op)])∧w'=w:=by
 by_cases h13:op=13
 · subst h13
   rw [hoV_13,show hoE 13=0 from rfl]
   exact h_eq_any a b w
 by_cases h14:op=14
 · subst h14
   rw [hoV_14,show hoE 14=0 from rfl]
   exact h_ne_any a b w
 by_cases h15:op=15
 · subst h15
   rw [hoV_15,show hoE 15=0 from rfl]
   exact h_lti_any a b w ha hb
 by_cases h16:op=16
 · subst h16
   rw [hoV_16,show hoE 16=0 from rfl]
   exact h_lei_any a b w ha hb
 by_cases h17:op=17
 · subst h17
   rw [hoV_17,show hoE 17=0 from rfl]
   exact h_gti_any a b w ha hb
 by_cases h18:op=18
 · subst h18
   rw [hoV_18,show hoE 18=0 from rfl]
   exact h_gei_any a b w ha hb
 by_cases h19:op=19
 · subst h19
   rw [hoV_19,show hoE 19=0 from rfl]
   exact h_ltu_any a b w
 by_cases h20:op=20
 · subst h20
   rw [hoV_20,show hoE 20=0 from rfl]
   exact h_leu_any a b w
 by_cases h21:op=21
 · subst h21
   rw [hoV_21,show hoE 21=0 from rfl]
   exact h_gtu_any a b w
 by_cases h22:op=22
 · subst h22
   rw [hoV_22,show hoE 22=0 from rfl]
   exact h_geu_any a b w
 by_cases h23:op=23
 · subst h23
   rw [hoV_23,show hoE 23=0 from rfl]
   exact h_eqf_any a b w
 by_cases h24:op=24
 · subst h24
   rw [hoV_24,show hoE 24=0 from rfl]
   exact h_nef_any a b w
 by_cases h25:op=25
 · subst h25
   rw [hoV_25,show hoE 25=0 from rfl]
   exact h_ltf_any a b w
 by_cases h26:op=26
 · subst h26
   rw [hoV_26,show hoE 26=0 from rfl]
   exact h_lef_any a b w
 by_cases h27:op=27
 · subst h27
   rw [hoV_27,show hoE 27=0 from rfl]
   exact h_gtf_any a b w
 by_cases h28:op=28
 · subst h28
   rw [hoV_28,show hoE 28=0 from rfl]
   exact h_gef_any a b w
 have h0:hoV op a b=false:=by unfold hoV;simp only [if_neg h13,if_neg h14,if_neg h15,if_neg h16,if_neg h17,if_neg h18,if_neg h19,if_neg h20,if_neg h21,if_neg h22,if_neg h23,if_neg h24,if_neg h25,if_neg h26,if_neg h27,if_neg h28]
 have h1:hoE op=61:=by unfold hoE;rw [if_neg (by omega)]
 rw [h0,h1]
 exact h_none_any op a b w (by omega) (by omega) (by omega) (by omega) (by omega) (by omega) (by omega) (by omega) (by omega) (by omega) (by omega) (by omega) (by omega) (by omega) (by omega) (by omega)
/-! numbers as lists of words of 32 bits,the lowest first -/
def nv:List Nat→Nat
 | []=>0
 |z :: zs=>z+4294967296*nv zs
def ReadsU (w:World) (ao:Option Addr) (zs:List Nat) (B:Nat):Prop:=
 0<zs.length→∃ b off,ao=some ⟨b,off,none⟩∧b<B∧∀ j,j<zs.length→w.cell? ⟨b,off+j,none⟩=some (.int .u32 (zs.getD j 0:Nat))
theorem ReadsU.below {w w':World} {ao:Option Addr} {zs:List Nat} {B:Nat} (h:ReadsU w ao zs B) (hb:Below B w w'):ReadsU w' ao zs B:=by
 intro hl
 obtain ⟨b,off,e,hlt,hc⟩:=h hl
 exact ⟨b,off,e,hlt,fun j hj=>(hb.cell (p:=⟨b,off+j,none⟩) hlt).trans (hc j hj)⟩
theorem ReadsU.mono {w:World} {ao:Option Addr} {zs:List Nat} {B C:Nat} (h:ReadsU w ao zs B) (hb:B≤C):ReadsU w ao zs C:=by
 intro hl
 obtain ⟨b,off,e,hlt,hc⟩:=h hl
 exact ⟨b,off,e,Nat.lt_of_lt_of_le hlt hb,hc⟩
theorem ReadsU.take {w:World} {ao:Option Addr} {zs:List Nat} {B:Nat} (h:ReadsU w ao zs B) (n:Nat) (hn:n≤zs.length):ReadsU w ao (zs.take n) B:=by
 intro hl
 have e1:(zs.take n).length=n:=by simp;omega
 rw [e1] at hl
 obtain ⟨b,off,e,hlt,hc⟩:=h (by omega)
 refine ⟨b,off,e,hlt,fun j hj=>?_⟩
 rw [e1] at hj
 rw [hc j (by omega)]
 simp [List.getD,hj]
def Norm (zs:List Nat):Prop:=zs.length=0∨zs.getD (zs.length-1) 0≠0
def Words (zs:List Nat):Prop:=∀ z∈zs,z<4294967296
theorem words_get {zs:List Nat} (h:Words zs) (j:Nat):zs.getD j 0<4294967296:=by
 by_cases hj:j<zs.length
 · simp only [List.getD,List.getElem?_eq_getElem hj,Option.getD_some];exact h _ (List.getElem_mem hj)
 · simp [List.getD,List.getElem?_eq_none (Nat.le_of_not_lt hj)]
theorem nv_append (xs ys:List Nat):nv (xs ++ ys)=nv xs+4294967296 ^ xs.length*nv ys:=by
 induction xs with
 |nil=>simp [nv]
 | cons x xs ih=>
   simp only [List.cons_append,nv,ih,List.length_cons,Nat.pow_succ]
   rw [Nat.mul_add,Nat.mul_comm (4294967296 ^ xs.length) 4294967296,Nat.mul_assoc,Nat.add_assoc]
theorem nv_zero {zs:List Nat} (h:∀ z∈zs,z=0):nv zs=0:=by
 induction zs with
 |nil=>rfl
 | cons z zs ih=>
   simp only [nv]
   rw [h z (by simp),ih (fun y hy=>h y (by simp [hy]))]
theorem nv_lt {zs:List Nat} (h:Words zs):nv zs<4294967296 ^ zs.length:=by
 induction zs with
 |nil=>simp [nv]
 | cons z zs ih=>
   simp only [nv,List.length_cons,Nat.pow_succ]
   have h1:=h z (by simp)
   have h2:=ih (fun y hy=>h y (by simp [hy]))
   have h3:4294967296*(nv zs+1)≤4294967296*4294967296 ^ zs.length:=Nat.mul_le_mul_left _ h2
   rw [Nat.mul_comm (4294967296 ^ zs.length)]
   omega
theorem nv_take {zs:List Nat} (n:Nat) (hn:n≤zs.length) (h:∀ j,n≤j→j<zs.length→zs.getD j 0=0):nv (zs.take n)=nv zs:=by
 have e:zs=zs.take n ++ zs.drop n:=(List.take_append_drop n zs).symm
 have hz:nv (zs.drop n)=0:=by
   apply nv_zero
   intro z hz
   obtain ⟨i,hi,rfl⟩:=List.getElem_of_mem hz
   have hi':n+i<zs.length:=by simp at hi;omega
   have:=h (n+i) (by omega) hi'
   simp only [List.getD,List.getElem?_eq_getElem hi',Option.getD_some] at this
   rw [List.getElem_drop];exact this
 have:nv zs=nv (zs.take n ++ zs.drop n):=by rw [←e]
 rw [this,nv_append,hz,Nat.mul_zero,Nat.add_zero]
theorem cut_any (ao:Option Addr) (cap:Nat) (zs:List Nat) (w:World) (hcap:zs.length≤cap) (hn:zs.length≤1000000) (hr:ReadsU w ao zs w.heap.size) (hnil:ao=none→cap=0) :
   Calls Tryz.prog 136 #[.slice ao zs.length cap] w fun e w'=>(∃ n,n≤zs.length∧e=.returned (.slice ao n cap)∧nv (zs.take n)=nv zs∧Norm (zs.take n))∧w'=w:=by
 go_enter Tryz.func136,Tryz.ntmps136
 go_wp2
 go_loop [3] (fun n=>∃ k:Nat,k≤zs.length∧n=.int .i64 (k:Int)∧∀ j,k≤j→j<zs.length→zs.getD j 0=0) (fun n=>(intOf n).toNat)
 case atStart=>exact ⟨zs.length,Nat.le_refl _,rfl,fun j h1 h2=>by omega⟩
 case round=>
   obtain ⟨k,hk,rfl,hz⟩:=hrel
   have hnorm:∀ n,n≤zs.length→(n=0∨zs.getD (n-1) 0≠0)→Norm (zs.take n):=by
     intro n hn1 hn2
     have e1:(zs.take n).length=n:=by simp;omega
     unfold Norm
     rw [e1]
     rcases hn2 with h|h
     · exact Or.inl h
     · by_cases h0:n=0
       · exact Or.inl h0
       · refine Or.inr ?_
         rw [show (zs.take n).getD (n-1) 0=zs.getD (n-1) 0 by simp [List.getD,show n-1<n by omega]]
         exact h
   by_cases hk0:k=0
   · subst hk0
     have ht:=nv_take 0 (Nat.zero_le _) hz
     have hN:=hnorm 0 (Nat.zero_le _) (Or.inl rfl)
     clear hz hnorm
     cases ao with
     | none=>
       have hc0:=hnil rfl
       subst hc0
       go_wp2
       go_ret
       exact ⟨⟨0,Nat.zero_le _,rfl,ht,hN⟩,rfl⟩
     | some ad=>
       by_cases hc:cap=0
       · subst hc
         go_wp2
         go_ret
         exact ⟨⟨0,Nat.zero_le _,rfl,ht,hN⟩,rfl⟩
       · have g1:¬ (0:Int)=(cap:Int):=by omega
         have g2:¬ 0=cap:=by omega
         have g3:(0:Int)≤(cap:Int):=by omega
         go_wp2
         go_ret
         exact ⟨⟨0,Nat.zero_le _,rfl,ht,hN⟩,rfl⟩
   · obtain ⟨j,rfl⟩:∃ j,k=j+1:=⟨k-1,by omega⟩
     obtain ⟨b,off,rfl,hbl,hcs⟩:=hr (by omega)
     have hcj:=hcs j (by omega)
     have hin:=hnorm (j+1) hk
     rw [Nat.add_sub_cancel] at hin
     have hte:=nv_take (j+1) hk hz
     by_cases hc0:zs.getD j 0=0
     · rw [hc0] at hcj
       have hz':∀ i,j≤i→i<zs.length→zs.getD i 0=0:=fun i h1 h2=>by
         by_cases e:i=j
         · rw [e];exact hc0
         · exact hz i (by omega) h2
       clear hcs hin hte hc0 hz hnorm
       have g1:(0:Int)≤(j:Int):=by omega
       have g2:(j:Int)<(zs.length:Int):=by omega
       go_wp2
       go_round
       case rel=>exact ⟨j,by omega,by go_num,hz'⟩
       case measure=>simp [intOf]
     · have hN:=hin (Or.inr hc0)
       have gc:(((zs.getD j 0:Nat):Int) == 0)=false:=by simp;simpa using hc0
       generalize zs.getD j 0=c at *
       clear hcs hin hz hnorm hc0
       have g1:(0:Int)≤(j:Int):=by omega
       have g2:(j:Int)<(zs.length:Int):=by omega
       have g3:¬ (0:Int)=(cap:Int):=by omega
       have g4:¬ 0=cap:=by omega
       have g5:(j:Int)+1≤(cap:Int):=by omega
       go_wp2
       go_ret
       exact ⟨⟨j+1,hk,by first|rfl|simp,hte,hN⟩,rfl⟩
theorem nv_split (zs:List Nat) (j:Nat) (hj:j<zs.length):nv zs=nv (zs.take j)+4294967296 ^ j*(zs.getD j 0+4294967296*nv (zs.drop (j+1))):=by
 have e:zs=zs.take j ++ (zs.getD j 0 :: zs.drop (j+1)):=by
   have h1:=(List.take_append_drop j zs).symm
   rw [List.drop_eq_getElem_cons hj] at h1
   have e2:zs.getD j 0=zs[j]:=by simp [List.getD,List.getElem?_eq_getElem hj]
   rw [e2];exact h1
 have h2:nv zs=nv (zs.take j ++ (zs.getD j 0 :: zs.drop (j+1))):=by rw [←e]
 rw [h2,nv_append,show (zs.take j).length=j by simp;omega]
 rfl
theorem words_take {zs:List Nat} (h:Words zs) (n:Nat):Words (zs.take n):=fun z hz=>h z (List.mem_of_mem_take hz)
theorem nv_below {zs ys:List Nat} (hz:Words zs) (j:Nat) (h1:j<zs.length) (h2:j<ys.length) (hd:zs.drop (j+1)=ys.drop (j+1)) (hlt:zs.getD j 0<ys.getD j 0):nv zs<nv ys:=by
 rw [nv_split zs j h1,nv_split ys j h2,hd]
 have h3:=nv_lt (words_take hz j)
 rw [show (zs.take j).length=j by simp;omega] at h3
 generalize zs.getD j 0=x at *
 generalize ys.getD j 0=y at *
 have h4:4294967296 ^ j*(x+4294967296*nv (ys.drop (j+1))+1)≤4294967296 ^ j*(y+4294967296*nv (ys.drop (j+1))):=Nat.mul_le_mul_left _ (by omega)
 rw [Nat.mul_add _ _ 1,Nat.mul_one] at h4
 omega
theorem nv_ge {ys:List Nat} (n:Nat) (hl:ys.length=n+1) (hN:Norm ys):4294967296 ^ n≤nv ys:=by
 rw [nv_split ys n (by omega)]
 have:ys.getD n 0≠0:=by
   rcases hN with h|h
   · omega
   · rwa [hl,Nat.add_sub_cancel] at h
 have h2:4294967296 ^ n*1≤4294967296 ^ n*(ys.getD n 0+4294967296*nv (ys.drop (n+1))):=Nat.mul_le_mul_left _ (by omega)
 omega
theorem nv_len {zs ys:List Nat} (hz:Words zs) (hN:Norm ys) (h:zs.length<ys.length):nv zs<nv ys:=by
 obtain ⟨n,hn⟩:∃ n,ys.length=n+1:=⟨ys.length-1,by omega⟩
 have h1:=nv_lt hz
 have h2:=nv_ge n hn hN
 have h3:4294967296 ^ zs.length≤4294967296 ^ n:=Nat.pow_le_pow_right (by decide) (by omega)
 omega
def ag (x y:Nat):Int:=if x<y then -1 else if x=y then 0 else 1
theorem against_any (ao bo:Option Addr) (ca cb:Nat) (zs ys:List Nat) (w:World) (hzl:zs.length≤1000000) (_:ys.length≤1000000) (hrz:ReadsU w ao zs w.heap.size) (hry:ReadsU w bo ys w.heap.size) (wz:Words zs) (wy:Words ys) (nz:Norm zs) (ny:Norm ys) :
   Calls Tryz.prog 135 #[.slice ao zs.length ca,.slice bo ys.length cb] w fun e w'=>e=.returned (.int .i64 (ag (nv zs) (nv ys)))∧∃ k,w'=w.drewN k:=by
 by_cases hl:zs.length=ys.length
 · have g0 : ((zs.length:Int) != (ys.length:Int))=false:=by simp;omega
   have HL:Hid (zs.length=ys.length):=hl
   clear hl
   go_enter Tryz.func135,Tryz.ntmps135
   go_wp2
   go_loopw [5] (fun i wr=>∃ k m:Nat,k≤zs.length∧i=.int .i64 ((k:Int)-1)∧wr=w.drewN m∧zs.drop k=ys.drop k)
     (fun i _=>(intOf i+1).toNat)
   case atStart=>exact ⟨zs.length,0,Nat.le_refl _,rfl,rfl,by rw [List.drop_length,HL.out,List.drop_length]⟩
   case round=>
     obtain ⟨k,m,hk,rfl,hw2,hpre⟩:=hrel
     have HP:Hid (zs.drop k=ys.drop k):=hpre
     clear hpre
     have HW2:Hid (wr=w.drewN m):=hw2
     by_cases hk0:k=0
     · subst hk0
       have HA:Hid (ag (nv zs) (nv ys)=0):=by
         have e1:=HP.out
         rw [List.drop_zero,List.drop_zero] at e1
         show ag (nv zs) (nv ys)=0
         unfold ag;rw [e1,if_neg (by omega),if_pos rfl]
       clear hw2 HP
       go_wp2
       go_ret
       exact ⟨by rw [HA.out];rfl,_,HW2.out⟩
     · obtain ⟨j,rfl⟩:∃ j,k=j+1:=⟨k-1,by omega⟩
       rw [show ((j+1:Nat):Int)-1=(j:Int) by omega]
       have hl:=HL.out
       obtain ⟨b,off,rfl,hbl,hc⟩:=hry (by omega)
       obtain ⟨b2,off2,rfl,hbl2,hc2⟩:=hrz (by omega)
       have hck:wr.cell? ⟨b,off+j,none⟩=some (.int .u32 (ys.getD j 0:Nat)):=by rw [hw2];exact hc j (by omega)
       have hck2:wr.cell? ⟨b2,off2+j,none⟩=some (.int .u32 (zs.getD j 0:Nat)):=by rw [hw2];exact hc2 j (by omega)
       clear hc hc2 hw2
       have hj1:(j:Int)<(zs.length:Int):=by omega
       have hj2:(j:Int)<(ys.length:Int):=by omega
       have hb1:=fun h=>nv_below wz j (by omega) (by omega) HP.out h
       have hb2:=fun h=>nv_below wy j (by omega) (by omega) HP.out.symm h
       have HT:Hid (zs.getD j 0=ys.getD j 0→zs.drop j=ys.drop j):=by
         intro h
         have hj3:j<zs.length:=by omega
         have hj4:j<ys.length:=by omega
         rw [List.drop_eq_getElem_cons hj3,List.drop_eq_getElem_cons hj4,HP.out]
         simp only [List.getD,List.getElem?_eq_getElem hj3,List.getElem?_eq_getElem hj4,Option.getD_some] at h
         rw [h]
       clear HP hl
       generalize zs.getD j 0=x at *
       generalize ys.getD j 0=y at *
       by_cases h1:x<y
       · have HA:Hid (ag (nv zs) (nv ys) = -1):=by show ag (nv zs) (nv ys) = -1;unfold ag;rw [if_pos (hb1 h1)]
         have g5:decide ((x:Int)<(y:Int))=true:=decide_eq_true (by omega)
         have g5n:decide (x<y)=true:=decide_eq_true h1
         have h1i:(x:Int)<(y:Int):=by omega
         clear hb1 hb2 HT
         go_wp2
         go_quiet (fail)
         go_wp2
         go_ret
         exact ⟨by rw [HA.out];rfl,_,by rw [HW2.out,World.drewN_drewN]⟩
       · by_cases h2:y<x
         · have HA:Hid (ag (nv zs) (nv ys)=1):=by show ag (nv zs) (nv ys)=1;unfold ag;have:=hb2 h2;rw [if_neg (by omega),if_neg (by omega)]
           have g5:decide ((x:Int)<(y:Int))=false:=decide_eq_false (by omega)
           have g6:decide ((y:Int)<(x:Int))=true:=decide_eq_true (by omega)
           have g5n:decide (x<y)=false:=decide_eq_false h1
           have g6n:decide (y<x)=true:=decide_eq_true h2
           have h1i:¬ (x:Int)<(y:Int):=by omega
           have h2i:(y:Int)<(x:Int):=by omega
           clear hb1 hb2 HT
           go_wp2
           go_quiet (fail)
           go_wp2
           go_quiet (fail)
           go_wp2
           go_ret
           refine ⟨by rw [HA.out];rfl,?_⟩
           rw [HW2.out,World.drewN_drewN,World.drewN_drewN]
           exact ⟨_,rfl⟩
         · have hxy:x=y:=by omega
           have HT2:Hid (zs.drop j=ys.drop j):=HT.out hxy
           subst hxy
           clear hb1 hb2 HT h1 h2
           go_wp2
           go_quiet (fail)
           go_wp2
           go_quiet (fail)
           go_wp2
           go_roundw
           case rel=>exact ⟨j,_,by omega,by go_num,by rw [HW2.out,World.drewN_drewN],HT2.out⟩
           case measure=>simp [intOf]
 · have g0:((zs.length:Int) != (ys.length:Int))=true:=by simp;omega
   by_cases hlt:zs.length<ys.length
   · have h1:=nv_len wz ny hlt
     have ha:ag (nv zs) (nv ys) = -1:=by unfold ag;rw [if_pos h1]
     rw [ha]
     have g1:decide ((zs.length:Int)<(ys.length:Int))=true:=decide_eq_true (by omega)
     clear hl
     go_enter Tryz.func135,Tryz.ntmps135
     go_wp2
     go_ret
     exact ⟨rfl,0,rfl⟩
   · have h1:=nv_len wy nz (by omega)
     have ha:ag (nv zs) (nv ys)=1:=by unfold ag;rw [if_neg (by omega),if_neg (by omega)]
     rw [ha]
     have g1:decide ((zs.length:Int)<(ys.length:Int))=false:=decide_eq_false (by omega)
     clear hl
     go_enter Tryz.func135,Tryz.ntmps135
     go_wp2
     go_ret
     exact ⟨rfl,0,rfl⟩
def NatV (w:World) (v:Value) (x:Nat):Prop:=
 ∃ ao cap zs,v=.slice ao (List.length zs) cap∧List.length zs≤cap∧(ao=none→cap=0)∧nv zs=x∧Norm zs∧Words zs∧ReadsU w ao zs w.heap.size
theorem NatV.below {w w':World} {v:Value} {x:Nat} (h:NatV w v x) (hb:Below w.heap.size w w'):NatV w' v x:=by
 obtain ⟨ao,cap,zs,e,h1,h2,h3,h4,h5,h6⟩:=h
 exact ⟨ao,cap,zs,e,h1,h2,h3,h4,h5,(h6.below hb).mono hb.size⟩
theorem NatV.drewN {w:World} {v:Value} {x:Nat} (h:NatV w v x) (n:Nat):NatV (w.drewN n) v x:=h.below ⟨rfl,rfl,rfl,Nat.le_refl _,fun _ _=>rfl⟩
theorem norm_len {zs:List Nat} (hN:Norm zs) (n:Nat) (h:nv zs<4294967296 ^ n):zs.length≤n:=by
 apply Nat.le_of_not_lt
 intro hlt
 obtain ⟨m,hm⟩:∃ m,zs.length=m+1:=⟨zs.length-1,by omega⟩
 have h1:=nv_ge m hm hN
 have h2:4294967296 ^ n≤4294967296 ^ m:=Nat.pow_le_pow_right (by decide) (by omega)
 omega
theorem belU {a w:World} {o:Obj} (h:Below a.heap.size a w):Below a.heap.size a (w.alloc o):=h.alloc h.size o
theorem nat_any (x:Nat) (w:World) (hx:x<18446744073709551616) :
   Calls Tryz.prog 107 #[.int .u64 x] w fun e w'=>(∃ v,e=.returned v∧NatV w' v x)∧Below w.heap.size w w':=by
 obtain ⟨lo,hlo⟩:∃ lo,lo=x % 4294967296:=⟨_,rfl⟩
 obtain ⟨hi,hhi⟩:∃ hi,hi=x / 4294967296:=⟨_,rfl⟩
 have e1:IntKind.u32.wrap (x:Int)=(lo:Int):=by rw [IntKind.wrap_u32',hlo];omega
 have e2:(x:Int) % 4294967296=(lo:Int):=by omega
 have e3:(x:Int) / 4294967296=(hi:Int):=by omega
 have hl2:lo<4294967296:=by omega
 have hh2:hi<4294967296:=by omega
 have hnv:nv [lo,hi]=x:=by simp only [nv];omega
 have hW:Words [lo,hi]:=by intro z hz;simp at hz;omega
 clear hlo hhi
 have HR:ReadsU (w.alloc (.cells #[.int .u32 (lo:Int),.int .u32 (hi:Int)] 23)) (some ⟨w.heap.size,0,none⟩) [lo,hi] (w.alloc (.cells #[.int .u32 (lo:Int),.int .u32 (hi:Int)] 23)).heap.size:=by
   intro _
   refine ⟨w.heap.size,0,rfl,by simp,fun j hj=>?_⟩
   have:j=0∨j=1:=by simp at hj;omega
   rcases this with rfl|rfl <;> simp
 have cc:=cut_any (some ⟨w.heap.size,0,none⟩) 2 [lo,hi] (w.alloc (.cells #[.int .u32 (lo:Int),.int .u32 (hi:Int)] 23)) (by simp) (by simp) HR (by simp)
 have HRH:Hid (ReadsU (w.alloc (.cells #[.int .u32 (lo:Int),.int .u32 (hi:Int)] 23)) (some ⟨w.heap.size,0,none⟩) [lo,hi] (w.alloc (.cells #[.int .u32 (lo:Int),.int .u32 (hi:Int)] 23)).heap.size):=HR
 have HNV:Hid (nv [lo,hi]=x∧Words [lo,hi]):=⟨hnv,hW⟩
 clear HR hnv hW
 go_enter Tryz.func107,Tryz.ntmps107
 go_wp2_with (go_at_call 136;refine cc.mono ?_;rintro e wq ⟨⟨n,hn,rfl,ht,hN⟩,hq⟩;subst wq)
 go_ret
 obtain ⟨h1,h2⟩:=HNV.out
 simp only [List.length_cons,List.length_nil] at hn
 have hlen:([lo,hi].take n).length=n:=by simp;omega
 refine ⟨⟨_,rfl,some ⟨w.heap.size,0,none⟩,2,[lo,hi].take n,by rw [hlen];rfl,by rw [hlen];omega,by simp,by rw [ht];exact h1,hN,words_take h2 n,HRH.out.take n (by simp;omega)⟩,belU (Below.refl _ w)⟩
theorem Tryz.infoU:(Tryz.prog.info? 23).map (fun i=>(i.zero,i.size,i.bytes))=some (some (.int .u32 0),1,4):=by kernel_rfl
def uk (L:List Nat):List Value:=L.map (fun (z:Nat)=>Value.int .u32 ((z:Nat):Int))
theorem uk_append (L M:List Nat):uk (L ++ M)=uk L ++ uk M:=by simp [uk]
theorem own_snocU {w1:World} {B e:Nat} {v':Value} {L:List Nat} {n:Nat} {x:Nat}
   (h:w1.ownsRow B e 1 v' (n+1) (uk L ++ [.int .u32 (x:Int)])):w1.ownsRow B e 1 v' (n+1) (uk (L ++ [x])):=by
 rw [uk_append];exact h
theorem grown_belowU {B e sz:Nat} {a w w':World} {xs:List Value} {v:Value} {n:Nat} {o:Obj} (h:Below B a w) (hB:B≤w.heap.size) (hown:w.ownsRow B e sz v n xs) (hg:(w.alloc o).grownBy w' v.ownBlock):Below B a w':=
 (h.alloc hB o).grown hg (by simp;omega) (fun k e=>(hown.lt k e).1)
theorem own_cellU {w1:World} {B e g n cap:Nat} {L:List Nat} (h:w1.ownsRow B e 1 (.slice (some ⟨g,0,none⟩) n cap) L.length (uk L)) {i:Nat} (hi:i<L.length):w1.cell? ⟨g,0+i,none⟩=some (.int .u32 (L.getD i 0:Nat)):=by
 have:=h.cells (g:=g) rfl i (.int .u32 (L.getD i 0:Nat)) (by simp [uk,List.getD,List.getElem?_eq_getElem hi])
 have hadd:(⟨g,0,none⟩:Addr).add i=⟨g,0+i,none⟩:=by unfold Addr.add;split <;> simp_all
 rw [←hadd];exact this
theorem own_readsU {w:World} {B e:Nat} {v:Value} {zs:List Nat} (h:w.ownsRow B e 1 v zs.length (uk zs)):∃ ao cap,v=.slice ao zs.length cap∧ReadsU w ao zs w.heap.size:=by
 have h':=h
 have hlt:=h.lt
 rcases h.2 with ⟨rfl,hz⟩|⟨g,cap,cur,rfl,_⟩
 · have hl:zs.length=0:=by simpa using hz
   exact ⟨none,0,by rw [hl],fun hp=>by omega⟩
 · exact ⟨_,cap,rfl,fun _=>⟨g,0,rfl,(hlt g rfl).2,fun j hj=>own_cellU h' hj⟩⟩
theorem own_cap {w:World} {B e:Nat} {ao:Option Addr} {cap:Nat} {zs:List Nat} (h:w.ownsRow B e 1 (.slice ao zs.length cap) zs.length (uk zs)):zs.length≤cap∧(ao=none→cap=0):=by
 rcases h.2 with ⟨hv,hz⟩|⟨g,cap',cur,hv,hrest⟩
 · simp only [Value.slice.injEq] at hv
   exact ⟨by omega,fun _=>hv.2.2⟩
 · simp only [Value.slice.injEq] at hv
   obtain ⟨h1,-,h3⟩:=hv
   refine ⟨?_,fun h=>by rw [h1] at h;cases h⟩
   rw [h3];exact hrest.2.2.1
theorem rep_snoc (k:Nat):List.replicate (k+1) (0:Nat)=List.replicate k 0 ++ [0]:=by
 rw [List.replicate_succ']
theorem nv_rep (k:Nat) (L:List Nat):nv (List.replicate k 0 ++ L)=4294967296 ^ k*nv L:=by
 rw [nv_append,List.length_replicate,nv_zero (fun z hz=>List.eq_of_mem_replicate hz),Nat.zero_add]
theorem up_any (ao:Option Addr) (cap:Nat) (zs:List Nat) (n:Nat) (w:World) (hl:zs.length≤1000) (hn:n≤10000) (hr:ReadsU w ao zs w.heap.size) (hW:Words zs) :
   Calls Tryz.prog 130 #[.slice ao zs.length cap,.int .i64 n] w fun e w'=>(∃ v,e=.returned v∧NatV w' v (nv zs*2 ^ n))∧Below w.heap.size w w':=by
 obtain ⟨i0,hi,hz0,hz1,hz2⟩:=info_parts Tryz.infoU
 obtain ⟨q,hq⟩:∃ q,q=n / 32:=⟨_,rfl⟩
 obtain ⟨s,hs⟩:∃ s,s=n % 32:=⟨_,rfl⟩
 have eq1:(n:Int).tdiv 32=(q:Int):=by rw [Int.tdiv_eq_ediv_of_nonneg (by omega)];omega
 have eq2:(n:Int) / 32=(q:Int):=by omega
 have es1:(n:Int).tmod 32=(s:Int):=by rw [Int.tmod_eq_emod_of_nonneg (by omega)];omega
 have es2:(n:Int) % 32=(s:Int):=by omega
 have hs32:s<32:=by omega
 have hq2:q≤313:=by omega
 have HN:Hid (n=32*q+s):=by show n=32*q+s;omega
 clear hq hs hn
 go_enter Tryz.func130,Tryz.ntmps130
 go_wp2
 go_loopw [5,6] (fun v i wr=>∃ k:Nat,k≤q∧i=.int .i64 k∧wr.ownsRow w.heap.size 23 1 v k (uk (List.replicate k 0))∧Below w.heap.size w wr)
   (fun _ i _=>q-(intOf i).toNat)
 case atStart=>exact ⟨0,Nat.zero_le _,rfl,World.ownsRow_nil _ _ _ _,Below.refl _ _⟩
 case round=>
   obtain ⟨k,hk,rfl,hown,hb⟩:=hrel
   by_cases hlt:k<q
   · have hB:=hb.size
     have hlt':(k:Int)<(q:Int):=by omega
     go_wp2_with (at_builtin;refine wpList_append_own _ rfl _ _ 96 rfl w.heap.size 23 i0 (.int .u32 0) 1 4 Tryz.underlying96 hi hz0 hz1 hz2 rfl (by decide) _ _ _ rfl (hown.alloc _) ⟨_,0,none⟩ 1 1 [.int .u32 0] rfl rfl ?c1 ?c2 ?c3 ?c4 ?c5 ?_)
     case c1=>
       intro j u hj
       match j,hj with
       |0,hj=>simp at hj;subst hj;simp [Addr.add]
     case c2=>intro u hu;simp at hu;subst hu;rfl
     case c3=>unfold maxLen;omega
     case c4=>omega
     case c5=>simp;omega
     intro v' w1 hown' hgrow _
     have R1:w1.ownsRow w.heap.size 23 1 v' (k+1) (uk (List.replicate (k+1) 0)):=by
       rw [rep_snoc];exact own_snocU (x:=0) hown'
     have R2:=grown_belowU hb hB hown hgrow
     clear hown' hgrow hown
     go_wp2
     go_roundw
     case rel=>exact ⟨k+1,by omega,by go_num,R1,R2⟩
     case measure=>simp [intOf];omega
   · obtain rfl:q=k:=by omega
     go_wp2
     go_loopw [5,7,9] (fun v c i wr=>∃ k cr:Nat,∃ L:List Nat,k≤zs.length∧i=.int .i64 k∧c=.int .u32 (cr:Int)∧cr<2 ^ s∧L.length=k∧Words L∧nv L+4294967296 ^ k*cr=nv (zs.take k)*2 ^ s∧wr.ownsRow w.heap.size 23 1 v (q+k) (uk (List.replicate q 0 ++ L))∧Below w.heap.size w wr)
       (fun _ _ i _=>zs.length-(intOf i).toNat)
     case atStart=>exact ⟨0,0,[],Nat.zero_le _,rfl,rfl,Nat.two_pow_pos _,rfl,(fun z hz=>by simp at hz),by simp [nv],by simpa using hown,hb⟩
     case round=>
       obtain ⟨k,cr,L,hk,rfl,rfl,hcr,hLl,hLW,hval,hown,hb⟩:=hrel
       have hs31:2 ^ s≤2147483648:=Nat.pow_le_pow_right (by decide) (show s≤31 by omega)
       by_cases hlt:k<zs.length
       · obtain ⟨b,off,rfl,hbl,hc⟩:=(hr.below hb) (by omega)
         have hck:=hc k hlt
         have hB:=hb.size
         clear hc
         have hzw:=words_get hW k
         have hsp:nv (zs.take (k+1))=nv (zs.take k)+4294967296 ^ k*zs.getD k 0:=by
           have e1:zs.take (k+1)=zs.take k ++ [zs.getD k 0]:=by
             rw [List.take_succ_eq_append_getElem hlt]
             simp [List.getD,List.getElem?_eq_getElem hlt]
           rw [e1,nv_append,show (zs.take k).length=k by simp;omega]
           simp [nv]
         generalize zs.getD k 0=z at *
         obtain ⟨X,hX⟩:∃ X,X=z*2 ^ s:=⟨_,rfl⟩
         have hXlt:X<9223372036854775808:=by
           rw [hX]
           have:=Nat.mul_le_mul (show z≤4294967295 by omega) hs31
           omega
         obtain ⟨lo,hlo⟩:∃ lo,lo=X % 4294967296:=⟨_,rfl⟩
         obtain ⟨hh,hhi⟩:∃ hh,hh=X / 4294967296:=⟨_,rfl⟩
         have hdiv:lo % 2 ^ s=0:=by
           rw [hlo,hX]
           have hd:2 ^ s ∣ 4294967296:=⟨2 ^ (32-s),by rw [←Nat.pow_add,show s+(32-s)=32 by omega]⟩
           rw [Nat.mod_mod_of_dvd _ hd,Nat.mul_mod_left]
         have hhlt:hh<2 ^ s:=by
           rw [hhi,Nat.div_lt_iff_lt_mul (by decide),hX,Nat.mul_comm (2 ^ s)]
           exact Nat.mul_lt_mul_of_pos_right hzw (Nat.two_pow_pos _)
         have e1:(z:Int)*2 ^ s=(X:Int):=by rw [hX];simp
         have e2:(X:Int) % 4294967296=(lo:Int):=by omega
         have e2':IntKind.u32.wrap (X:Int)=(lo:Int):=by rw [IntKind.wrap_u32'];omega
         have e3:(X:Int) / 4294967296=(hh:Int):=by omega
         have e4:bits .or .u32 (lo:Int) (cr:Int)=((lo+cr:Nat):Int):=by
           have:=u32_or_nat lo cr (by omega) (by omega)
           rwa [nat_join s lo cr hdiv hcr] at this
         have e5:IntKind.u64.wrap (X:Int)=(X:Int):=by
           show (X:Int) % 18446744073709551616=_
           omega
         have hsum:lo+cr<4294967296:=by
           have h1:=Nat.div_add_mod lo (2 ^ s)
           rw [hdiv] at h1
           have h2:lo<2 ^ s*2 ^ (32-s):=by rw [←Nat.pow_add,show s+(32-s)=32 by omega];omega
           have h3:lo / 2 ^ s<2 ^ (32-s):=(Nat.div_lt_iff_lt_mul (Nat.two_pow_pos _)).2 (by rw [Nat.mul_comm];exact h2)
           have h4:2 ^ s*(lo / 2 ^ s+1)≤2 ^ s*2 ^ (32-s):=Nat.mul_le_mul_left _ h3
           rw [←Nat.pow_add,show s+(32-s)=32 by omega,Nat.mul_add,Nat.mul_one] at h4
           omega
         have HV:Hid (nv (L ++ [lo+cr])+4294967296 ^ (k+1)*hh=nv (zs.take (k+1))*2 ^ s):=by
           show nv (L ++ [lo+cr])+4294967296 ^ (k+1)*hh=nv (zs.take (k+1))*2 ^ s
           rw [nv_append,hLl,hsp,Nat.add_mul,←hval,Nat.mul_assoc,←hX,Nat.pow_succ,Nat.mul_assoc]
           have:X=lo+4294967296*hh:=by omega
           have h5:4294967296 ^ k*X=4294967296 ^ k*lo+4294967296 ^ k*(4294967296*hh):=by rw [←Nat.mul_add,←this]
           rw [h5]
           simp only [nv,Nat.mul_zero,Nat.add_zero,Nat.mul_add]
           omega
         have HLW:Hid (Words (L ++ [lo+cr])):=by
           intro y hy
           rcases List.mem_append.1 hy with h|h
           · exact hLW y h
           · simp at h;omega
         have HLL:Hid ((L ++ [lo+cr]).length=k+1):=by show (L ++ [lo+cr]).length=k+1;simp [hLl]
         have HHH:Hid (hh<2 ^ s):=hhlt
         clear hval hsp hLW hdiv hlo hhi hLl hhlt hX
         generalize lo+cr=LC at *
         have hlt':(k:Int)<(zs.length:Int):=by omega
         go_wp2_with (at_builtin;refine wpList_append_own _ rfl _ _ 96 rfl w.heap.size 23 i0 (.int .u32 0) 1 4 Tryz.underlying96 hi hz0 hz1 hz2 rfl (by decide) _ _ _ rfl (hown.alloc _) ⟨_,0,none⟩ 1 1 [.int .u32 (LC:Int)] rfl rfl ?c1 ?c2 ?c3 ?c4 ?c5 ?_)
         case c1=>
           intro j u hj
           match j,hj with
           |0,hj=>simp at hj;subst hj;simp [Addr.add]
         case c2=>intro u hu;simp at hu;subst hu;rfl
         case c3=>unfold maxLen;omega
         case c4=>omega
         case c5=>simp;omega
         intro v' w1 hown' hgrow _
         have R1:w1.ownsRow w.heap.size 23 1 v' (q+k+1) (uk (List.replicate q 0 ++ (L ++ [LC]))):=by
           rw [←List.append_assoc];exact own_snocU hown'
         have R2:=grown_belowU hb hB hown hgrow
         clear hown' hgrow hown hck
         go_wp2
         go_roundw
         case rel=>exact ⟨k+1,hh,L ++ [LC],by omega,by go_num,rfl,HHH.out,HLL.out,HLW.out,HV.out,R1,R2⟩
         case measure=>simp [intOf];omega
       · obtain rfl:k=zs.length:=by omega
         rw [List.take_length] at hval
         have hB:=hb.size
         have HV:Hid (nv (List.replicate q 0 ++ (L ++ [cr]))=nv zs*2 ^ n):=by
           show nv (List.replicate q 0 ++ (L ++ [cr]))=nv zs*2 ^ n
           rw [nv_rep,nv_append,hLl,show nv [cr]=cr by simp [nv],hval,HN.out,Nat.pow_add,Nat.pow_mul,show (2:Nat) ^ 32=4294967296 from rfl,Nat.mul_comm (4294967296 ^ q),Nat.mul_assoc,Nat.mul_comm (2 ^ s)]
         have HLW:Hid (Words (List.replicate q 0 ++ (L ++ [cr]))):=by
           intro y hy
           rcases List.mem_append.1 hy with h|h
           · rw [List.eq_of_mem_replicate h];decide
           · rcases List.mem_append.1 h with h|h
             · exact hLW y h
             · simp at h;omega
         have HLL:Hid ((List.replicate q 0 ++ (L ++ [cr])).length=q+zs.length+1):=by
           show (List.replicate q 0 ++ (L ++ [cr])).length=q+zs.length+1
           simp [hLl];omega
         clear hval hLW hLl
         go_wp2_with (at_builtin;refine wpList_append_own _ rfl _ _ 96 rfl w.heap.size 23 i0 (.int .u32 0) 1 4 Tryz.underlying96 hi hz0 hz1 hz2 rfl (by decide) _ _ _ rfl (hown.alloc _) ⟨_,0,none⟩ 1 1 [.int .u32 (cr:Int)] rfl rfl ?c1 ?c2 ?c3 ?c4 ?c5 ?_)
         case c1=>
           intro j u hj
           match j,hj with
           |0,hj=>simp at hj;subst hj;simp [Addr.add]
         case c2=>intro u hu;simp at hu;subst hu;rfl
         case c3=>unfold maxLen;omega
         case c4=>omega
         case c5=>simp;omega
         intro v' w1 hown' hgrow _
         have R1:w1.ownsRow w.heap.size 23 1 v' (q+zs.length+1) (uk (List.replicate q 0 ++ (L ++ [cr]))):=by
           rw [←List.append_assoc];exact own_snocU hown'
         have R2:=grown_belowU hb hB hown hgrow
         clear hown' hgrow hown hb hB
         rw [←HLL.out] at R1
         obtain ⟨ao',cap',rfl,hrd⟩:=own_readsU R1
         have hcap:(List.replicate q 0 ++ (L ++ [cr])).length≤cap'∧(ao'=none→cap'=0):=own_cap R1
         have hlen:(List.replicate q 0 ++ (L ++ [cr])).length≤1000000:=by rw [HLL.out];omega
         have HRD:Hid (ReadsU w1 ao' (List.replicate q 0 ++ (L ++ [cr])) w1.heap.size):=hrd
         have cc:=cut_any ao' cap' (List.replicate q 0 ++ (L ++ [cr])) w1 hcap.1 hlen hrd hcap.2
         clear R1 hrd hlen
         generalize List.replicate q 0 ++ (L ++ [cr])=ZZ at *
         go_wp2_with (go_at_call 136;refine cc.mono ?_;rintro e wq ⟨⟨nn,hnn,rfl,ht,hN⟩,hq⟩;subst wq)
         go_ret
         have hl3:(ZZ.take nn).length=nn:=by simp;omega
         exact ⟨⟨_,rfl,ao',cap',ZZ.take nn,by rw [hl3];rfl,by rw [hl3];omega,hcap.2,by rw [ht];exact HV.out,hN,words_take HLW.out nn,HRD.out.take nn hnn⟩,R2⟩
def nbits (x:Nat):Nat:=if x=0 then 0 else x.log2+1
theorem nbits_spec (x:Nat) (k:Nat):nbits x=k↔(k=0∧x=0)∨(∃ j,k=j+1∧2 ^ j≤x∧x<2 ^ (j+1)):=by
 unfold nbits
 by_cases h:x=0
 · subst h
   rw [if_pos rfl]
   constructor
   · intro e;exact Or.inl ⟨e.symm,rfl⟩
   · rintro (⟨e,-⟩|⟨j,-,h1,-⟩)
     · exact e.symm
     · have:=Nat.two_pow_pos j;omega
 · rw [if_neg h]
   have h1:2 ^ x.log2≤x:=Nat.log2_self_le h
   have h2:x<2 ^ (x.log2+1):=Nat.lt_log2_self
   constructor
   · intro e;exact Or.inr ⟨x.log2,e.symm,h1,h2⟩
   · rintro (⟨-,e⟩|⟨j,rfl,h3,h4⟩)
     · exact absurd e h
     · have a1:=(Nat.pow_lt_pow_iff_right (a:=2) (by decide)).1 (Nat.lt_of_le_of_lt h1 h4)
       have a2:=(Nat.pow_lt_pow_iff_right (a:=2) (by decide)).1 (Nat.lt_of_le_of_lt h3 h2)
       omega
theorem nbits_high (r t:Nat) (m:Nat) (hr:r<4294967296 ^ m) (ht:0<t):nbits (r+4294967296 ^ m*t)=32*m+nbits t:=by
 have e32:4294967296 ^ m=2 ^ (32*m):=by rw [Nat.pow_mul]
 rw [e32] at hr ⊢
 obtain ⟨j,hj⟩:∃ j,nbits t=j+1:=by
   unfold nbits;rw [if_neg (by omega)];exact ⟨_,rfl⟩
 obtain ⟨h1,h2⟩:2 ^ j≤t∧t<2 ^ (j+1):=by
   rcases (nbits_spec t (j+1)).1 hj with ⟨h,-⟩|⟨i,h,h1,h2⟩
   · omega
   · obtain rfl:i=j:=by omega
     exact ⟨h1,h2⟩
 rw [hj]
 refine (nbits_spec _ _).2 (Or.inr ⟨32*m+j,by omega,?_,?_⟩)
 · rw [Nat.pow_add]
   have:=Nat.mul_le_mul_left (2 ^ (32*m)) h1
   omega
 · rw [show 32*m+j+1=32*m+(j+1) by omega,Nat.pow_add]
   have:2 ^ (32*m)*(t+1)≤2 ^ (32*m)*2 ^ (j+1):=Nat.mul_le_mul_left _ h2
   rw [Nat.mul_add,Nat.mul_one] at this
   omega
theorem nbits_half (c:Nat) (h:0<c):nbits c=nbits (c / 2)+1:=by
 obtain ⟨j,hj⟩:∃ j,nbits c=j+1:=by
   unfold nbits;rw [if_neg (by omega)];exact ⟨_,rfl⟩
 obtain ⟨h1,h2⟩:2 ^ j≤c∧c<2 ^ (j+1):=by
   rcases (nbits_spec c (j+1)).1 hj with ⟨h,-⟩|⟨i,h,h1,h2⟩
   · omega
   · obtain rfl:i=j:=by omega
     exact ⟨h1,h2⟩
 rw [hj]
 congr 1
 symm
 refine (nbits_spec _ _).2 ?_
 cases j with
 |zero=>exact Or.inl ⟨rfl,by omega⟩
 | succ i=>
   refine Or.inr ⟨i,rfl,?_,?_⟩
   · rw [Nat.pow_succ] at h1;omega
   · rw [Nat.pow_succ] at h2;omega
theorem size_any (ao:Option Addr) (cap:Nat) (zs:List Nat) (w:World) (hl:zs.length≤1000000) (hr:ReadsU w ao zs w.heap.size) (hW:Words zs) (hN:Norm zs) :
   Calls Tryz.prog 132 #[.slice ao zs.length cap] w fun e w'=>e=.returned (.int .i64 (nbits (nv zs)))∧w'=w:=by
 by_cases h0:zs.length=0
 · have hz:zs=[]:=List.length_eq_zero_iff.1 h0
   subst hz
   have hb:nbits (nv [])=0:=by simp [nv,nbits]
   rw [hb]
   go_enter Tryz.func132,Tryz.ntmps132
   go_wp2
   go_ret
   exact ⟨rfl,rfl⟩
 · obtain ⟨m,hm⟩:∃ m,zs.length=m+1:=⟨zs.length-1,by omega⟩
   obtain ⟨b,off,rfl,hbl,hc⟩:=hr (by omega)
   have hcm:=hc m (by omega)
   have ht0:zs.getD m 0≠0:=by
     rcases hN with h|h
     · omega
     · rwa [hm,Nat.add_sub_cancel] at h
   have htw:=words_get hW m
   have hnb:nbits (nv zs)=32*m+nbits (zs.getD m 0):=by
     have hsp:=nv_split zs m (by omega)
     rw [List.drop_eq_nil_of_le (by omega)] at hsp
     simp only [nv,Nat.mul_zero,Nat.add_zero] at hsp
     rw [hsp]
     have h1:=nv_lt (words_take hW m)
     rw [show (zs.take m).length=m by simp;omega] at h1
     exact nbits_high _ _ m h1 (by omega)
   rw [hnb]
   generalize zs.getD m 0=t at *
   have g0:((zs.length:Int) == 0)=false:=by simp;intro h;subst h;simp at hm
   have hlI:(zs.length:Int)=(m:Int)+1:=by omega
   have hm2:m≤1000000:=by omega
   clear hc hnb hN hW hl h0
   go_enter Tryz.func132,Tryz.ntmps132
   go_wp2
   have HT:Hid (nbits t≤32):=by
     show nbits t≤32
     apply Nat.le_of_not_lt
     intro hlt
     rcases (nbits_spec t (nbits t)).1 rfl with ⟨h,-⟩|⟨i,h,h1,-⟩
     · omega
     · have:2 ^ 32≤2 ^ i:=Nat.pow_le_pow_right (by decide) (by omega)
       omega
   go_loop [3,4] (fun n top=>∃ j c:Nat,n=.int .i64 (32*(m:Int)+(j:Int))∧top=.int .u32 (c:Int)∧nbits t=j+nbits c∧c<4294967296) (fun _ top=>(intOf top).toNat)
   case atStart=>exact ⟨0,t,by first|rfl|(simp;done)|(go_num),rfl,by omega,by omega⟩
   case round=>
     obtain ⟨j,c,rfl,rfl,hj,hc4⟩:=hrel
     have hj32:=HT.out
     by_cases hc0:c=0
     · subst hc0
       have HJ:Hid (nbits t=j):=by
         show nbits t=j
         rw [hj];simp [nbits]
       clear hj hj32
       go_wp2
       go_ret
       exact ⟨by rw [HJ.out];first|rfl|(simp;done),rfl⟩
     · have hh:=nbits_half c (by omega)
       have HJ:Hid (nbits t=j+1+nbits (c / 2)):=by
         show nbits t=j+1+nbits (c / 2)
         omega
       have hjb:j≤32:=by omega
       have g1:decide ((0:Int)<(c:Int))=true:=decide_eq_true (by omega)
       have hcI:(0:Int)<(c:Int):=by omega
       clear hj hj32 hh
       go_wp2
       go_round
       case rel=>exact ⟨j+1,c / 2,by first|go_num|(simp;omega),by first|go_num|(simp;done),HJ.out,by omega⟩
       case measure=>simp [intOf];omega
theorem or64_hi (x y:Nat) (hx:x<4294967296) (hy:y<4294967296):bits .or .u64 (x:Int) ((y:Int)*4294967296)=((x+y*4294967296:Nat):Int):=by
 have:=u64_or_nat x (y*4294967296) (by omega) (by omega)
 rw [Nat.or_comm,nat_join 32 (y*4294967296) x (by omega) (by omega),Nat.add_comm,Int.natCast_mul] at this
 exact this
theorem low_any (ao:Option Addr) (cap:Nat) (zs:List Nat) (w:World) (hl:zs.length≤1000000) (hr:ReadsU w ao zs w.heap.size) (hW:Words zs) :
   Calls Tryz.prog 108 #[.slice ao zs.length cap] w fun e w'=>e=.returned (.int .u64 (nv zs % 18446744073709551616:Nat))∧w'=w:=by
 match zs,hl,hr,hW with
 | [],_,_,_=>
   have hb:nv [] % 18446744073709551616=0:=rfl
   rw [hb]
   go_enter Tryz.func108,Tryz.ntmps108
   go_wp2
   go_ret
   exact ⟨rfl,rfl⟩
 | [z],_,hr,hW=>
   obtain ⟨b,off,rfl,hbl,hc⟩:=hr (by simp)
   have hc0:=hc 0 (by simp)
   have hz:=hW z (by simp)
   have hb:nv [z] % 18446744073709551616=z:=by simp only [nv];omega
   rw [hb]
   simp only [List.getD,List.getElem?_cons_zero,Option.getD_some,Nat.add_zero] at hc0
   clear hc hr hW hb
   go_enter Tryz.func108,Tryz.ntmps108
   go_wp2
   go_ret
   exact ⟨rfl,rfl⟩
 | z :: y :: zs,hl,hr,hW=>
   obtain ⟨b,off,rfl,hbl,hc⟩:=hr (by simp)
   have hc0:=hc 0 (by simp)
   have hc1:=hc 1 (by simp)
   have hz:=hW z (by simp)
   have hy:=hW y (by simp)
   have hb:nv (z :: y :: zs) % 18446744073709551616=z+y*4294967296:=by simp only [nv];omega
   rw [hb]
   simp only [List.getD,List.getElem?_cons_zero,List.getElem?_cons_succ,Option.getD_some,Nat.add_zero] at hc0 hc1
   have ho:=or64_hi z y hz hy
   obtain ⟨n,hn⟩:∃ n,(z :: y :: zs).length=n+2:=⟨zs.length,rfl⟩
   rw [hn] at hl ⊢
   have g1:decide ((0:Int)<(n:Int)+2)=true:=decide_eq_true (by omega)
   have g2:decide ((1:Int)<(n:Int)+2)=true:=decide_eq_true (by omega)
   have g3:(0:Int)<(n:Int)+2:=by omega
   have g4:(1:Int)<(n:Int)+2:=by omega
   generalize z+y*4294967296=R at *
   clear hc hr hW hb hn
   go_enter Tryz.func108,Tryz.ntmps108
   go_wp2
   go_ret
   exact ⟨rfl,rfl⟩
end Go.Proofs.YtibhlcfligfhdaaGreat
