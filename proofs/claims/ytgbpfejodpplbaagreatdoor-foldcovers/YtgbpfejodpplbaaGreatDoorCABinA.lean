import Derived.Test.YtgbpfejodpplbaaGreatDoorCABin
import Derived.Test.YtgbpfejodpplbaaGreatDoorCSFin
namespace Go.Proofs.YtgbpfejodpplbaaGreatDoor
open Go.RowKit
set_option maxRecDepth 100000
/-- what a binary operation makes of two words -/
def binV (op a b : Nat) : Nat := if op = 39 then (((a + b) % 4294967296 : Nat)) else if op = 40 then (((a + 4294967296 - b) % 4294967296 : Nat)) else if op = 41 then (((a * b) % 4294967296 : Nat)) else if op = 42 then (if b = 0 then 0 else (((sx a).tdiv (sx b) % 4294967296)).toNat) else if op = 43 then (if b = 0 then 0 else (a / b : Nat)) else if op = 44 then (if b = 0 then 0 else (((sx a).tmod (sx b) % 4294967296)).toNat) else if op = 45 then (if b = 0 then 0 else (a % b : Nat)) else if op = 46 then ((a &&& b : Nat)) else if op = 47 then ((a ||| b : Nat)) else if op = 48 then ((a ^^^ b : Nat)) else if op = 50 then ((a * 2 ^ (b % 32) % 4294967296 : Nat)) else if op = 51 then ((((sx a) / 2 ^ (b % 32) % 4294967296)).toNat) else if op = 52 then ((a / 2 ^ (b % 32) : Nat)) else if op = 54 then (fsum a b) else if op = 55 then (fsum a (tn b)) else if op = 56 then (fmul a b) else if op = 57 then (fdiv a b) else 0
/-- and its error -/
def binE (op b : Nat) : Int := if op = 42 ∨ op = 43 ∨ op = 44 ∨ op = 45 then (if b = 0 then 60 else 0) else if 39 ≤ op ∧ op ≤ 57 ∧ op ≠ 49 ∧ op ≠ 53 then 0 else 61
theorem binV_39 (a b : Nat) : binV 39 a b = (((a + b) % 4294967296 : Nat)) := by
  unfold binV
  repeat (first | rw [if_pos rfl] | rw [if_neg (by decide)])
theorem binE_39 (b : Nat) : binE 39 b = 0 := by
  unfold binE
  rw [if_neg (by decide), if_pos (by decide)]
theorem binV_40 (a b : Nat) : binV 40 a b = (((a + 4294967296 - b) % 4294967296 : Nat)) := by
  unfold binV
  repeat (first | rw [if_pos rfl] | rw [if_neg (by decide)])
theorem binE_40 (b : Nat) : binE 40 b = 0 := by
  unfold binE
  rw [if_neg (by decide), if_pos (by decide)]
theorem binV_41 (a b : Nat) : binV 41 a b = (((a * b) % 4294967296 : Nat)) := by
  unfold binV
  repeat (first | rw [if_pos rfl] | rw [if_neg (by decide)])
theorem binE_41 (b : Nat) : binE 41 b = 0 := by
  unfold binE
  rw [if_neg (by decide), if_pos (by decide)]
theorem binV_42 (a b : Nat) : binV 42 a b = (if b = 0 then 0 else (((sx a).tdiv (sx b) % 4294967296)).toNat) := by
  unfold binV
  repeat (first | rw [if_pos rfl] | rw [if_neg (by decide)])
theorem binE_42 (b : Nat) : binE 42 b = if b = 0 then 60 else 0 := by
  unfold binE
  rw [if_pos (by decide)]
theorem binV_43 (a b : Nat) : binV 43 a b = (if b = 0 then 0 else (a / b : Nat)) := by
  unfold binV
  repeat (first | rw [if_pos rfl] | rw [if_neg (by decide)])
theorem binE_43 (b : Nat) : binE 43 b = if b = 0 then 60 else 0 := by
  unfold binE
  rw [if_pos (by decide)]
theorem binV_44 (a b : Nat) : binV 44 a b = (if b = 0 then 0 else (((sx a).tmod (sx b) % 4294967296)).toNat) := by
  unfold binV
  repeat (first | rw [if_pos rfl] | rw [if_neg (by decide)])
theorem binE_44 (b : Nat) : binE 44 b = if b = 0 then 60 else 0 := by
  unfold binE
  rw [if_pos (by decide)]
theorem binV_45 (a b : Nat) : binV 45 a b = (if b = 0 then 0 else (a % b : Nat)) := by
  unfold binV
  repeat (first | rw [if_pos rfl] | rw [if_neg (by decide)])
theorem binE_45 (b : Nat) : binE 45 b = if b = 0 then 60 else 0 := by
  unfold binE
  rw [if_pos (by decide)]
theorem binV_46 (a b : Nat) : binV 46 a b = ((a &&& b : Nat)) := by
  unfold binV
  repeat (first | rw [if_pos rfl] | rw [if_neg (by decide)])
theorem binE_46 (b : Nat) : binE 46 b = 0 := by
  unfold binE
  rw [if_neg (by decide), if_pos (by decide)]
theorem binV_47 (a b : Nat) : binV 47 a b = ((a ||| b : Nat)) := by
  unfold binV
  repeat (first | rw [if_pos rfl] | rw [if_neg (by decide)])
theorem binE_47 (b : Nat) : binE 47 b = 0 := by
  unfold binE
  rw [if_neg (by decide), if_pos (by decide)]
theorem binV_48 (a b : Nat) : binV 48 a b = ((a ^^^ b : Nat)) := by
  unfold binV
  repeat (first | rw [if_pos rfl] | rw [if_neg (by decide)])
theorem binE_48 (b : Nat) : binE 48 b = 0 := by
  unfold binE
  rw [if_neg (by decide), if_pos (by decide)]
theorem binV_50 (a b : Nat) : binV 50 a b = ((a * 2 ^ (b % 32) % 4294967296 : Nat)) := by
  unfold binV
  repeat (first | rw [if_pos rfl] | rw [if_neg (by decide)])
theorem binE_50 (b : Nat) : binE 50 b = 0 := by
  unfold binE
  rw [if_neg (by decide), if_pos (by decide)]
theorem binV_51 (a b : Nat) : binV 51 a b = ((((sx a) / 2 ^ (b % 32) % 4294967296)).toNat) := by
  unfold binV
  repeat (first | rw [if_pos rfl] | rw [if_neg (by decide)])
theorem binE_51 (b : Nat) : binE 51 b = 0 := by
  unfold binE
  rw [if_neg (by decide), if_pos (by decide)]
theorem binV_52 (a b : Nat) : binV 52 a b = ((a / 2 ^ (b % 32) : Nat)) := by
  unfold binV
  repeat (first | rw [if_pos rfl] | rw [if_neg (by decide)])
theorem binE_52 (b : Nat) : binE 52 b = 0 := by
  unfold binE
  rw [if_neg (by decide), if_pos (by decide)]
theorem binV_54 (a b : Nat) : binV 54 a b = (fsum a b) := by
  unfold binV
  repeat (first | rw [if_pos rfl] | rw [if_neg (by decide)])
theorem binE_54 (b : Nat) : binE 54 b = 0 := by
  unfold binE
  rw [if_neg (by decide), if_pos (by decide)]
theorem binV_55 (a b : Nat) : binV 55 a b = (fsum a (tn b)) := by
  unfold binV
  repeat (first | rw [if_pos rfl] | rw [if_neg (by decide)])
theorem binE_55 (b : Nat) : binE 55 b = 0 := by
  unfold binE
  rw [if_neg (by decide), if_pos (by decide)]
theorem binV_56 (a b : Nat) : binV 56 a b = (fmul a b) := by
  unfold binV
  repeat (first | rw [if_pos rfl] | rw [if_neg (by decide)])
theorem binE_56 (b : Nat) : binE 56 b = 0 := by
  unfold binE
  rw [if_neg (by decide), if_pos (by decide)]
theorem binV_57 (a b : Nat) : binV 57 a b = (fdiv a b) := by
  unfold binV
  repeat (first | rw [if_pos rfl] | rw [if_neg (by decide)])
theorem binE_57 (b : Nat) : binE 57 b = 0 := by
  unfold binE
  rw [if_neg (by decide), if_pos (by decide)]
theorem anat_of {z : Int} : ((z % 4294967296).toNat : Int) = z % 4294967296 := Int.toNat_of_nonneg (Int.emod_nonneg _ (by decide))
theorem bin_any (op a b : Nat) (w : World) (ha : a < 4294967296) (hb : b < 4294967296) :
    Calls Tryz.prog 107 #[.int .u8 op, .int .u32 a, .int .u32 b] w fun e w' => e = .returned (.tuple #[.int .u32 (binV op a b), .int .i64 (binE op b)]) ∧ Below w.heap.size w w' := by
  by_cases h39 : op = 39
  · subst h39
    rw [binV_39, binE_39]
    exact b_add_any a b w 
  by_cases h40 : op = 40
  · subst h40
    rw [binV_40, binE_40]
    exact b_sub_any a b w ha hb
  by_cases h41 : op = 41
  · subst h41
    rw [binV_41, binE_41]
    exact b_mul_any a b w 
  by_cases h42 : op = 42
  · subst h42
    by_cases hz : b = 0
    · subst hz
      rw [binV_42, binE_42, if_pos rfl, if_pos rfl]
      exact b_divi0_any a w
    · have := b_divi_any a b w ha hb hz
      rw [← anat_of] at this
      rw [binV_42, binE_42, if_neg hz, if_neg hz]
      exact this
  by_cases h43 : op = 43
  · subst h43
    by_cases hz : b = 0
    · subst hz
      rw [binV_43, binE_43, if_pos rfl, if_pos rfl]
      exact b_divu0_any a w
    · have := b_divu_any a b w ha hz
      rw [binV_43, binE_43, if_neg hz, if_neg hz]
      exact this
  by_cases h44 : op = 44
  · subst h44
    by_cases hz : b = 0
    · subst hz
      rw [binV_44, binE_44, if_pos rfl, if_pos rfl]
      exact b_modi0_any a w
    · have := b_modi_any a b w ha hb hz
      rw [← anat_of] at this
      rw [binV_44, binE_44, if_neg hz, if_neg hz]
      exact this
  by_cases h45 : op = 45
  · subst h45
    by_cases hz : b = 0
    · subst hz
      rw [binV_45, binE_45, if_pos rfl, if_pos rfl]
      exact b_modu0_any a w
    · have := b_modu_any a b w hz
      rw [binV_45, binE_45, if_neg hz, if_neg hz]
      exact this
  by_cases h46 : op = 46
  · subst h46
    rw [binV_46, binE_46]
    exact b_and_any a b w ha hb
  by_cases h47 : op = 47
  · subst h47
    rw [binV_47, binE_47]
    exact b_or_any a b w ha hb
  by_cases h48 : op = 48
  · subst h48
    rw [binV_48, binE_48]
    exact b_xor_any a b w ha hb
  by_cases h50 : op = 50
  · subst h50
    rw [binV_50, binE_50]
    exact b_shl_any a b w 
  by_cases h51 : op = 51
  · subst h51
    have := b_shri_any a b w ha
    rw [← anat_of] at this
    rw [binV_51, binE_51]
    exact this
  by_cases h52 : op = 52
  · subst h52
    rw [binV_52, binE_52]
    exact b_shru_any a b w 
  by_cases h54 : op = 54
  · subst h54
    rw [binV_54, binE_54]
    exact b_addf_any a b w
  by_cases h55 : op = 55
  · subst h55
    rw [binV_55, binE_55]
    exact b_subf_any a b w hb
  by_cases h56 : op = 56
  · subst h56
    rw [binV_56, binE_56]
    exact b_mulf_any a b w
  by_cases h57 : op = 57
  · subst h57
    rw [binV_57, binE_57]
    exact b_divf_any a b w
  have h0 : binV op a b = 0 := by unfold binV; simp only [if_neg h39, if_neg h40, if_neg h41, if_neg h42, if_neg h43, if_neg h44, if_neg h45, if_neg h46, if_neg h47, if_neg h48, if_neg h50, if_neg h51, if_neg h52, if_neg h54, if_neg h55, if_neg h56, if_neg h57]
  have h1 : binE op b = 61 := by unfold binE; rw [if_neg (by omega), if_neg (by omega)]
  rw [h0, h1]
  exact b_none_any op a b w (by omega) (by omega) (by omega) (by omega) (by omega) (by omega) (by omega) (by omega) (by omega) (by omega) (by omega) (by omega) (by omega) (by omega) (by omega) (by omega) (by omega)
end Go.Proofs.YtgbpfejodpplbaaGreatDoor
namespace Go.Proofs.YtgbpfejodpplbaaGreatDoor
open Go.RowKit
set_option maxRecDepth 100000
/-- the lowest bits with their sign, as a word -/
def sex8 (a : Nat) : Nat := if a % 256 < 128 then a % 256 else a % 256 + 4294967040
def sex16 (a : Nat) : Nat := if a % 65536 < 32768 then a % 65536 else a % 65536 + 4294901760
theorem u_w8 (a : Nat) : IntKind.i8.wrap (a : Int) % 4294967296 = (sex8 a : Int) := by
  have e : IntKind.i8.wrap (a : Int) = ((a : Int) + 128) % 256 - 128 := by rw [IntKind.wrap]; simp [IntKind.signed, IntKind.bits]; split <;> omega
  rw [e]; unfold sex8; split <;> omega
theorem u_w16 (a : Nat) : IntKind.i16.wrap (a : Int) % 4294967296 = (sex16 a : Int) := by
  have e : IntKind.i16.wrap (a : Int) = ((a : Int) + 32768) % 65536 - 32768 := by rw [IntKind.wrap]; simp [IntKind.signed, IntKind.bits]; split <;> omega
  rw [e]; unfold sex16; split <;> omega
theorem xor_ones {a : Nat} (ha : a < 4294967296) : a ^^^ 4294967295 = 4294967295 - a := by
  have h : (BitVec.ofNat 32 a ^^^ BitVec.allOnes 32).toNat = (~~~ BitVec.ofNat 32 a).toNat := by rw [BitVec.xor_allOnes]
  rw [BitVec.toNat_xor, BitVec.toNat_not, BitVec.toNat_allOnes, BitVec.toNat_ofNat, Nat.mod_eq_of_lt ha] at h
  exact h
theorem u_not {a : Nat} (ha : a < 4294967296) : bits .xor .u32 IntKind.u32.max (a : Int) = ((4294967295 - a : Nat) : Int) := by
  have h1 : IntKind.u32.max = ((4294967295 : Nat) : Int) := rfl
  rw [h1, u32_xor_nat 4294967295 a (by decide) ha]
  congr 1
  have := Nat.xor_comm 4294967295 a
  rw [this]
  exact xor_ones ha
theorem u_sex8_any (a : Nat) (w : World) :
    Calls Tryz.prog 106 #[.int .u8 36, .int .u32 a] w fun e w' => e = .returned (.tuple #[.int .u32 ((sex8 a : Nat) : Int), .int .i64 0]) ∧ w' = w := by
  have e := u_w8 a
  rw [← e]
  clear e
  go_enter Tryz.func106, Tryz.ntmps106
  go_wp2
  simp [bodyPost, results, Tryz.results106]
theorem u_sex16_any (a : Nat) (w : World) :
    Calls Tryz.prog 106 #[.int .u8 37, .int .u32 a] w fun e w' => e = .returned (.tuple #[.int .u32 ((sex16 a : Nat) : Int), .int .i64 0]) ∧ w' = w := by
  have e := u_w16 a
  rw [← e]
  clear e
  go_enter Tryz.func106, Tryz.ntmps106
  go_wp2
  simp [bodyPost, results, Tryz.results106]
theorem u_neg_any (a : Nat) (w : World) (ha : a < 4294967296) :
    Calls Tryz.prog 106 #[.int .u8 38, .int .u32 a] w fun e w' => e = .returned (.tuple #[.int .u32 (((4294967296 - a) % 4294967296 : Nat) : Int), .int .i64 0]) ∧ w' = w := by
  have e : (-(a : Int)) % 4294967296 = (((4294967296 - a) % 4294967296 : Nat) : Int) := by omega
  rw [← e]
  clear e
  go_enter Tryz.func106, Tryz.ntmps106
  go_wp2
  simp [bodyPost, results, Tryz.results106]
theorem u_not_any (a : Nat) (w : World) (ha : a < 4294967296) :
    Calls Tryz.prog 106 #[.int .u8 49, .int .u32 a] w fun e w' => e = .returned (.tuple #[.int .u32 ((4294967295 - a : Nat) : Int), .int .i64 0]) ∧ w' = w := by
  have e := u_not ha
  have hs : ¬ IntKind.u32.signed = true := by decide
  rw [← e]
  clear e
  go_enter Tryz.func106, Tryz.ntmps106
  go_wp2
  simp [bodyPost, results, Tryz.results106]
theorem u_negf_any (a : Nat) (w : World) (ha : a < 4294967296) :
    Calls Tryz.prog 106 #[.int .u8 53, .int .u32 a] w fun e w' => e = .returned (.tuple #[.int .u32 ((tn a : Nat) : Int), .int .i64 0]) ∧ w' = w := by
  go_enter Tryz.func106, Tryz.ntmps106
  go_wp2_with (go_at_call 112; refine (turned_any _ _ ha).mono ?_; rintro e wq ⟨rfl, hq⟩; subst wq)
  simp [bodyPost, results, Tryz.results106]
theorem u_cvif_any (a : Nat) (w : World) (ha : a < 4294967296) :
    Calls Tryz.prog 106 #[.int .u8 58, .int .u32 a] w fun e w' => e = .returned (.tuple #[.int .u32 ((fof (sx a) : Nat) : Int), .int .i64 0]) ∧ w' = w := by
  have e := wrap32_sx ha
  rw [← e]
  clear e
  go_enter Tryz.func106, Tryz.ntmps106
  go_wp2_with (go_at_call 113; refine (of_any _ _).mono ?_; rintro e wq ⟨rfl, hq⟩; subst wq)
  simp [bodyPost, results, Tryz.results106]
theorem u_cvfi_any (a : Nat) (w : World) (ha : a < 4294967296) :
    Calls Tryz.prog 106 #[.int .u8 59, .int .u32 a] w fun e w' => e = .returned (.tuple #[.int .u32 (((twV a % 4294967296).toNat : Nat) : Int), .int .i64 0]) ∧ w' = w := by
  have e := anat_of (z := twV a)
  rw [e]
  clear e
  go_enter Tryz.func106, Tryz.ntmps106
  go_wp2_with (go_at_call 114; refine (ptoward_any _ _ ha).mono ?_; rintro e wq ⟨rfl, hq⟩; subst wq)
  simp [bodyPost, results, Tryz.results106]
theorem u_none_any (op a : Nat) (w : World) (h36 : ¬ (op : Int) = 36) (h37 : ¬ (op : Int) = 37) (h38 : ¬ (op : Int) = 38) (h49 : ¬ (op : Int) = 49) (h53 : ¬ (op : Int) = 53) (h58 : ¬ (op : Int) = 58) (h59 : ¬ (op : Int) = 59) :
    Calls Tryz.prog 106 #[.int .u8 op, .int .u32 a] w fun e w' => e = .returned (.tuple #[.int .u32 0, .int .i64 61]) ∧ w' = w := by
  go_enter Tryz.func106, Tryz.ntmps106
  go_wp2
  simp [bodyPost, results, Tryz.results106]
/-- what a unary operation makes of a word -/
def unV (op a : Nat) : Nat := if op = 36 then (sex8 a) else if op = 37 then (sex16 a) else if op = 38 then ((4294967296 - a) % 4294967296) else if op = 49 then (4294967295 - a) else if op = 53 then (tn a) else if op = 58 then (fof (sx a)) else if op = 59 then ((twV a % 4294967296).toNat) else 0
def unE (op : Nat) : Int := if op = 36 ∨ op = 37 ∨ op = 38 ∨ op = 49 ∨ op = 53 ∨ op = 58 ∨ op = 59 then 0 else 61
theorem unV_36 (a : Nat) : unV 36 a = (sex8 a) := by
  unfold unV
  repeat (first | rw [if_pos rfl] | rw [if_neg (by decide)])
theorem unV_37 (a : Nat) : unV 37 a = (sex16 a) := by
  unfold unV
  repeat (first | rw [if_pos rfl] | rw [if_neg (by decide)])
theorem unV_38 (a : Nat) : unV 38 a = ((4294967296 - a) % 4294967296) := by
  unfold unV
  repeat (first | rw [if_pos rfl] | rw [if_neg (by decide)])
theorem unV_49 (a : Nat) : unV 49 a = (4294967295 - a) := by
  unfold unV
  repeat (first | rw [if_pos rfl] | rw [if_neg (by decide)])
theorem unV_53 (a : Nat) : unV 53 a = (tn a) := by
  unfold unV
  repeat (first | rw [if_pos rfl] | rw [if_neg (by decide)])
theorem unV_58 (a : Nat) : unV 58 a = (fof (sx a)) := by
  unfold unV
  repeat (first | rw [if_pos rfl] | rw [if_neg (by decide)])
theorem unV_59 (a : Nat) : unV 59 a = ((twV a % 4294967296).toNat) := by
  unfold unV
  repeat (first | rw [if_pos rfl] | rw [if_neg (by decide)])
theorem un_any (op a : Nat) (w : World) (ha : a < 4294967296) :
    Calls Tryz.prog 106 #[.int .u8 op, .int .u32 a] w fun e w' => e = .returned (.tuple #[.int .u32 (unV op a), .int .i64 (unE op)]) ∧ w' = w := by
  by_cases h36 : op = 36
  · subst h36
    rw [unV_36, show unE 36 = 0 from rfl]
    exact u_sex8_any a w
  by_cases h37 : op = 37
  · subst h37
    rw [unV_37, show unE 37 = 0 from rfl]
    exact u_sex16_any a w
  by_cases h38 : op = 38
  · subst h38
    rw [unV_38, show unE 38 = 0 from rfl]
    exact u_neg_any a w ha
  by_cases h49 : op = 49
  · subst h49
    rw [unV_49, show unE 49 = 0 from rfl]
    exact u_not_any a w ha
  by_cases h53 : op = 53
  · subst h53
    rw [unV_53, show unE 53 = 0 from rfl]
    exact u_negf_any a w ha
  by_cases h58 : op = 58
  · subst h58
    rw [unV_58, show unE 58 = 0 from rfl]
    exact u_cvif_any a w ha
  by_cases h59 : op = 59
  · subst h59
    rw [unV_59, show unE 59 = 0 from rfl]
    exact u_cvfi_any a w ha
  have h0 : unV op a = 0 := by unfold unV; simp only [if_neg h36, if_neg h37, if_neg h38, if_neg h49, if_neg h53, if_neg h58, if_neg h59]
  have h1 : unE op = 61 := by unfold unE; rw [if_neg (by omega)]
  rw [h0, h1]
  exact u_none_any op a w (by omega) (by omega) (by omega) (by omega) (by omega) (by omega) (by omega)
end Go.Proofs.YtgbpfejodpplbaaGreatDoor
