import Derived.Test.YtjggbdlmghembaaGreatCSRest
namespace Go.Proofs.YtjggbdlmghembaaGreat
open Go.RowKit
set_option maxRecDepth 100000
/-- what a binary operation makes of two words -/
def binV (op a b : Nat) : Nat := if op = 39 then (((a + b) % 4294967296 : Nat)) else if op = 40 then (((a + 4294967296 - b) % 4294967296 : Nat)) else if op = 41 then (((a * b) % 4294967296 : Nat)) else if op = 42 then (if b = 0 then 0 else (((sx a).tdiv (sx b) % 4294967296)).toNat) else if op = 43 then (if b = 0 then 0 else (a / b : Nat)) else if op = 44 then (if b = 0 then 0 else (((sx a).tmod (sx b) % 4294967296)).toNat) else if op = 45 then (if b = 0 then 0 else (a % b : Nat)) else if op = 46 then ((a &&& b : Nat)) else if op = 47 then ((a ||| b : Nat)) else if op = 48 then ((a ^^^ b : Nat)) else if op = 50 then ((a * 2 ^ (b % 32) % 4294967296 : Nat)) else if op = 51 then ((((sx a) / 2 ^ (b % 32) % 4294967296)).toNat) else if op = 52 then ((a / 2 ^ (b % 32) : Nat)) else if op = 54 then (fsum a b) else if op = 55 then (fsum a (tn b)) else if op = 56 then (fmul a b) else if op = 57 then (fdiv a b) else 0
/-- and its error -/
def binE (op b : Nat) : Int := if op = 42 ∨ op = 43 ∨ op = 44 ∨ op = 45 then (if b = 0 then 60 else 0) else if 39 ≤ op ∧ op ≤ 57 ∧ op ≠ 49 ∧ op ≠ 53 then 0 else 61
theorem binV_39 (a b : Nat) : binV 39 a b = (((a + b) % 4294967296 : Nat)) := by
  unfold binV
  repeat (first | rw [if_pos rfl] | rw [if_neg (by decide)])
theorem binE_39 (b : Nat) : binE 39 b = 0 := by
  unfold binE
  rw [if_neg (by decide), if_pos (by decide)]
theorem binV_40 (a b : Nat) : binV 40 a b = (((a + 4294967296 - b) % 4294967296 : Nat)) := by
  unfold binV
  repeat (first | rw [if_pos rfl] | rw [if_neg (by decide)])
theorem binE_40 (b : Nat) : binE 40 b = 0 := by
  unfold binE
  rw [if_neg (by decide), if_pos (by decide)]
theorem binV_41 (a b : Nat) : binV 41 a b = (((a * b) % 4294967296 : Nat)) := by
  unfold binV
  repeat (first | rw [if_pos rfl] | rw [if_neg (by decide)])
theorem binE_41 (b : Nat) : binE 41 b = 0 := by
  unfold binE
  rw [if_neg (by decide), if_pos (by decide)]
theorem binV_42 (a b : Nat) : binV 42 a b = (if b = 0 then 0 else (((sx a).tdiv (sx b) % 4294967296)).toNat) := by
  unfold binV
  repeat (first | rw [if_pos rfl] | rw [if_neg (by decide)])
theorem binE_42 (b : Nat) : binE 42 b = if b = 0 then 60 else 0 := by
  unfold binE
  rw [if_pos (by decide)]
theorem binV_43 (a b : Nat) : binV 43 a b = (if b = 0 then 0 else (a / b : Nat)) := by
  unfold binV
  repeat (first | rw [if_pos rfl] | rw [if_neg (by decide)])
theorem binE_43 (b : Nat) : binE 43 b = if b = 0 then 60 else 0 := by
  unfold binE
  rw [if_pos (by decide)]
theorem binV_44 (a b : Nat) : binV 44 a b = (if b = 0 then 0 else (((sx a).tmod (sx b) % 4294967296)).toNat) := by
  unfold binV
  repeat (first | rw [if_pos rfl] | rw [if_neg (by decide)])
theorem binE_44 (b : Nat) : binE 44 b = if b = 0 then 60 else 0 := by
  unfold binE
  rw [if_pos (by decide)]
theorem binV_45 (a b : Nat) : binV 45 a b = (if b = 0 then 0 else (a % b : Nat)) := by
  unfold binV
  repeat (first | rw [if_pos rfl] | rw [if_neg (by decide)])
theorem binE_45 (b : Nat) : binE 45 b = if b = 0 then 60 else 0 := by
  unfold binE
  rw [if_pos (by decide)]
theorem binV_46 (a b : Nat) : binV 46 a b = ((a &&& b : Nat)) := by
  unfold binV
  repeat (first | rw [if_pos rfl] | rw [if_neg (by decide)])
theorem binE_46 (b : Nat) : binE 46 b = 0 := by
  unfold binE
  rw [if_neg (by decide), if_pos (by decide)]
theorem binV_47 (a b : Nat) : binV 47 a b = ((a ||| b : Nat)) := by
  unfold binV
  repeat (first | rw [if_pos rfl] | rw [if_neg (by decide)])
theorem binE_47 (b : Nat) : binE 47 b = 0 := by
  unfold binE
  rw [if_neg (by decide), if_pos (by decide)]
theorem binV_48 (a b : Nat) : binV 48 a b = ((a ^^^ b : Nat)) := by
  unfold binV
  repeat (first | rw [if_pos rfl] | rw [if_neg (by decide)])
theorem binE_48 (b : Nat) : binE 48 b = 0 := by
  unfold binE
  rw [if_neg (by decide), if_pos (by decide)]
theorem binV_50 (a b : Nat) : binV 50 a b = ((a * 2 ^ (b % 32) % 4294967296 : Nat)) := by
  unfold binV
  repeat (first | rw [if_pos rfl] | rw [if_neg (by decide)])
theorem binE_50 (b : Nat) : binE 50 b = 0 := by
  unfold binE
  rw [if_neg (by decide), if_pos (by decide)]
theorem binV_51 (a b : Nat) : binV 51 a b = ((((sx a) / 2 ^ (b % 32) % 4294967296)).toNat) := by
  unfold binV
  repeat (first | rw [if_pos rfl] | rw [if_neg (by decide)])
theorem binE_51 (b : Nat) : binE 51 b = 0 := by
  unfold binE
  rw [if_neg (by decide), if_pos (by decide)]
theorem binV_52 (a b : Nat) : binV 52 a b = ((a / 2 ^ (b % 32) : Nat)) := by
  unfold binV
  repeat (first | rw [if_pos rfl] | rw [if_neg (by decide)])
theorem binE_52 (b : Nat) : binE 52 b = 0 := by
  unfold binE
  rw [if_neg (by decide), if_pos (by decide)]
theorem binV_54 (a b : Nat) : binV 54 a b = (fsum a b) := by
  unfold binV
  repeat (first | rw [if_pos rfl] | rw [if_neg (by decide)])
theorem binE_54 (b : Nat) : binE 54 b = 0 := by
  unfold binE
  rw [if_neg (by decide), if_pos (by decide)]
theorem binV_55 (a b : Nat) : binV 55 a b = (fsum a (tn b)) := by
  unfold binV
  repeat (first | rw [if_pos rfl] | rw [if_neg (by decide)])
theorem binE_55 (b : Nat) : binE 55 b = 0 := by
  unfold binE
  rw [if_neg (by decide), if_pos (by decide)]
theorem binV_56 (a b : Nat) : binV 56 a b = (fmul a b) := by
  unfold binV
  repeat (first | rw [if_pos rfl] | rw [if_neg (by decide)])
theorem binE_56 (b : Nat) : binE 56 b = 0 := by
  unfold binE
  rw [if_neg (by decide), if_pos (by decide)]
theorem binV_57 (a b : Nat) : binV 57 a b = (fdiv a b) := by
  unfold binV
  repeat (first | rw [if_pos rfl] | rw [if_neg (by decide)])
theorem binE_57 (b : Nat) : binE 57 b = 0 := by
  unfold binE
  rw [if_neg (by decide), if_pos (by decide)]
theorem anat_of {z : Int} : ((z % 4294967296).toNat : Int) = z % 4294967296 := Int.toNat_of_nonneg (Int.emod_nonneg _ (by decide))
theorem bin_any (op a b : Nat) (w : World) (ha : a < 4294967296) (hb : b < 4294967296) :
    Calls Tryz.prog 44 #[.int .u8 op, .int .u32 a, .int .u32 b] w fun e w' => e = .returned (.tuple #[.int .u32 (binV op a b), .int .i64 (binE op b)]) ∧ Below w.heap.size w w' := by
  by_cases h39 : op = 39
  · subst h39
    rw [binV_39, binE_39]
    exact b_add_any a b w 
  by_cases h40 : op = 40
  · subst h40
    rw [binV_40, binE_40]
    exact b_sub_any a b w ha hb
  by_cases h41 : op = 41
  · subst h41
    rw [binV_41, binE_41]
    exact b_mul_any a b w 
  by_cases h42 : op = 42
  · subst h42
    by_cases hz : b = 0
    · subst hz
      rw [binV_42, binE_42, if_pos rfl, if_pos rfl]
      exact b_divi0_any a w
    · have := b_divi_any a b w ha hb hz
      rw [← anat_of] at this
      rw [binV_42, binE_42, if_neg hz, if_neg hz]
      exact this
  by_cases h43 : op = 43
  · subst h43
    by_cases hz : b = 0
    · subst hz
      rw [binV_43, binE_43, if_pos rfl, if_pos rfl]
      exact b_divu0_any a w
    · have := b_divu_any a b w ha hz
      rw [binV_43, binE_43, if_neg hz, if_neg hz]
      exact this
  by_cases h44 : op = 44
  · subst h44
    by_cases hz : b = 0
    · subst hz
      rw [binV_44, binE_44, if_pos rfl, if_pos rfl]
      exact b_modi0_any a w
    · have := b_modi_any a b w ha hb hz
      rw [← anat_of] at this
      rw [binV_44, binE_44, if_neg hz, if_neg hz]
      exact this
  by_cases h45 : op = 45
  · subst h45
    by_cases hz : b = 0
    · subst hz
      rw [binV_45, binE_45, if_pos rfl, if_pos rfl]
      exact b_modu0_any a w
    · have := b_modu_any a b w hz
      rw [binV_45, binE_45, if_neg hz, if_neg hz]
      exact this
  by_cases h46 : op = 46
  · subst h46
    rw [binV_46, binE_46]
    exact b_and_any a b w ha hb
  by_cases h47 : op = 47
  · subst h47
    rw [binV_47, binE_47]
    exact b_or_any a b w ha hb
  by_cases h48 : op = 48
  · subst h48
    rw [binV_48, binE_48]
    exact b_xor_any a b w ha hb
  by_cases h50 : op = 50
  · subst h50
    rw [binV_50, binE_50]
    exact b_shl_any a b w 
  by_cases h51 : op = 51
  · subst h51
    have := b_shri_any a b w ha
    rw [← anat_of] at this
    rw [binV_51, binE_51]
    exact this
  by_cases h52 : op = 52
  · subst h52
    rw [binV_52, binE_52]
    exact b_shru_any a b w 
  by_cases h54 : op = 54
  · subst h54
    rw [binV_54, binE_54]
    exact b_addf_any a b w
  by_cases h55 : op = 55
  · subst h55
    rw [binV_55, binE_55]
    exact b_subf_any a b w hb
  by_cases h56 : op = 56
  · subst h56
    rw [binV_56, binE_56]
    exact b_mulf_any a b w
  by_cases h57 : op = 57
  · subst h57
    rw [binV_57, binE_57]
    exact b_divf_any a b w
  have h0 : binV op a b = 0 := by unfold binV; simp only [if_neg h39, if_neg h40, if_neg h41, if_neg h42, if_neg h43, if_neg h44, if_neg h45, if_neg h46, if_neg h47, if_neg h48, if_neg h50, if_neg h51, if_neg h52, if_neg h54, if_neg h55, if_neg h56, if_neg h57]
  have h1 : binE op b = 61 := by unfold binE; rw [if_neg (by omega), if_neg (by omega)]
  rw [h0, h1]
  exact b_none_any op a b w (by omega) (by omega) (by omega) (by omega) (by omega) (by omega) (by omega) (by omega) (by omega) (by omega) (by omega) (by omega) (by omega) (by omega) (by omega) (by omega) (by omega)
end Go.Proofs.YtjggbdlmghembaaGreat
namespace Go.Proofs.YtjggbdlmghembaaGreat
open Go.RowKit
set_option maxRecDepth 100000
theorem beq_cast (a b : Nat) : ((a : Int) == (b : Int)) = decide (a = b) := by
  by_cases h : a = b
  · subst h; simp
  · rw [decide_eq_false h]; simp; omega
theorem stds_any (a b x y : Nat) (w : World) :
    Calls Tryz.prog 42 #[.int .u32 a, .int .u32 b, .int .u8 x, .int .u8 y] w fun e w' => e = .returned (.bool (decide (fstand a b = x) || decide (fstand a b = y))) ∧ w' = w := by
  go_enter Tryz.func42, Tryz.ntmps42
  go_wp2_with (go_at_call 57; refine (stand_any _ _ _).mono ?_; rintro e wq ⟨rfl, hq⟩; subst wq)
  all_goals (go_ret; refine ⟨?_, rfl⟩; simp_all [beq_cast]; try omega)
theorem h_eq_any (a b : Nat) (w : World) :
    Calls Tryz.prog 31 #[.int .u8 13, .int .u32 a, .int .u32 b] w fun e w' => e = .returned (.tuple #[.bool (decide (a = b)), .int .i64 0]) ∧ w' = w := by
  go_enter Tryz.func31, Tryz.ntmps31
  go_wp2
  simp [bodyPost, results, Tryz.results31]
  exact beq_cast a b
theorem h_ne_any (a b : Nat) (w : World) :
    Calls Tryz.prog 31 #[.int .u8 14, .int .u32 a, .int .u32 b] w fun e w' => e = .returned (.tuple #[.bool (decide (a ≠ b)), .int .i64 0]) ∧ w' = w := by
  go_enter Tryz.func31, Tryz.ntmps31
  go_wp2
  simp [bodyPost, results, Tryz.results31]
  rw [bne, beq_cast]
theorem h_lti_any (a b : Nat) (w : World) (ha : a < 4294967296) (hb : b < 4294967296) :
    Calls Tryz.prog 31 #[.int .u8 15, .int .u32 a, .int .u32 b] w fun e w' => e = .returned (.tuple #[.bool (decide (sx a < sx b)), .int .i64 0]) ∧ w' = w := by
  rw [← wrap32_sx ha, ← wrap32_sx hb]
  go_enter Tryz.func31, Tryz.ntmps31
  go_wp2
  simp [bodyPost, results, Tryz.results31]
theorem h_lei_any (a b : Nat) (w : World) (ha : a < 4294967296) (hb : b < 4294967296) :
    Calls Tryz.prog 31 #[.int .u8 16, .int .u32 a, .int .u32 b] w fun e w' => e = .returned (.tuple #[.bool (decide (sx a ≤ sx b)), .int .i64 0]) ∧ w' = w := by
  rw [← wrap32_sx ha, ← wrap32_sx hb]
  go_enter Tryz.func31, Tryz.ntmps31
  go_wp2
  simp [bodyPost, results, Tryz.results31]
theorem h_gti_any (a b : Nat) (w : World) (ha : a < 4294967296) (hb : b < 4294967296) :
    Calls Tryz.prog 31 #[.int .u8 17, .int .u32 a, .int .u32 b] w fun e w' => e = .returned (.tuple #[.bool (decide (sx b < sx a)), .int .i64 0]) ∧ w' = w := by
  rw [← wrap32_sx ha, ← wrap32_sx hb]
  go_enter Tryz.func31, Tryz.ntmps31
  go_wp2
  simp [bodyPost, results, Tryz.results31]
theorem h_gei_any (a b : Nat) (w : World) (ha : a < 4294967296) (hb : b < 4294967296) :
    Calls Tryz.prog 31 #[.int .u8 18, .int .u32 a, .int .u32 b] w fun e w' => e = .returned (.tuple #[.bool (decide (sx b ≤ sx a)), .int .i64 0]) ∧ w' = w := by
  rw [← wrap32_sx ha, ← wrap32_sx hb]
  go_enter Tryz.func31, Tryz.ntmps31
  go_wp2
  simp [bodyPost, results, Tryz.results31]
theorem h_ltu_any (a b : Nat) (w : World) :
    Calls Tryz.prog 31 #[.int .u8 19, .int .u32 a, .int .u32 b] w fun e w' => e = .returned (.tuple #[.bool (decide (a < b)), .int .i64 0]) ∧ w' = w := by
  go_enter Tryz.func31, Tryz.ntmps31
  go_wp2
  simp [bodyPost, results, Tryz.results31]
theorem h_leu_any (a b : Nat) (w : World) :
    Calls Tryz.prog 31 #[.int .u8 20, .int .u32 a, .int .u32 b] w fun e w' => e = .returned (.tuple #[.bool (decide (a ≤ b)), .int .i64 0]) ∧ w' = w := by
  go_enter Tryz.func31, Tryz.ntmps31
  go_wp2
  simp [bodyPost, results, Tryz.results31]
theorem h_gtu_any (a b : Nat) (w : World) :
    Calls Tryz.prog 31 #[.int .u8 21, .int .u32 a, .int .u32 b] w fun e w' => e = .returned (.tuple #[.bool (decide (b < a)), .int .i64 0]) ∧ w' = w := by
  go_enter Tryz.func31, Tryz.ntmps31
  go_wp2
  simp [bodyPost, results, Tryz.results31]
theorem h_geu_any (a b : Nat) (w : World) :
    Calls Tryz.prog 31 #[.int .u8 22, .int .u32 a, .int .u32 b] w fun e w' => e = .returned (.tuple #[.bool (decide (b ≤ a)), .int .i64 0]) ∧ w' = w := by
  go_enter Tryz.func31, Tryz.ntmps31
  go_wp2
  simp [bodyPost, results, Tryz.results31]
theorem h_eqf_any (a b : Nat) (w : World) :
    Calls Tryz.prog 31 #[.int .u8 23, .int .u32 a, .int .u32 b] w fun e w' => e = .returned (.tuple #[.bool (decide (fstand a b = 3)), .int .i64 0]) ∧ w' = w := by
  have hc : ∀ w, Calls Tryz.prog 42 #[.int .u32 a, .int .u32 b, .int .u8 3, .int .u8 3] w fun e w' => e = .returned (.bool (decide (fstand a b = 3) || decide (fstand a b = 3))) ∧ w' = w := fun w => stds_any a b 3 3 w
  go_enter Tryz.func31, Tryz.ntmps31
  go_wp2_with (go_at_call 42; refine (hc _).mono ?_; rintro e wq ⟨rfl, hq⟩; subst wq)
  simp [bodyPost, results, Tryz.results31]
theorem h_nef_any (a b : Nat) (w : World) :
    Calls Tryz.prog 31 #[.int .u8 24, .int .u32 a, .int .u32 b] w fun e w' => e = .returned (.tuple #[.bool (!decide (fstand a b = 3)), .int .i64 0]) ∧ w' = w := by
  have hc : ∀ w, Calls Tryz.prog 42 #[.int .u32 a, .int .u32 b, .int .u8 3, .int .u8 3] w fun e w' => e = .returned (.bool (decide (fstand a b = 3) || decide (fstand a b = 3))) ∧ w' = w := fun w => stds_any a b 3 3 w
  go_enter Tryz.func31, Tryz.ntmps31
  go_wp2_with (go_at_call 42; refine (hc _).mono ?_; rintro e wq ⟨rfl, hq⟩; subst wq)
  simp [bodyPost, results, Tryz.results31]
theorem h_ltf_any (a b : Nat) (w : World) :
    Calls Tryz.prog 31 #[.int .u8 25, .int .u32 a, .int .u32 b] w fun e w' => e = .returned (.tuple #[.bool (decide (fstand a b = 2)), .int .i64 0]) ∧ w' = w := by
  have hc : ∀ w, Calls Tryz.prog 42 #[.int .u32 a, .int .u32 b, .int .u8 2, .int .u8 2] w fun e w' => e = .returned (.bool (decide (fstand a b = 2) || decide (fstand a b = 2))) ∧ w' = w := fun w => stds_any a b 2 2 w
  go_enter Tryz.func31, Tryz.ntmps31
  go_wp2_with (go_at_call 42; refine (hc _).mono ?_; rintro e wq ⟨rfl, hq⟩; subst wq)
  simp [bodyPost, results, Tryz.results31]
theorem h_lef_any (a b : Nat) (w : World) :
    Calls Tryz.prog 31 #[.int .u8 26, .int .u32 a, .int .u32 b] w fun e w' => e = .returned (.tuple #[.bool ((decide (fstand a b = 2) || decide (fstand a b = 3))), .int .i64 0]) ∧ w' = w := by
  have hc : ∀ w, Calls Tryz.prog 42 #[.int .u32 a, .int .u32 b, .int .u8 2, .int .u8 3] w fun e w' => e = .returned (.bool (decide (fstand a b = 2) || decide (fstand a b = 3))) ∧ w' = w := fun w => stds_any a b 2 3 w
  go_enter Tryz.func31, Tryz.ntmps31
  go_wp2_with (go_at_call 42; refine (hc _).mono ?_; rintro e wq ⟨rfl, hq⟩; subst wq)
  simp [bodyPost, results, Tryz.results31]
theorem h_gtf_any (a b : Nat) (w : World) :
    Calls Tryz.prog 31 #[.int .u8 27, .int .u32 a, .int .u32 b] w fun e w' => e = .returned (.tuple #[.bool (decide (fstand a b = 4)), .int .i64 0]) ∧ w' = w := by
  have hc : ∀ w, Calls Tryz.prog 42 #[.int .u32 a, .int .u32 b, .int .u8 4, .int .u8 4] w fun e w' => e = .returned (.bool (decide (fstand a b = 4) || decide (fstand a b = 4))) ∧ w' = w := fun w => stds_any a b 4 4 w
  go_enter Tryz.func31, Tryz.ntmps31
  go_wp2_with (go_at_call 42; refine (hc _).mono ?_; rintro e wq ⟨rfl, hq⟩; subst wq)
  simp [bodyPost, results, Tryz.results31]
theorem h_gef_any (a b : Nat) (w : World) :
    Calls Tryz.prog 31 #[.int .u8 28, .int .u32 a, .int .u32 b] w fun e w' => e = .returned (.tuple #[.bool ((decide (fstand a b = 4) || decide (fstand a b = 3))), .int .i64 0]) ∧ w' = w := by
  have hc : ∀ w, Calls Tryz.prog 42 #[.int .u32 a, .int .u32 b, .int .u8 4, .int .u8 3] w fun e w' => e = .returned (.bool (decide (fstand a b = 4) || decide (fstand a b = 3))) ∧ w' = w := fun w => stds_any a b 4 3 w
  go_enter Tryz.func31, Tryz.ntmps31
  go_wp2_with (go_at_call 42; refine (hc _).mono ?_; rintro e wq ⟨rfl, hq⟩; subst wq)
  simp [bodyPost, results, Tryz.results31]
theorem h_none_any (op a b : Nat) (w : World) (h13 : ¬ (op : Int) = 13) (h14 : ¬ (op : Int) = 14) (h15 : ¬ (op : Int) = 15) (h16 : ¬ (op : Int) = 16) (h17 : ¬ (op : Int) = 17) (h18 : ¬ (op : Int) = 18) (h19 : ¬ (op : Int) = 19) (h20 : ¬ (op : Int) = 20) (h21 : ¬ (op : Int) = 21) (h22 : ¬ (op : Int) = 22) (h23 : ¬ (op : Int) = 23) (h24 : ¬ (op : Int) = 24) (h25 : ¬ (op : Int) = 25) (h26 : ¬ (op : Int) = 26) (h27 : ¬ (op : Int) = 27) (h28 : ¬ (op : Int) = 28) :
    Calls Tryz.prog 31 #[.int .u8 op, .int .u32 a, .int .u32 b] w fun e w' => e = .returned (.tuple #[.bool false, .int .i64 61]) ∧ w' = w := by
  go_enter Tryz.func31, Tryz.ntmps31
  go_wp2
  simp [bodyPost, results, Tryz.results31]
/-- does a comparison hold -/
def hoV (op a b : Nat) : Bool := if op = 13 then (decide (a = b)) else if op = 14 then (decide (a ≠ b)) else if op = 15 then (decide (sx a < sx b)) else if op = 16 then (decide (sx a ≤ sx b)) else if op = 17 then (decide (sx b < sx a)) else if op = 18 then (decide (sx b ≤ sx a)) else if op = 19 then (decide (a < b)) else if op = 20 then (decide (a ≤ b)) else if op = 21 then (decide (b < a)) else if op = 22 then (decide (b ≤ a)) else if op = 23 then (decide (fstand a b = 3)) else if op = 24 then (!decide (fstand a b = 3)) else if op = 25 then (decide (fstand a b = 2)) else if op = 26 then ((decide (fstand a b = 2) || decide (fstand a b = 3))) else if op = 27 then (decide (fstand a b = 4)) else if op = 28 then ((decide (fstand a b = 4) || decide (fstand a b = 3))) else false
def hoE (op : Nat) : Int := if 13 ≤ op ∧ op ≤ 28 then 0 else 61
theorem hoV_13 (a b : Nat) : hoV 13 a b = (decide (a = b)) := by
  unfold hoV
  repeat (first | rw [if_pos rfl] | rw [if_neg (by decide)])
theorem hoV_14 (a b : Nat) : hoV 14 a b = (decide (a ≠ b)) := by
  unfold hoV
  repeat (first | rw [if_pos rfl] | rw [if_neg (by decide)])
theorem hoV_15 (a b : Nat) : hoV 15 a b = (decide (sx a < sx b)) := by
  unfold hoV
  repeat (first | rw [if_pos rfl] | rw [if_neg (by decide)])
theorem hoV_16 (a b : Nat) : hoV 16 a b = (decide (sx a ≤ sx b)) := by
  unfold hoV
  repeat (first | rw [if_pos rfl] | rw [if_neg (by decide)])
theorem hoV_17 (a b : Nat) : hoV 17 a b = (decide (sx b < sx a)) := by
  unfold hoV
  repeat (first | rw [if_pos rfl] | rw [if_neg (by decide)])
theorem hoV_18 (a b : Nat) : hoV 18 a b = (decide (sx b ≤ sx a)) := by
  unfold hoV
  repeat (first | rw [if_pos rfl] | rw [if_neg (by decide)])
theorem hoV_19 (a b : Nat) : hoV 19 a b = (decide (a < b)) := by
  unfold hoV
  repeat (first | rw [if_pos rfl] | rw [if_neg (by decide)])
theorem hoV_20 (a b : Nat) : hoV 20 a b = (decide (a ≤ b)) := by
  unfold hoV
  repeat (first | rw [if_pos rfl] | rw [if_neg (by decide)])
theorem hoV_21 (a b : Nat) : hoV 21 a b = (decide (b < a)) := by
  unfold hoV
  repeat (first | rw [if_pos rfl] | rw [if_neg (by decide)])
theorem hoV_22 (a b : Nat) : hoV 22 a b = (decide (b ≤ a)) := by
  unfold hoV
  repeat (first | rw [if_pos rfl] | rw [if_neg (by decide)])
theorem hoV_23 (a b : Nat) : hoV 23 a b = (decide (fstand a b = 3)) := by
  unfold hoV
  repeat (first | rw [if_pos rfl] | rw [if_neg (by decide)])
theorem hoV_24 (a b : Nat) : hoV 24 a b = (!decide (fstand a b = 3)) := by
  unfold hoV
  repeat (first | rw [if_pos rfl] | rw [if_neg (by decide)])
theorem hoV_25 (a b : Nat) : hoV 25 a b = (decide (fstand a b = 2)) := by
  unfold hoV
  repeat (first | rw [if_pos rfl] | rw [if_neg (by decide)])
theorem hoV_26 (a b : Nat) : hoV 26 a b = ((decide (fstand a b = 2) || decide (fstand a b = 3))) := by
  unfold hoV
  repeat (first | rw [if_pos rfl] | rw [if_neg (by decide)])
theorem hoV_27 (a b : Nat) : hoV 27 a b = (decide (fstand a b = 4)) := by
  unfold hoV
  repeat (first | rw [if_pos rfl] | rw [if_neg (by decide)])
theorem hoV_28 (a b : Nat) : hoV 28 a b = ((decide (fstand a b = 4) || decide (fstand a b = 3))) := by
  unfold hoV
  repeat (first | rw [if_pos rfl] | rw [if_neg (by decide)])
theorem ho_any (op a b : Nat) (w : World) (ha : a < 4294967296) (hb : b < 4294967296) :
    Calls Tryz.prog 31 #[.int .u8 op, .int .u32 a, .int .u32 b] w fun e w' => e = .returned (.tuple #[.bool (hoV op a b), .int .i64 (hoE op)]) ∧ w' = w := by
  by_cases h13 : op = 13
  · subst h13
    rw [hoV_13, show hoE 13 = 0 from rfl]
    exact h_eq_any a b w
  by_cases h14 : op = 14
  · subst h14
    rw [hoV_14, show hoE 14 = 0 from rfl]
    exact h_ne_any a b w
  by_cases h15 : op = 15
  · subst h15
    rw [hoV_15, show hoE 15 = 0 from rfl]
    exact h_lti_any a b w ha hb
  by_cases h16 : op = 16
  · subst h16
    rw [hoV_16, show hoE 16 = 0 from rfl]
    exact h_lei_any a b w ha hb
  by_cases h17 : op = 17
  · subst h17
    rw [hoV_17, show hoE 17 = 0 from rfl]
    exact h_gti_any a b w ha hb
  by_cases h18 : op = 18
  · subst h18
    rw [hoV_18, show hoE 18 = 0 from rfl]
    exact h_gei_any a b w ha hb
  by_cases h19 : op = 19
  · subst h19
    rw [hoV_19, show hoE 19 = 0 from rfl]
    exact h_ltu_any a b w
  by_cases h20 : op = 20
  · subst h20
    rw [hoV_20, show hoE 20 = 0 from rfl]
    exact h_leu_any a b w
  by_cases h21 : op = 21
  · subst h21
    rw [hoV_21, show hoE 21 = 0 from rfl]
    exact h_gtu_any a b w
  by_cases h22 : op = 22
  · subst h22
    rw [hoV_22, show hoE 22 = 0 from rfl]
    exact h_geu_any a b w
  by_cases h23 : op = 23
  · subst h23
    rw [hoV_23, show hoE 23 = 0 from rfl]
    exact h_eqf_any a b w
  by_cases h24 : op = 24
  · subst h24
    rw [hoV_24, show hoE 24 = 0 from rfl]
    exact h_nef_any a b w
  by_cases h25 : op = 25
  · subst h25
    rw [hoV_25, show hoE 25 = 0 from rfl]
    exact h_ltf_any a b w
  by_cases h26 : op = 26
  · subst h26
    rw [hoV_26, show hoE 26 = 0 from rfl]
    exact h_lef_any a b w
  by_cases h27 : op = 27
  · subst h27
    rw [hoV_27, show hoE 27 = 0 from rfl]
    exact h_gtf_any a b w
  by_cases h28 : op = 28
  · subst h28
    rw [hoV_28, show hoE 28 = 0 from rfl]
    exact h_gef_any a b w
  have h0 : hoV op a b = false := by unfold hoV; simp only [if_neg h13, if_neg h14, if_neg h15, if_neg h16, if_neg h17, if_neg h18, if_neg h19, if_neg h20, if_neg h21, if_neg h22, if_neg h23, if_neg h24, if_neg h25, if_neg h26, if_neg h27, if_neg h28]
  have h1 : hoE op = 61 := by unfold hoE; rw [if_neg (by omega)]
  rw [h0, h1]
  exact h_none_any op a b w (by omega) (by omega) (by omega) (by omega) (by omega) (by omega) (by omega) (by omega) (by omega) (by omega) (by omega) (by omega) (by omega) (by omega) (by omega) (by omega)
end Go.Proofs.YtjggbdlmghembaaGreat
