import Derived.Test.YtgbpfejodpplbaaGreatDoorCABinA
namespace Go.Proofs.YtgbpfejodpplbaaGreatDoor
open Go.RowKit
set_option maxRecDepth 100000
theorem beq_cast (a b : Nat) : ((a : Int) == (b : Int)) = decide (a = b) := by
  by_cases h : a = b
  · subst h; simp
  · rw [decide_eq_false h]; simp; omega
theorem stds_any (a b x y : Nat) (w : World) :
    Calls Tryz.prog 105 #[.int .u32 a, .int .u32 b, .int .u8 x, .int .u8 y] w fun e w' => e = .returned (.bool (decide (fstand a b = x) || decide (fstand a b = y))) ∧ w' = w := by
  go_enter Tryz.func105, Tryz.ntmps105
  go_wp2_with (go_at_call 111; refine (stand_any _ _ _).mono ?_; rintro e wq ⟨rfl, hq⟩; subst wq)
  all_goals (go_ret; refine ⟨?_, rfl⟩; simp_all [beq_cast]; try omega)
theorem h_eq_any (a b : Nat) (w : World) :
    Calls Tryz.prog 88 #[.int .u8 13, .int .u32 a, .int .u32 b] w fun e w' => e = .returned (.tuple #[.bool (decide (a = b)), .int .i64 0]) ∧ w' = w := by
  go_enter Tryz.func88, Tryz.ntmps88
  go_wp2
  simp [bodyPost, results, Tryz.results88]
  exact beq_cast a b
theorem h_ne_any (a b : Nat) (w : World) :
    Calls Tryz.prog 88 #[.int .u8 14, .int .u32 a, .int .u32 b] w fun e w' => e = .returned (.tuple #[.bool (decide (a ≠ b)), .int .i64 0]) ∧ w' = w := by
  go_enter Tryz.func88, Tryz.ntmps88
  go_wp2
  simp [bodyPost, results, Tryz.results88]
  rw [bne, beq_cast]
theorem h_lti_any (a b : Nat) (w : World) (ha : a < 4294967296) (hb : b < 4294967296) :
    Calls Tryz.prog 88 #[.int .u8 15, .int .u32 a, .int .u32 b] w fun e w' => e = .returned (.tuple #[.bool (decide (sx a < sx b)), .int .i64 0]) ∧ w' = w := by
  rw [← wrap32_sx ha, ← wrap32_sx hb]
  go_enter Tryz.func88, Tryz.ntmps88
  go_wp2
  simp [bodyPost, results, Tryz.results88]
theorem h_lei_any (a b : Nat) (w : World) (ha : a < 4294967296) (hb : b < 4294967296) :
    Calls Tryz.prog 88 #[.int .u8 16, .int .u32 a, .int .u32 b] w fun e w' => e = .returned (.tuple #[.bool (decide (sx a ≤ sx b)), .int .i64 0]) ∧ w' = w := by
  rw [← wrap32_sx ha, ← wrap32_sx hb]
  go_enter Tryz.func88, Tryz.ntmps88
  go_wp2
  simp [bodyPost, results, Tryz.results88]
theorem h_gti_any (a b : Nat) (w : World) (ha : a < 4294967296) (hb : b < 4294967296) :
    Calls Tryz.prog 88 #[.int .u8 17, .int .u32 a, .int .u32 b] w fun e w' => e = .returned (.tuple #[.bool (decide (sx b < sx a)), .int .i64 0]) ∧ w' = w := by
  rw [← wrap32_sx ha, ← wrap32_sx hb]
  go_enter Tryz.func88, Tryz.ntmps88
  go_wp2
  simp [bodyPost, results, Tryz.results88]
theorem h_gei_any (a b : Nat) (w : World) (ha : a < 4294967296) (hb : b < 4294967296) :
    Calls Tryz.prog 88 #[.int .u8 18, .int .u32 a, .int .u32 b] w fun e w' => e = .returned (.tuple #[.bool (decide (sx b ≤ sx a)), .int .i64 0]) ∧ w' = w := by
  rw [← wrap32_sx ha, ← wrap32_sx hb]
  go_enter Tryz.func88, Tryz.ntmps88
  go_wp2
  simp [bodyPost, results, Tryz.results88]
theorem h_ltu_any (a b : Nat) (w : World) :
    Calls Tryz.prog 88 #[.int .u8 19, .int .u32 a, .int .u32 b] w fun e w' => e = .returned (.tuple #[.bool (decide (a < b)), .int .i64 0]) ∧ w' = w := by
  go_enter Tryz.func88, Tryz.ntmps88
  go_wp2
  simp [bodyPost, results, Tryz.results88]
theorem h_leu_any (a b : Nat) (w : World) :
    Calls Tryz.prog 88 #[.int .u8 20, .int .u32 a, .int .u32 b] w fun e w' => e = .returned (.tuple #[.bool (decide (a ≤ b)), .int .i64 0]) ∧ w' = w := by
  go_enter Tryz.func88, Tryz.ntmps88
  go_wp2
  simp [bodyPost, results, Tryz.results88]
theorem h_gtu_any (a b : Nat) (w : World) :
    Calls Tryz.prog 88 #[.int .u8 21, .int .u32 a, .int .u32 b] w fun e w' => e = .returned (.tuple #[.bool (decide (b < a)), .int .i64 0]) ∧ w' = w := by
  go_enter Tryz.func88, Tryz.ntmps88
  go_wp2
  simp [bodyPost, results, Tryz.results88]
theorem h_geu_any (a b : Nat) (w : World) :
    Calls Tryz.prog 88 #[.int .u8 22, .int .u32 a, .int .u32 b] w fun e w' => e = .returned (.tuple #[.bool (decide (b ≤ a)), .int .i64 0]) ∧ w' = w := by
  go_enter Tryz.func88, Tryz.ntmps88
  go_wp2
  simp [bodyPost, results, Tryz.results88]
theorem h_eqf_any (a b : Nat) (w : World) :
    Calls Tryz.prog 88 #[.int .u8 23, .int .u32 a, .int .u32 b] w fun e w' => e = .returned (.tuple #[.bool (decide (fstand a b = 3)), .int .i64 0]) ∧ w' = w := by
  have hc : ∀ w, Calls Tryz.prog 105 #[.int .u32 a, .int .u32 b, .int .u8 3, .int .u8 3] w fun e w' => e = .returned (.bool (decide (fstand a b = 3) || decide (fstand a b = 3))) ∧ w' = w := fun w => stds_any a b 3 3 w
  go_enter Tryz.func88, Tryz.ntmps88
  go_wp2_with (go_at_call 105; refine (hc _).mono ?_; rintro e wq ⟨rfl, hq⟩; subst wq)
  simp [bodyPost, results, Tryz.results88]
theorem h_nef_any (a b : Nat) (w : World) :
    Calls Tryz.prog 88 #[.int .u8 24, .int .u32 a, .int .u32 b] w fun e w' => e = .returned (.tuple #[.bool (!decide (fstand a b = 3)), .int .i64 0]) ∧ w' = w := by
  have hc : ∀ w, Calls Tryz.prog 105 #[.int .u32 a, .int .u32 b, .int .u8 3, .int .u8 3] w fun e w' => e = .returned (.bool (decide (fstand a b = 3) || decide (fstand a b = 3))) ∧ w' = w := fun w => stds_any a b 3 3 w
  go_enter Tryz.func88, Tryz.ntmps88
  go_wp2_with (go_at_call 105; refine (hc _).mono ?_; rintro e wq ⟨rfl, hq⟩; subst wq)
  simp [bodyPost, results, Tryz.results88]
theorem h_ltf_any (a b : Nat) (w : World) :
    Calls Tryz.prog 88 #[.int .u8 25, .int .u32 a, .int .u32 b] w fun e w' => e = .returned (.tuple #[.bool (decide (fstand a b = 2)), .int .i64 0]) ∧ w' = w := by
  have hc : ∀ w, Calls Tryz.prog 105 #[.int .u32 a, .int .u32 b, .int .u8 2, .int .u8 2] w fun e w' => e = .returned (.bool (decide (fstand a b = 2) || decide (fstand a b = 2))) ∧ w' = w := fun w => stds_any a b 2 2 w
  go_enter Tryz.func88, Tryz.ntmps88
  go_wp2_with (go_at_call 105; refine (hc _).mono ?_; rintro e wq ⟨rfl, hq⟩; subst wq)
  simp [bodyPost, results, Tryz.results88]
theorem h_lef_any (a b : Nat) (w : World) :
    Calls Tryz.prog 88 #[.int .u8 26, .int .u32 a, .int .u32 b] w fun e w' => e = .returned (.tuple #[.bool ((decide (fstand a b = 2) || decide (fstand a b = 3))), .int .i64 0]) ∧ w' = w := by
  have hc : ∀ w, Calls Tryz.prog 105 #[.int .u32 a, .int .u32 b, .int .u8 2, .int .u8 3] w fun e w' => e = .returned (.bool (decide (fstand a b = 2) || decide (fstand a b = 3))) ∧ w' = w := fun w => stds_any a b 2 3 w
  go_enter Tryz.func88, Tryz.ntmps88
  go_wp2_with (go_at_call 105; refine (hc _).mono ?_; rintro e wq ⟨rfl, hq⟩; subst wq)
  simp [bodyPost, results, Tryz.results88]
theorem h_gtf_any (a b : Nat) (w : World) :
    Calls Tryz.prog 88 #[.int .u8 27, .int .u32 a, .int .u32 b] w fun e w' => e = .returned (.tuple #[.bool (decide (fstand a b = 4)), .int .i64 0]) ∧ w' = w := by
  have hc : ∀ w, Calls Tryz.prog 105 #[.int .u32 a, .int .u32 b, .int .u8 4, .int .u8 4] w fun e w' => e = .returned (.bool (decide (fstand a b = 4) || decide (fstand a b = 4))) ∧ w' = w := fun w => stds_any a b 4 4 w
  go_enter Tryz.func88, Tryz.ntmps88
  go_wp2_with (go_at_call 105; refine (hc _).mono ?_; rintro e wq ⟨rfl, hq⟩; subst wq)
  simp [bodyPost, results, Tryz.results88]
theorem h_gef_any (a b : Nat) (w : World) :
    Calls Tryz.prog 88 #[.int .u8 28, .int .u32 a, .int .u32 b] w fun e w' => e = .returned (.tuple #[.bool ((decide (fstand a b = 4) || decide (fstand a b = 3))), .int .i64 0]) ∧ w' = w := by
  have hc : ∀ w, Calls Tryz.prog 105 #[.int .u32 a, .int .u32 b, .int .u8 4, .int .u8 3] w fun e w' => e = .returned (.bool (decide (fstand a b = 4) || decide (fstand a b = 3))) ∧ w' = w := fun w => stds_any a b 4 3 w
  go_enter Tryz.func88, Tryz.ntmps88
  go_wp2_with (go_at_call 105; refine (hc _).mono ?_; rintro e wq ⟨rfl, hq⟩; subst wq)
  simp [bodyPost, results, Tryz.results88]
theorem h_none_any (op a b : Nat) (w : World) (h13 : ¬ (op : Int) = 13) (h14 : ¬ (op : Int) = 14) (h15 : ¬ (op : Int) = 15) (h16 : ¬ (op : Int) = 16) (h17 : ¬ (op : Int) = 17) (h18 : ¬ (op : Int) = 18) (h19 : ¬ (op : Int) = 19) (h20 : ¬ (op : Int) = 20) (h21 : ¬ (op : Int) = 21) (h22 : ¬ (op : Int) = 22) (h23 : ¬ (op : Int) = 23) (h24 : ¬ (op : Int) = 24) (h25 : ¬ (op : Int) = 25) (h26 : ¬ (op : Int) = 26) (h27 : ¬ (op : Int) = 27) (h28 : ¬ (op : Int) = 28) :
    Calls Tryz.prog 88 #[.int .u8 op, .int .u32 a, .int .u32 b] w fun e w' => e = .returned (.tuple #[.bool false, .int .i64 61]) ∧ w' = w := by
  go_enter Tryz.func88, Tryz.ntmps88
  go_wp2
  simp [bodyPost, results, Tryz.results88]
/-- does a comparison hold -/
def hoV (op a b : Nat) : Bool := if op = 13 then (decide (a = b)) else if op = 14 then (decide (a ≠ b)) else if op = 15 then (decide (sx a < sx b)) else if op = 16 then (decide (sx a ≤ sx b)) else if op = 17 then (decide (sx b < sx a)) else if op = 18 then (decide (sx b ≤ sx a)) else if op = 19 then (decide (a < b)) else if op = 20 then (decide (a ≤ b)) else if op = 21 then (decide (b < a)) else if op = 22 then (decide (b ≤ a)) else if op = 23 then (decide (fstand a b = 3)) else if op = 24 then (!decide (fstand a b = 3)) else if op = 25 then (decide (fstand a b = 2)) else if op = 26 then ((decide (fstand a b = 2) || decide (fstand a b = 3))) else if op = 27 then (decide (fstand a b = 4)) else if op = 28 then ((decide (fstand a b = 4) || decide (fstand a b = 3))) else false
def hoE (op : Nat) : Int := if 13 ≤ op ∧ op ≤ 28 then 0 else 61
theorem hoV_13 (a b : Nat) : hoV 13 a b = (decide (a = b)) := by
  unfold hoV
  repeat (first | rw [if_pos rfl] | rw [if_neg (by decide)])
theorem hoV_14 (a b : Nat) : hoV 14 a b = (decide (a ≠ b)) := by
  unfold hoV
  repeat (first | rw [if_pos rfl] | rw [if_neg (by decide)])
theorem hoV_15 (a b : Nat) : hoV 15 a b = (decide (sx a < sx b)) := by
  unfold hoV
  repeat (first | rw [if_pos rfl] | rw [if_neg (by decide)])
theorem hoV_16 (a b : Nat) : hoV 16 a b = (decide (sx a ≤ sx b)) := by
  unfold hoV
  repeat (first | rw [if_pos rfl] | rw [if_neg (by decide)])
theorem hoV_17 (a b : Nat) : hoV 17 a b = (decide (sx b < sx a)) := by
  unfold hoV
  repeat (first | rw [if_pos rfl] | rw [if_neg (by decide)])
theorem hoV_18 (a b : Nat) : hoV 18 a b = (decide (sx b ≤ sx a)) := by
  unfold hoV
  repeat (first | rw [if_pos rfl] | rw [if_neg (by decide)])
theorem hoV_19 (a b : Nat) : hoV 19 a b = (decide (a < b)) := by
  unfold hoV
  repeat (first | rw [if_pos rfl] | rw [if_neg (by decide)])
theorem hoV_20 (a b : Nat) : hoV 20 a b = (decide (a ≤ b)) := by
  unfold hoV
  repeat (first | rw [if_pos rfl] | rw [if_neg (by decide)])
theorem hoV_21 (a b : Nat) : hoV 21 a b = (decide (b < a)) := by
  unfold hoV
  repeat (first | rw [if_pos rfl] | rw [if_neg (by decide)])
theorem hoV_22 (a b : Nat) : hoV 22 a b = (decide (b ≤ a)) := by
  unfold hoV
  repeat (first | rw [if_pos rfl] | rw [if_neg (by decide)])
theorem hoV_23 (a b : Nat) : hoV 23 a b = (decide (fstand a b = 3)) := by
  unfold hoV
  repeat (first | rw [if_pos rfl] | rw [if_neg (by decide)])
theorem hoV_24 (a b : Nat) : hoV 24 a b = (!decide (fstand a b = 3)) := by
  unfold hoV
  repeat (first | rw [if_pos rfl] | rw [if_neg (by decide)])
theorem hoV_25 (a b : Nat) : hoV 25 a b = (decide (fstand a b = 2)) := by
  unfold hoV
  repeat (first | rw [if_pos rfl] | rw [if_neg (by decide)])
theorem hoV_26 (a b : Nat) : hoV 26 a b = ((decide (fstand a b = 2) || decide (fstand a b = 3))) := by
  unfold hoV
  repeat (first | rw [if_pos rfl] | rw [if_neg (by decide)])
theorem hoV_27 (a b : Nat) : hoV 27 a b = (decide (fstand a b = 4)) := by
  unfold hoV
  repeat (first | rw [if_pos rfl] | rw [if_neg (by decide)])
theorem hoV_28 (a b : Nat) : hoV 28 a b = ((decide (fstand a b = 4) || decide (fstand a b = 3))) := by
  unfold hoV
  repeat (first | rw [if_pos rfl] | rw [if_neg (by decide)])
theorem ho_any (op a b : Nat) (w : World) (ha : a < 4294967296) (hb : b < 4294967296) :
    Calls Tryz.prog 88 #[.int .u8 op, .int .u32 a, .int .u32 b] w fun e w' => e = .returned (.tuple #[.bool (hoV op a b), .int .i64 (hoE op)]) ∧ w' = w := by
  by_cases h13 : op = 13
  · subst h13
    rw [hoV_13, show hoE 13 = 0 from rfl]
    exact h_eq_any a b w
  by_cases h14 : op = 14
  · subst h14
    rw [hoV_14, show hoE 14 = 0 from rfl]
    exact h_ne_any a b w
  by_cases h15 : op = 15
  · subst h15
    rw [hoV_15, show hoE 15 = 0 from rfl]
    exact h_lti_any a b w ha hb
  by_cases h16 : op = 16
  · subst h16
    rw [hoV_16, show hoE 16 = 0 from rfl]
    exact h_lei_any a b w ha hb
  by_cases h17 : op = 17
  · subst h17
    rw [hoV_17, show hoE 17 = 0 from rfl]
    exact h_gti_any a b w ha hb
  by_cases h18 : op = 18
  · subst h18
    rw [hoV_18, show hoE 18 = 0 from rfl]
    exact h_gei_any a b w ha hb
  by_cases h19 : op = 19
  · subst h19
    rw [hoV_19, show hoE 19 = 0 from rfl]
    exact h_ltu_any a b w
  by_cases h20 : op = 20
  · subst h20
    rw [hoV_20, show hoE 20 = 0 from rfl]
    exact h_leu_any a b w
  by_cases h21 : op = 21
  · subst h21
    rw [hoV_21, show hoE 21 = 0 from rfl]
    exact h_gtu_any a b w
  by_cases h22 : op = 22
  · subst h22
    rw [hoV_22, show hoE 22 = 0 from rfl]
    exact h_geu_any a b w
  by_cases h23 : op = 23
  · subst h23
    rw [hoV_23, show hoE 23 = 0 from rfl]
    exact h_eqf_any a b w
  by_cases h24 : op = 24
  · subst h24
    rw [hoV_24, show hoE 24 = 0 from rfl]
    exact h_nef_any a b w
  by_cases h25 : op = 25
  · subst h25
    rw [hoV_25, show hoE 25 = 0 from rfl]
    exact h_ltf_any a b w
  by_cases h26 : op = 26
  · subst h26
    rw [hoV_26, show hoE 26 = 0 from rfl]
    exact h_lef_any a b w
  by_cases h27 : op = 27
  · subst h27
    rw [hoV_27, show hoE 27 = 0 from rfl]
    exact h_gtf_any a b w
  by_cases h28 : op = 28
  · subst h28
    rw [hoV_28, show hoE 28 = 0 from rfl]
    exact h_gef_any a b w
  have h0 : hoV op a b = false := by unfold hoV; simp only [if_neg h13, if_neg h14, if_neg h15, if_neg h16, if_neg h17, if_neg h18, if_neg h19, if_neg h20, if_neg h21, if_neg h22, if_neg h23, if_neg h24, if_neg h25, if_neg h26, if_neg h27, if_neg h28]
  have h1 : hoE op = 61 := by unfold hoE; rw [if_neg (by omega)]
  rw [h0, h1]
  exact h_none_any op a b w (by omega) (by omega) (by omega) (by omega) (by omega) (by omega) (by omega) (by omega) (by omega) (by omega) (by omega) (by omega) (by omega) (by omega) (by omega) (by omega)
end Go.Proofs.YtgbpfejodpplbaaGreatDoor
