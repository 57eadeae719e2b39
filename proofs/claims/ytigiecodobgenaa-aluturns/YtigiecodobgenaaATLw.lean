import Derived.Test.YtigiecodobgenaaATSw
namespace Go.Proofs.Ytigiecodobgenaa
open Go.RowKit
theorem fs_13 : allF 13 13 true = true ∧ agB 13 13 true = true := by decide +kernel
theorem fo_13 : allF 13 14 false = true ∧ agB 13 14 false = true := by decide +kernel
theorem fs_14 : allF 14 14 true = true ∧ agB 14 14 true = true := by decide +kernel
theorem fo_14 : allF 14 13 false = true ∧ agB 14 13 false = true := by decide +kernel
theorem fs_15 : allF 15 17 true = true ∧ agB 15 17 true = true := by decide +kernel
theorem fo_15 : allF 15 18 false = true ∧ agB 15 18 false = true := by decide +kernel
theorem fs_16 : allF 16 18 true = true ∧ agB 16 18 true = true := by decide +kernel
theorem fo_16 : allF 16 17 false = true ∧ agB 16 17 false = true := by decide +kernel
theorem fs_17 : allF 17 15 true = true ∧ agB 17 15 true = true := by decide +kernel
theorem fo_17 : allF 17 16 false = true ∧ agB 17 16 false = true := by decide +kernel
theorem fs_18 : allF 18 16 true = true ∧ agB 18 16 true = true := by decide +kernel
theorem fo_18 : allF 18 15 false = true ∧ agB 18 15 false = true := by decide +kernel
theorem fs_19 : allF 19 21 true = true ∧ agB 19 21 true = true := by decide +kernel
theorem fo_19 : allF 19 22 false = true ∧ agB 19 22 false = true := by decide +kernel
theorem fs_20 : allF 20 22 true = true ∧ agB 20 22 true = true := by decide +kernel
theorem fo_20 : allF 20 21 false = true ∧ agB 20 21 false = true := by decide +kernel
theorem fs_21 : allF 21 19 true = true ∧ agB 21 19 true = true := by decide +kernel
theorem fo_21 : allF 21 20 false = true ∧ agB 21 20 false = true := by decide +kernel
theorem fs_22 : allF 22 20 true = true ∧ agB 22 20 true = true := by decide +kernel
theorem fo_22 : allF 22 19 false = true ∧ agB 22 19 false = true := by decide +kernel
theorem fs_23 : allF 23 23 true = true ∧ agB 23 23 true = true := by decide +kernel
theorem fo_23 : allF 23 24 false = true ∧ agB 23 24 false = true := by decide +kernel
theorem fs_24 : allF 24 24 true = true ∧ agB 24 24 true = true := by decide +kernel
theorem fo_24 : allF 24 23 false = true ∧ agB 24 23 false = true := by decide +kernel
theorem fs_25 : allF 25 27 true = true ∧ agB 25 27 true = true := by decide +kernel
theorem fo_25 : allF 25 29 false = true := by decide +kernel
theorem fs_26 : allF 26 28 true = true ∧ agB 26 28 true = true := by decide +kernel
theorem fo_26 : allF 26 29 false = true := by decide +kernel
theorem fs_27 : allF 27 25 true = true ∧ agB 27 25 true = true := by decide +kernel
theorem fo_27 : allF 27 29 false = true := by decide +kernel
theorem fs_28 : allF 28 26 true = true ∧ agB 28 26 true = true := by decide +kernel
theorem fo_28 : allF 28 29 false = true := by decide +kernel
theorem rsw_any (op : Nat) (w : World) :
    Calls Try.prog 11 #[.int .u8 op] w fun e w' => e = .returned (.tuple #[.int .u8 (swV op), .int .i64 (swE op)]) ∧ Below w.heap.size w w' := by
  by_cases h13 : op = 13
  · subst h13
    exact rsw_found 13 13 w rfl (by decide) (by decide) (allF_use fs_13.1) fs_13.2
  by_cases h14 : op = 14
  · subst h14
    exact rsw_found 14 14 w rfl (by decide) (by decide) (allF_use fs_14.1) fs_14.2
  by_cases h15 : op = 15
  · subst h15
    exact rsw_found 15 17 w rfl (by decide) (by decide) (allF_use fs_15.1) fs_15.2
  by_cases h16 : op = 16
  · subst h16
    exact rsw_found 16 18 w rfl (by decide) (by decide) (allF_use fs_16.1) fs_16.2
  by_cases h17 : op = 17
  · subst h17
    exact rsw_found 17 15 w rfl (by decide) (by decide) (allF_use fs_17.1) fs_17.2
  by_cases h18 : op = 18
  · subst h18
    exact rsw_found 18 16 w rfl (by decide) (by decide) (allF_use fs_18.1) fs_18.2
  by_cases h19 : op = 19
  · subst h19
    exact rsw_found 19 21 w rfl (by decide) (by decide) (allF_use fs_19.1) fs_19.2
  by_cases h20 : op = 20
  · subst h20
    exact rsw_found 20 22 w rfl (by decide) (by decide) (allF_use fs_20.1) fs_20.2
  by_cases h21 : op = 21
  · subst h21
    exact rsw_found 21 19 w rfl (by decide) (by decide) (allF_use fs_21.1) fs_21.2
  by_cases h22 : op = 22
  · subst h22
    exact rsw_found 22 20 w rfl (by decide) (by decide) (allF_use fs_22.1) fs_22.2
  by_cases h23 : op = 23
  · subst h23
    exact rsw_found 23 23 w rfl (by decide) (by decide) (allF_use fs_23.1) fs_23.2
  by_cases h24 : op = 24
  · subst h24
    exact rsw_found 24 24 w rfl (by decide) (by decide) (allF_use fs_24.1) fs_24.2
  by_cases h25 : op = 25
  · subst h25
    exact rsw_found 25 27 w rfl (by decide) (by decide) (allF_use fs_25.1) fs_25.2
  by_cases h26 : op = 26
  · subst h26
    exact rsw_found 26 28 w rfl (by decide) (by decide) (allF_use fs_26.1) fs_26.2
  by_cases h27 : op = 27
  · subst h27
    exact rsw_found 27 25 w rfl (by decide) (by decide) (allF_use fs_27.1) fs_27.2
  by_cases h28 : op = 28
  · subst h28
    exact rsw_found 28 26 w rfl (by decide) (by decide) (allF_use fs_28.1) fs_28.2
  have h0 : swV op = 0 := by unfold swV; simp only [if_neg h13, if_neg h14, if_neg h15, if_neg h16, if_neg h17, if_neg h18, if_neg h19, if_neg h20, if_neg h21, if_neg h22, if_neg h23, if_neg h24, if_neg h25, if_neg h26, if_neg h27, if_neg h28]
  have h1 : swE op = 61 := by unfold swE; rw [if_neg (by omega)]
  rw [h0, h1]
  exact rsw_not op w (by unfold hoE; rw [if_neg (by omega)])
theorem rop_any (op : Nat) (w : World) :
    Calls Try.prog 13 #[.int .u8 op] w fun e w' => e = .returned (.tuple #[.int .u8 (opV op), .int .i64 (opE op)]) ∧ Below w.heap.size w w' := by
  by_cases h13 : op = 13
  · subst h13
    exact rop_found 13 14 w rfl (by decide) (by decide) (allF_use fo_13.1) fo_13.2
  by_cases h14 : op = 14
  · subst h14
    exact rop_found 14 13 w rfl (by decide) (by decide) (allF_use fo_14.1) fo_14.2
  by_cases h15 : op = 15
  · subst h15
    exact rop_found 15 18 w rfl (by decide) (by decide) (allF_use fo_15.1) fo_15.2
  by_cases h16 : op = 16
  · subst h16
    exact rop_found 16 17 w rfl (by decide) (by decide) (allF_use fo_16.1) fo_16.2
  by_cases h17 : op = 17
  · subst h17
    exact rop_found 17 16 w rfl (by decide) (by decide) (allF_use fo_17.1) fo_17.2
  by_cases h18 : op = 18
  · subst h18
    exact rop_found 18 15 w rfl (by decide) (by decide) (allF_use fo_18.1) fo_18.2
  by_cases h19 : op = 19
  · subst h19
    exact rop_found 19 22 w rfl (by decide) (by decide) (allF_use fo_19.1) fo_19.2
  by_cases h20 : op = 20
  · subst h20
    exact rop_found 20 21 w rfl (by decide) (by decide) (allF_use fo_20.1) fo_20.2
  by_cases h21 : op = 21
  · subst h21
    exact rop_found 21 20 w rfl (by decide) (by decide) (allF_use fo_21.1) fo_21.2
  by_cases h22 : op = 22
  · subst h22
    exact rop_found 22 19 w rfl (by decide) (by decide) (allF_use fo_22.1) fo_22.2
  by_cases h23 : op = 23
  · subst h23
    exact rop_found 23 24 w rfl (by decide) (by decide) (allF_use fo_23.1) fo_23.2
  by_cases h24 : op = 24
  · subst h24
    exact rop_found 24 23 w rfl (by decide) (by decide) (allF_use fo_24.1) fo_24.2
  by_cases h25 : op = 25
  · subst h25
    exact rop_none 25 w rfl (allF_use fo_25)
  by_cases h26 : op = 26
  · subst h26
    exact rop_none 26 w rfl (allF_use fo_26)
  by_cases h27 : op = 27
  · subst h27
    exact rop_none 27 w rfl (allF_use fo_27)
  by_cases h28 : op = 28
  · subst h28
    exact rop_none 28 w rfl (allF_use fo_28)
  have h0 : opV op = 0 := by unfold opV; simp only [if_neg h13, if_neg h14, if_neg h15, if_neg h16, if_neg h17, if_neg h18, if_neg h19, if_neg h20, if_neg h21, if_neg h22, if_neg h23, if_neg h24, if_neg h25, if_neg h26, if_neg h27, if_neg h28]
  have h1 : opE op = 61 := by unfold opE; rw [if_neg (by omega), if_neg (by omega)]
  rw [h0, h1]
  exact rop_not op w (by unfold hoE; rw [if_neg (by omega)])
theorem alu_turns (op : Nat) (w : World) :
    Calls Try.prog 5 #[.int .u8 op] w fun e w' => e = .returned (.bool true) ∧ Below w.heap.size w w' := by
  have d0 := fun w => sw_any op w
  have d1 := fun w => rsw_any op w
  have d2 := fun w => op_any op w
  have d3 := fun w => rop_any op w
  generalize swV op = A at *
  generalize swE op = B at *
  generalize opV op = C at *
  generalize opE op = D at *
  have HB : Below w.heap.size w w := Below.refl _ _
  go_enter Try.func5, Try.ntmps5
  go_wp2_with (first
    | (go_at_call 10; with_reducible refine (d0 _).mono ?_; rintro e wq ⟨rfl, hq⟩; subst wq)
    | (go_at_call 11; with_reducible refine (d1 _).mono ?_; rintro e wq ⟨rfl, hq⟩; replace HB : Below w.heap.size w wq := btw hq HB)
    | (go_at_call 12; with_reducible refine (d2 _).mono ?_; rintro e wq ⟨rfl, hq⟩; subst wq)
    | (go_at_call 13; with_reducible refine (d3 _).mono ?_; rintro e wq ⟨rfl, hq⟩; replace HB : Below w.heap.size w wq := btw hq HB))
  go_ret
  exact ⟨rfl, HB⟩
end Go.Proofs.Ytigiecodobgenaa
