import Derived.Test.YtigiecodobgenaaABinA
namespace Go.Proofs.Ytigiecodobgenaa
open Go.RowKit
def swV (op : Nat) : Nat := if op = 13 then 13 else if op = 14 then 14 else if op = 15 then 17 else if op = 16 then 18 else if op = 17 then 15 else if op = 18 then 16 else if op = 19 then 21 else if op = 20 then 22 else if op = 21 then 19 else if op = 22 then 20 else if op = 23 then 23 else if op = 24 then 24 else if op = 25 then 27 else if op = 26 then 28 else if op = 27 then 25 else if op = 28 then 26 else 0
def swE (op : Nat) : Int := if 13 ≤ op ∧ op ≤ 28 then 0 else 61
theorem sw_13_any (w : World) : Calls Try.prog 10 #[.int .u8 13] w fun e w' => e = .returned (.tuple #[.int .u8 13, .int .i64 0]) ∧ w' = w := by
  go_enter Try.func10, Try.ntmps10
  go_wp2
  simp [bodyPost, results, Try.results10]
theorem sw_14_any (w : World) : Calls Try.prog 10 #[.int .u8 14] w fun e w' => e = .returned (.tuple #[.int .u8 14, .int .i64 0]) ∧ w' = w := by
  go_enter Try.func10, Try.ntmps10
  go_wp2
  simp [bodyPost, results, Try.results10]
theorem sw_15_any (w : World) : Calls Try.prog 10 #[.int .u8 15] w fun e w' => e = .returned (.tuple #[.int .u8 17, .int .i64 0]) ∧ w' = w := by
  go_enter Try.func10, Try.ntmps10
  go_wp2
  simp [bodyPost, results, Try.results10]
theorem sw_16_any (w : World) : Calls Try.prog 10 #[.int .u8 16] w fun e w' => e = .returned (.tuple #[.int .u8 18, .int .i64 0]) ∧ w' = w := by
  go_enter Try.func10, Try.ntmps10
  go_wp2
  simp [bodyPost, results, Try.results10]
theorem sw_17_any (w : World) : Calls Try.prog 10 #[.int .u8 17] w fun e w' => e = .returned (.tuple #[.int .u8 15, .int .i64 0]) ∧ w' = w := by
  go_enter Try.func10, Try.ntmps10
  go_wp2
  simp [bodyPost, results, Try.results10]
theorem sw_18_any (w : World) : Calls Try.prog 10 #[.int .u8 18] w fun e w' => e = .returned (.tuple #[.int .u8 16, .int .i64 0]) ∧ w' = w := by
  go_enter Try.func10, Try.ntmps10
  go_wp2
  simp [bodyPost, results, Try.results10]
theorem sw_19_any (w : World) : Calls Try.prog 10 #[.int .u8 19] w fun e w' => e = .returned (.tuple #[.int .u8 21, .int .i64 0]) ∧ w' = w := by
  go_enter Try.func10, Try.ntmps10
  go_wp2
  simp [bodyPost, results, Try.results10]
theorem sw_20_any (w : World) : Calls Try.prog 10 #[.int .u8 20] w fun e w' => e = .returned (.tuple #[.int .u8 22, .int .i64 0]) ∧ w' = w := by
  go_enter Try.func10, Try.ntmps10
  go_wp2
  simp [bodyPost, results, Try.results10]
theorem sw_21_any (w : World) : Calls Try.prog 10 #[.int .u8 21] w fun e w' => e = .returned (.tuple #[.int .u8 19, .int .i64 0]) ∧ w' = w := by
  go_enter Try.func10, Try.ntmps10
  go_wp2
  simp [bodyPost, results, Try.results10]
theorem sw_22_any (w : World) : Calls Try.prog 10 #[.int .u8 22] w fun e w' => e = .returned (.tuple #[.int .u8 20, .int .i64 0]) ∧ w' = w := by
  go_enter Try.func10, Try.ntmps10
  go_wp2
  simp [bodyPost, results, Try.results10]
theorem sw_23_any (w : World) : Calls Try.prog 10 #[.int .u8 23] w fun e w' => e = .returned (.tuple #[.int .u8 23, .int .i64 0]) ∧ w' = w := by
  go_enter Try.func10, Try.ntmps10
  go_wp2
  simp [bodyPost, results, Try.results10]
theorem sw_24_any (w : World) : Calls Try.prog 10 #[.int .u8 24] w fun e w' => e = .returned (.tuple #[.int .u8 24, .int .i64 0]) ∧ w' = w := by
  go_enter Try.func10, Try.ntmps10
  go_wp2
  simp [bodyPost, results, Try.results10]
theorem sw_25_any (w : World) : Calls Try.prog 10 #[.int .u8 25] w fun e w' => e = .returned (.tuple #[.int .u8 27, .int .i64 0]) ∧ w' = w := by
  go_enter Try.func10, Try.ntmps10
  go_wp2
  simp [bodyPost, results, Try.results10]
theorem sw_26_any (w : World) : Calls Try.prog 10 #[.int .u8 26] w fun e w' => e = .returned (.tuple #[.int .u8 28, .int .i64 0]) ∧ w' = w := by
  go_enter Try.func10, Try.ntmps10
  go_wp2
  simp [bodyPost, results, Try.results10]
theorem sw_27_any (w : World) : Calls Try.prog 10 #[.int .u8 27] w fun e w' => e = .returned (.tuple #[.int .u8 25, .int .i64 0]) ∧ w' = w := by
  go_enter Try.func10, Try.ntmps10
  go_wp2
  simp [bodyPost, results, Try.results10]
theorem sw_28_any (w : World) : Calls Try.prog 10 #[.int .u8 28] w fun e w' => e = .returned (.tuple #[.int .u8 26, .int .i64 0]) ∧ w' = w := by
  go_enter Try.func10, Try.ntmps10
  go_wp2
  simp [bodyPost, results, Try.results10]
theorem sw_none_any (op : Nat) (w : World) (h13 : ¬ (op : Int) = 13) (h14 : ¬ (op : Int) = 14) (h15 : ¬ (op : Int) = 15) (h16 : ¬ (op : Int) = 16) (h17 : ¬ (op : Int) = 17) (h18 : ¬ (op : Int) = 18) (h19 : ¬ (op : Int) = 19) (h20 : ¬ (op : Int) = 20) (h21 : ¬ (op : Int) = 21) (h22 : ¬ (op : Int) = 22) (h23 : ¬ (op : Int) = 23) (h24 : ¬ (op : Int) = 24) (h25 : ¬ (op : Int) = 25) (h26 : ¬ (op : Int) = 26) (h27 : ¬ (op : Int) = 27) (h28 : ¬ (op : Int) = 28) :
    Calls Try.prog 10 #[.int .u8 op] w fun e w' => e = .returned (.tuple #[.int .u8 0, .int .i64 61]) ∧ w' = w := by
  go_enter Try.func10, Try.ntmps10
  go_wp2
  simp [bodyPost, results, Try.results10]
theorem sw_any (op : Nat) (w : World) : Calls Try.prog 10 #[.int .u8 op] w fun e w' => e = .returned (.tuple #[.int .u8 (swV op), .int .i64 (swE op)]) ∧ w' = w := by
  by_cases h13 : op = 13
  · subst h13
    rw [show swV 13 = 13 from rfl, show swE 13 = 0 from rfl]
    exact sw_13_any w
  by_cases h14 : op = 14
  · subst h14
    rw [show swV 14 = 14 from rfl, show swE 14 = 0 from rfl]
    exact sw_14_any w
  by_cases h15 : op = 15
  · subst h15
    rw [show swV 15 = 17 from rfl, show swE 15 = 0 from rfl]
    exact sw_15_any w
  by_cases h16 : op = 16
  · subst h16
    rw [show swV 16 = 18 from rfl, show swE 16 = 0 from rfl]
    exact sw_16_any w
  by_cases h17 : op = 17
  · subst h17
    rw [show swV 17 = 15 from rfl, show swE 17 = 0 from rfl]
    exact sw_17_any w
  by_cases h18 : op = 18
  · subst h18
    rw [show swV 18 = 16 from rfl, show swE 18 = 0 from rfl]
    exact sw_18_any w
  by_cases h19 : op = 19
  · subst h19
    rw [show swV 19 = 21 from rfl, show swE 19 = 0 from rfl]
    exact sw_19_any w
  by_cases h20 : op = 20
  · subst h20
    rw [show swV 20 = 22 from rfl, show swE 20 = 0 from rfl]
    exact sw_20_any w
  by_cases h21 : op = 21
  · subst h21
    rw [show swV 21 = 19 from rfl, show swE 21 = 0 from rfl]
    exact sw_21_any w
  by_cases h22 : op = 22
  · subst h22
    rw [show swV 22 = 20 from rfl, show swE 22 = 0 from rfl]
    exact sw_22_any w
  by_cases h23 : op = 23
  · subst h23
    rw [show swV 23 = 23 from rfl, show swE 23 = 0 from rfl]
    exact sw_23_any w
  by_cases h24 : op = 24
  · subst h24
    rw [show swV 24 = 24 from rfl, show swE 24 = 0 from rfl]
    exact sw_24_any w
  by_cases h25 : op = 25
  · subst h25
    rw [show swV 25 = 27 from rfl, show swE 25 = 0 from rfl]
    exact sw_25_any w
  by_cases h26 : op = 26
  · subst h26
    rw [show swV 26 = 28 from rfl, show swE 26 = 0 from rfl]
    exact sw_26_any w
  by_cases h27 : op = 27
  · subst h27
    rw [show swV 27 = 25 from rfl, show swE 27 = 0 from rfl]
    exact sw_27_any w
  by_cases h28 : op = 28
  · subst h28
    rw [show swV 28 = 26 from rfl, show swE 28 = 0 from rfl]
    exact sw_28_any w
  have h0 : swV op = 0 := by unfold swV; simp only [if_neg h13, if_neg h14, if_neg h15, if_neg h16, if_neg h17, if_neg h18, if_neg h19, if_neg h20, if_neg h21, if_neg h22, if_neg h23, if_neg h24, if_neg h25, if_neg h26, if_neg h27, if_neg h28]
  have h1 : swE op = 61 := by unfold swE; rw [if_neg (by omega)]
  rw [h0, h1]
  exact sw_none_any op w (by omega) (by omega) (by omega) (by omega) (by omega) (by omega) (by omega) (by omega) (by omega) (by omega) (by omega) (by omega) (by omega) (by omega) (by omega) (by omega)
def opV (op : Nat) : Nat := if op = 13 then 14 else if op = 14 then 13 else if op = 15 then 18 else if op = 16 then 17 else if op = 17 then 16 else if op = 18 then 15 else if op = 19 then 22 else if op = 20 then 21 else if op = 21 then 20 else if op = 22 then 19 else if op = 23 then 24 else if op = 24 then 23 else if op = 25 then 0 else if op = 26 then 0 else if op = 27 then 0 else if op = 28 then 0 else 0
def opE (op : Nat) : Int := if 13 ≤ op ∧ op ≤ 24 then 0 else if 25 ≤ op ∧ op ≤ 28 then 62 else 61
theorem op_13_any (w : World) : Calls Try.prog 12 #[.int .u8 13] w fun e w' => e = .returned (.tuple #[.int .u8 14, .int .i64 0]) ∧ w' = w := by
  go_enter Try.func12, Try.ntmps12
  go_wp2
  simp [bodyPost, results, Try.results12]
theorem op_14_any (w : World) : Calls Try.prog 12 #[.int .u8 14] w fun e w' => e = .returned (.tuple #[.int .u8 13, .int .i64 0]) ∧ w' = w := by
  go_enter Try.func12, Try.ntmps12
  go_wp2
  simp [bodyPost, results, Try.results12]
theorem op_15_any (w : World) : Calls Try.prog 12 #[.int .u8 15] w fun e w' => e = .returned (.tuple #[.int .u8 18, .int .i64 0]) ∧ w' = w := by
  go_enter Try.func12, Try.ntmps12
  go_wp2
  simp [bodyPost, results, Try.results12]
theorem op_16_any (w : World) : Calls Try.prog 12 #[.int .u8 16] w fun e w' => e = .returned (.tuple #[.int .u8 17, .int .i64 0]) ∧ w' = w := by
  go_enter Try.func12, Try.ntmps12
  go_wp2
  simp [bodyPost, results, Try.results12]
theorem op_17_any (w : World) : Calls Try.prog 12 #[.int .u8 17] w fun e w' => e = .returned (.tuple #[.int .u8 16, .int .i64 0]) ∧ w' = w := by
  go_enter Try.func12, Try.ntmps12
  go_wp2
  simp [bodyPost, results, Try.results12]
theorem op_18_any (w : World) : Calls Try.prog 12 #[.int .u8 18] w fun e w' => e = .returned (.tuple #[.int .u8 15, .int .i64 0]) ∧ w' = w := by
  go_enter Try.func12, Try.ntmps12
  go_wp2
  simp [bodyPost, results, Try.results12]
theorem op_19_any (w : World) : Calls Try.prog 12 #[.int .u8 19] w fun e w' => e = .returned (.tuple #[.int .u8 22, .int .i64 0]) ∧ w' = w := by
  go_enter Try.func12, Try.ntmps12
  go_wp2
  simp [bodyPost, results, Try.results12]
theorem op_20_any (w : World) : Calls Try.prog 12 #[.int .u8 20] w fun e w' => e = .returned (.tuple #[.int .u8 21, .int .i64 0]) ∧ w' = w := by
  go_enter Try.func12, Try.ntmps12
  go_wp2
  simp [bodyPost, results, Try.results12]
theorem op_21_any (w : World) : Calls Try.prog 12 #[.int .u8 21] w fun e w' => e = .returned (.tuple #[.int .u8 20, .int .i64 0]) ∧ w' = w := by
  go_enter Try.func12, Try.ntmps12
  go_wp2
  simp [bodyPost, results, Try.results12]
theorem op_22_any (w : World) : Calls Try.prog 12 #[.int .u8 22] w fun e w' => e = .returned (.tuple #[.int .u8 19, .int .i64 0]) ∧ w' = w := by
  go_enter Try.func12, Try.ntmps12
  go_wp2
  simp [bodyPost, results, Try.results12]
theorem op_23_any (w : World) : Calls Try.prog 12 #[.int .u8 23] w fun e w' => e = .returned (.tuple #[.int .u8 24, .int .i64 0]) ∧ w' = w := by
  go_enter Try.func12, Try.ntmps12
  go_wp2
  simp [bodyPost, results, Try.results12]
theorem op_24_any (w : World) : Calls Try.prog 12 #[.int .u8 24] w fun e w' => e = .returned (.tuple #[.int .u8 23, .int .i64 0]) ∧ w' = w := by
  go_enter Try.func12, Try.ntmps12
  go_wp2
  simp [bodyPost, results, Try.results12]
theorem op_25_any (w : World) : Calls Try.prog 12 #[.int .u8 25] w fun e w' => e = .returned (.tuple #[.int .u8 0, .int .i64 62]) ∧ w' = w := by
  go_enter Try.func12, Try.ntmps12
  go_wp2
  simp [bodyPost, results, Try.results12]
theorem op_26_any (w : World) : Calls Try.prog 12 #[.int .u8 26] w fun e w' => e = .returned (.tuple #[.int .u8 0, .int .i64 62]) ∧ w' = w := by
  go_enter Try.func12, Try.ntmps12
  go_wp2
  simp [bodyPost, results, Try.results12]
theorem op_27_any (w : World) : Calls Try.prog 12 #[.int .u8 27] w fun e w' => e = .returned (.tuple #[.int .u8 0, .int .i64 62]) ∧ w' = w := by
  go_enter Try.func12, Try.ntmps12
  go_wp2
  simp [bodyPost, results, Try.results12]
theorem op_28_any (w : World) : Calls Try.prog 12 #[.int .u8 28] w fun e w' => e = .returned (.tuple #[.int .u8 0, .int .i64 62]) ∧ w' = w := by
  go_enter Try.func12, Try.ntmps12
  go_wp2
  simp [bodyPost, results, Try.results12]
theorem op_none_any (op : Nat) (w : World) (h13 : ¬ (op : Int) = 13) (h14 : ¬ (op : Int) = 14) (h15 : ¬ (op : Int) = 15) (h16 : ¬ (op : Int) = 16) (h17 : ¬ (op : Int) = 17) (h18 : ¬ (op : Int) = 18) (h19 : ¬ (op : Int) = 19) (h20 : ¬ (op : Int) = 20) (h21 : ¬ (op : Int) = 21) (h22 : ¬ (op : Int) = 22) (h23 : ¬ (op : Int) = 23) (h24 : ¬ (op : Int) = 24) (h25 : ¬ (op : Int) = 25) (h26 : ¬ (op : Int) = 26) (h27 : ¬ (op : Int) = 27) (h28 : ¬ (op : Int) = 28) :
    Calls Try.prog 12 #[.int .u8 op] w fun e w' => e = .returned (.tuple #[.int .u8 0, .int .i64 61]) ∧ w' = w := by
  go_enter Try.func12, Try.ntmps12
  go_wp2
  simp [bodyPost, results, Try.results12]
theorem op_any (op : Nat) (w : World) : Calls Try.prog 12 #[.int .u8 op] w fun e w' => e = .returned (.tuple #[.int .u8 (opV op), .int .i64 (opE op)]) ∧ w' = w := by
  by_cases h13 : op = 13
  · subst h13
    rw [show opV 13 = 14 from rfl, show opE 13 = 0 from rfl]
    exact op_13_any w
  by_cases h14 : op = 14
  · subst h14
    rw [show opV 14 = 13 from rfl, show opE 14 = 0 from rfl]
    exact op_14_any w
  by_cases h15 : op = 15
  · subst h15
    rw [show opV 15 = 18 from rfl, show opE 15 = 0 from rfl]
    exact op_15_any w
  by_cases h16 : op = 16
  · subst h16
    rw [show opV 16 = 17 from rfl, show opE 16 = 0 from rfl]
    exact op_16_any w
  by_cases h17 : op = 17
  · subst h17
    rw [show opV 17 = 16 from rfl, show opE 17 = 0 from rfl]
    exact op_17_any w
  by_cases h18 : op = 18
  · subst h18
    rw [show opV 18 = 15 from rfl, show opE 18 = 0 from rfl]
    exact op_18_any w
  by_cases h19 : op = 19
  · subst h19
    rw [show opV 19 = 22 from rfl, show opE 19 = 0 from rfl]
    exact op_19_any w
  by_cases h20 : op = 20
  · subst h20
    rw [show opV 20 = 21 from rfl, show opE 20 = 0 from rfl]
    exact op_20_any w
  by_cases h21 : op = 21
  · subst h21
    rw [show opV 21 = 20 from rfl, show opE 21 = 0 from rfl]
    exact op_21_any w
  by_cases h22 : op = 22
  · subst h22
    rw [show opV 22 = 19 from rfl, show opE 22 = 0 from rfl]
    exact op_22_any w
  by_cases h23 : op = 23
  · subst h23
    rw [show opV 23 = 24 from rfl, show opE 23 = 0 from rfl]
    exact op_23_any w
  by_cases h24 : op = 24
  · subst h24
    rw [show opV 24 = 23 from rfl, show opE 24 = 0 from rfl]
    exact op_24_any w
  by_cases h25 : op = 25
  · subst h25
    rw [show opV 25 = 0 from rfl, show opE 25 = 62 from rfl]
    exact op_25_any w
  by_cases h26 : op = 26
  · subst h26
    rw [show opV 26 = 0 from rfl, show opE 26 = 62 from rfl]
    exact op_26_any w
  by_cases h27 : op = 27
  · subst h27
    rw [show opV 27 = 0 from rfl, show opE 27 = 62 from rfl]
    exact op_27_any w
  by_cases h28 : op = 28
  · subst h28
    rw [show opV 28 = 0 from rfl, show opE 28 = 62 from rfl]
    exact op_28_any w
  have h0 : opV op = 0 := by unfold opV; simp only [if_neg h13, if_neg h14, if_neg h15, if_neg h16, if_neg h17, if_neg h18, if_neg h19, if_neg h20, if_neg h21, if_neg h22, if_neg h23, if_neg h24, if_neg h25, if_neg h26, if_neg h27, if_neg h28]
  have h1 : opE op = 61 := by unfold opE; rw [if_neg (by omega), if_neg (by omega)]
  rw [h0, h1]
  exact op_none_any op w (by omega) (by omega) (by omega) (by omega) (by omega) (by omega) (by omega) (by omega) (by omega) (by omega) (by omega) (by omega) (by omega) (by omega) (by omega) (by omega)
end Go.Proofs.Ytigiecodobgenaa
