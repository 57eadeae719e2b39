import Derived.Test.YtgbpfejodpplbaaGreatDoorCSFin
namespace Go.Proofs.YtgbpfejodpplbaaGreatDoor
open Go.RowKit
set_option maxRecDepth 100000
/-- a word read with its sign -/
def sx (a : Nat) : Int := if a < 2147483648 then a else (a : Int) - 4294967296
theorem wrap32_sx {a : Nat} (h : a < 4294967296) : wrap32 (a : Int) = sx a := by unfold wrap32 sx; split <;> omega
theorem sx_zero {a : Nat} (h : a < 4294967296) : sx a = 0 ↔ a = 0 := by unfold sx; split <;> omega
theorem wrap32_mod (z : Int) : wrap32 z % 4294967296 = z % 4294967296 := by unfold wrap32; omega
theorem divu_le {a b : Nat} (h : a < 4294967296) : (a : Int) / (b : Int) % 4294967296 = (a : Int) / (b : Int) := by
  have := Nat.div_le_self a b
  have e : (a : Int) / (b : Int) = ((a / b : Nat) : Int) := rfl
  rw [e]
  generalize a / b = c at *
  omega
theorem shift_any (b : Nat) (w : World) : Calls Tryz.prog 116 #[.int .u32 b] w fun e w' => e = .returned (.int .u32 (b % 32 : Nat)) ∧ w' = w := by
  go_enter Tryz.func116, Tryz.ntmps116
  go_wp2
  go_ret
  exact ⟨rfl, rfl⟩
theorem b_divi_any (a b : Nat) (w : World) (ha : a < 4294967296) (hb : b < 4294967296) (hz : b ≠ 0) :
    Calls Tryz.prog 107 #[.int .u8 42, .int .u32 a, .int .u32 b] w fun e w' => e = .returned (.tuple #[.int .u32 ((sx a).tdiv (sx b) % 4294967296), .int .i64 0]) ∧ Below w.heap.size w w' := by
  have ea := wrap32_sx ha
  have eb := wrap32_sx hb
  have ez : ¬ wrap32 (b : Int) = 0 := by rw [eb, sx_zero hb]; exact hz
  rw [← ea, ← eb]
  clear ea eb
  have hmf : ∀ (fn : Fn) (first cap : Array Value) (w : World), (Instr.makeFunc fn first cap).run Tryz.prog w = .ok (.func fn first cap) w := fun _ _ _ _ => rfl
  go_enter_defers Tryz.func107, Tryz.ntmps107
  go_wp2
  refine leaves_cons (f := 115) (args := #[.pointer (some ⟨w.heap.size, 0, none⟩), .pointer (some ⟨w.heap.size + 1, 0, none⟩)]) (by simp) (by simp [go_sem]) ?_
  refine (catch_idle ⟨w.heap.size, 0, none⟩ ⟨w.heap.size + 1, 0, none⟩ _).mono ?_
  rintro e u' w'' ⟨rfl, rfl, rfl⟩
  simp [Leaves, settle, results, Tryz.results107, go_sem, below_two]
  exact wrap32_mod _
theorem b_divu_any (a b : Nat) (w : World) (ha : a < 4294967296) (hz : b ≠ 0) :
    Calls Tryz.prog 107 #[.int .u8 43, .int .u32 a, .int .u32 b] w fun e w' => e = .returned (.tuple #[.int .u32 (a / b : Nat), .int .i64 0]) ∧ Below w.heap.size w w' := by
  have hmf : ∀ (fn : Fn) (first cap : Array Value) (w : World), (Instr.makeFunc fn first cap).run Tryz.prog w = .ok (.func fn first cap) w := fun _ _ _ _ => rfl
  go_enter_defers Tryz.func107, Tryz.ntmps107
  go_wp2
  refine leaves_cons (f := 115) (args := #[.pointer (some ⟨w.heap.size, 0, none⟩), .pointer (some ⟨w.heap.size + 1, 0, none⟩)]) (by simp) (by simp [go_sem]) ?_
  refine (catch_idle ⟨w.heap.size, 0, none⟩ ⟨w.heap.size + 1, 0, none⟩ _).mono ?_
  rintro e u' w'' ⟨rfl, rfl, rfl⟩
  simp [Leaves, settle, results, Tryz.results107, go_sem, below_two]
  exact divu_le ha
theorem b_modi_any (a b : Nat) (w : World) (ha : a < 4294967296) (hb : b < 4294967296) (hz : b ≠ 0) :
    Calls Tryz.prog 107 #[.int .u8 44, .int .u32 a, .int .u32 b] w fun e w' => e = .returned (.tuple #[.int .u32 ((sx a).tmod (sx b) % 4294967296), .int .i64 0]) ∧ Below w.heap.size w w' := by
  have ea := wrap32_sx ha
  have eb := wrap32_sx hb
  have ez : ¬ wrap32 (b : Int) = 0 := by rw [eb, sx_zero hb]; exact hz
  rw [← ea, ← eb]
  clear ea eb
  have hmf : ∀ (fn : Fn) (first cap : Array Value) (w : World), (Instr.makeFunc fn first cap).run Tryz.prog w = .ok (.func fn first cap) w := fun _ _ _ _ => rfl
  go_enter_defers Tryz.func107, Tryz.ntmps107
  go_wp2
  refine leaves_cons (f := 115) (args := #[.pointer (some ⟨w.heap.size, 0, none⟩), .pointer (some ⟨w.heap.size + 1, 0, none⟩)]) (by simp) (by simp [go_sem]) ?_
  refine (catch_idle ⟨w.heap.size, 0, none⟩ ⟨w.heap.size + 1, 0, none⟩ _).mono ?_
  rintro e u' w'' ⟨rfl, rfl, rfl⟩
  simp [Leaves, settle, results, Tryz.results107, go_sem, below_two]
theorem b_modu_any (a b : Nat) (w : World) (hz : b ≠ 0) :
    Calls Tryz.prog 107 #[.int .u8 45, .int .u32 a, .int .u32 b] w fun e w' => e = .returned (.tuple #[.int .u32 (a % b : Nat), .int .i64 0]) ∧ Below w.heap.size w w' := by
  have hmf : ∀ (fn : Fn) (first cap : Array Value) (w : World), (Instr.makeFunc fn first cap).run Tryz.prog w = .ok (.func fn first cap) w := fun _ _ _ _ => rfl
  go_enter_defers Tryz.func107, Tryz.ntmps107
  go_wp2
  refine leaves_cons (f := 115) (args := #[.pointer (some ⟨w.heap.size, 0, none⟩), .pointer (some ⟨w.heap.size + 1, 0, none⟩)]) (by simp) (by simp [go_sem]) ?_
  refine (catch_idle ⟨w.heap.size, 0, none⟩ ⟨w.heap.size + 1, 0, none⟩ _).mono ?_
  rintro e u' w'' ⟨rfl, rfl, rfl⟩
  simp [Leaves, settle, results, Tryz.results107, go_sem, below_two]
theorem b_divi0_any (a : Nat) (w : World) :
    Calls Tryz.prog 107 #[.int .u8 42, .int .u32 a, .int .u32 0] w fun e w' => e = .returned (.tuple #[.int .u32 0, .int .i64 60]) ∧ Below w.heap.size w w' := by
  have hmf : ∀ (fn : Fn) (first cap : Array Value) (w : World), (Instr.makeFunc fn first cap).run Tryz.prog w = .ok (.func fn first cap) w := fun _ _ _ _ => rfl
  go_enter_defers Tryz.func107, Tryz.ntmps107
  go_wp2
  refine leaves_cons (f := 115) (args := #[.pointer (some ⟨w.heap.size, 0, none⟩), .pointer (some ⟨w.heap.size + 1, 0, none⟩)]) (by simp) (by simp [go_sem]) ?_
  refine (catch_panicking ⟨w.heap.size, 0, none⟩ ⟨w.heap.size + 1, 0, none⟩ 0 0 10 _ [] _ ?_ ?_ ?_ ?_).mono ?_
  · simp [go_sem]
  · simp [go_sem]
  · simp [go_sem]
  · simp [go_sem]
  rintro e u' w'' ⟨rfl, rfl, rfl⟩
  simp [Leaves, settle, results, Tryz.results107, go_sem, below_two]
theorem b_divu0_any (a : Nat) (w : World) :
    Calls Tryz.prog 107 #[.int .u8 43, .int .u32 a, .int .u32 0] w fun e w' => e = .returned (.tuple #[.int .u32 0, .int .i64 60]) ∧ Below w.heap.size w w' := by
  have hmf : ∀ (fn : Fn) (first cap : Array Value) (w : World), (Instr.makeFunc fn first cap).run Tryz.prog w = .ok (.func fn first cap) w := fun _ _ _ _ => rfl
  go_enter_defers Tryz.func107, Tryz.ntmps107
  go_wp2
  refine leaves_cons (f := 115) (args := #[.pointer (some ⟨w.heap.size, 0, none⟩), .pointer (some ⟨w.heap.size + 1, 0, none⟩)]) (by simp) (by simp [go_sem]) ?_
  refine (catch_panicking ⟨w.heap.size, 0, none⟩ ⟨w.heap.size + 1, 0, none⟩ 0 0 10 _ [] _ ?_ ?_ ?_ ?_).mono ?_
  · simp [go_sem]
  · simp [go_sem]
  · simp [go_sem]
  · simp [go_sem]
  rintro e u' w'' ⟨rfl, rfl, rfl⟩
  simp [Leaves, settle, results, Tryz.results107, go_sem, below_two]
theorem b_modi0_any (a : Nat) (w : World) :
    Calls Tryz.prog 107 #[.int .u8 44, .int .u32 a, .int .u32 0] w fun e w' => e = .returned (.tuple #[.int .u32 0, .int .i64 60]) ∧ Below w.heap.size w w' := by
  have hmf : ∀ (fn : Fn) (first cap : Array Value) (w : World), (Instr.makeFunc fn first cap).run Tryz.prog w = .ok (.func fn first cap) w := fun _ _ _ _ => rfl
  go_enter_defers Tryz.func107, Tryz.ntmps107
  go_wp2
  refine leaves_cons (f := 115) (args := #[.pointer (some ⟨w.heap.size, 0, none⟩), .pointer (some ⟨w.heap.size + 1, 0, none⟩)]) (by simp) (by simp [go_sem]) ?_
  refine (catch_panicking ⟨w.heap.size, 0, none⟩ ⟨w.heap.size + 1, 0, none⟩ 0 0 10 _ [] _ ?_ ?_ ?_ ?_).mono ?_
  · simp [go_sem]
  · simp [go_sem]
  · simp [go_sem]
  · simp [go_sem]
  rintro e u' w'' ⟨rfl, rfl, rfl⟩
  simp [Leaves, settle, results, Tryz.results107, go_sem, below_two]
theorem b_modu0_any (a : Nat) (w : World) :
    Calls Tryz.prog 107 #[.int .u8 45, .int .u32 a, .int .u32 0] w fun e w' => e = .returned (.tuple #[.int .u32 0, .int .i64 60]) ∧ Below w.heap.size w w' := by
  have hmf : ∀ (fn : Fn) (first cap : Array Value) (w : World), (Instr.makeFunc fn first cap).run Tryz.prog w = .ok (.func fn first cap) w := fun _ _ _ _ => rfl
  go_enter_defers Tryz.func107, Tryz.ntmps107
  go_wp2
  refine leaves_cons (f := 115) (args := #[.pointer (some ⟨w.heap.size, 0, none⟩), .pointer (some ⟨w.heap.size + 1, 0, none⟩)]) (by simp) (by simp [go_sem]) ?_
  refine (catch_panicking ⟨w.heap.size, 0, none⟩ ⟨w.heap.size + 1, 0, none⟩ 0 0 10 _ [] _ ?_ ?_ ?_ ?_).mono ?_
  · simp [go_sem]
  · simp [go_sem]
  · simp [go_sem]
  · simp [go_sem]
  rintro e u' w'' ⟨rfl, rfl, rfl⟩
  simp [Leaves, settle, results, Tryz.results107, go_sem, below_two]
set_option maxRecDepth 100000 in
set_option maxHeartbeats 40000000 in
theorem bA :
    (∀ (a b : Nat) (w : World), Calls Tryz.prog 107 #[.int .u8 39, .int .u32 a, .int .u32 b] w fun e w' => e = .returned (.tuple #[.int .u32 ((a + b) % 4294967296 : Nat), .int .i64 0]) ∧ Below w.heap.size w w') ∧
    (∀ (a b : Nat) (w : World), (a < 4294967296) → (b < 4294967296) → Calls Tryz.prog 107 #[.int .u8 40, .int .u32 a, .int .u32 b] w fun e w' => e = .returned (.tuple #[.int .u32 ((a + 4294967296 - b) % 4294967296 : Nat), .int .i64 0]) ∧ Below w.heap.size w w') ∧
    (∀ (a b : Nat) (w : World), Calls Tryz.prog 107 #[.int .u8 41, .int .u32 a, .int .u32 b] w fun e w' => e = .returned (.tuple #[.int .u32 ((a * b) % 4294967296 : Nat), .int .i64 0]) ∧ Below w.heap.size w w') ∧
    (∀ (a b : Nat) (w : World), (a < 4294967296) → (b < 4294967296) → Calls Tryz.prog 107 #[.int .u8 46, .int .u32 a, .int .u32 b] w fun e w' => e = .returned (.tuple #[.int .u32 (a &&& b : Nat), .int .i64 0]) ∧ Below w.heap.size w w') ∧
    (∀ (a b : Nat) (w : World), (a < 4294967296) → (b < 4294967296) → Calls Tryz.prog 107 #[.int .u8 47, .int .u32 a, .int .u32 b] w fun e w' => e = .returned (.tuple #[.int .u32 (a ||| b : Nat), .int .i64 0]) ∧ Below w.heap.size w w') ∧
    (∀ (a b : Nat) (w : World), (a < 4294967296) → (b < 4294967296) → Calls Tryz.prog 107 #[.int .u8 48, .int .u32 a, .int .u32 b] w fun e w' => e = .returned (.tuple #[.int .u32 (a ^^^ b : Nat), .int .i64 0]) ∧ Below w.heap.size w w') ∧
    (∀ (a b : Nat) (w : World), Calls Tryz.prog 107 #[.int .u8 50, .int .u32 a, .int .u32 b] w fun e w' => e = .returned (.tuple #[.int .u32 (a * 2 ^ (b % 32) % 4294967296 : Nat), .int .i64 0]) ∧ Below w.heap.size w w') ∧
    (∀ (a b : Nat) (w : World), (a < 4294967296) → Calls Tryz.prog 107 #[.int .u8 51, .int .u32 a, .int .u32 b] w fun e w' => e = .returned (.tuple #[.int .u32 ((sx a) / 2 ^ (b % 32) % 4294967296), .int .i64 0]) ∧ Below w.heap.size w w') ∧
    (∀ (a b : Nat) (w : World), Calls Tryz.prog 107 #[.int .u8 52, .int .u32 a, .int .u32 b] w fun e w' => e = .returned (.tuple #[.int .u32 (a / 2 ^ (b % 32) : Nat), .int .i64 0]) ∧ Below w.heap.size w w') ∧
    (∀ (a b : Nat) (w : World), Calls Tryz.prog 107 #[.int .u8 54, .int .u32 a, .int .u32 b] w fun e w' => e = .returned (.tuple #[.int .u32 (fsum a b : Nat), .int .i64 0]) ∧ Below w.heap.size w w') ∧
    (∀ (a b : Nat) (w : World), (b < 4294967296) → Calls Tryz.prog 107 #[.int .u8 55, .int .u32 a, .int .u32 b] w fun e w' => e = .returned (.tuple #[.int .u32 (fsum a (tn b) : Nat), .int .i64 0]) ∧ Below w.heap.size w w') ∧
    (∀ (a b : Nat) (w : World), Calls Tryz.prog 107 #[.int .u8 56, .int .u32 a, .int .u32 b] w fun e w' => e = .returned (.tuple #[.int .u32 (fmul a b : Nat), .int .i64 0]) ∧ Below w.heap.size w w') ∧
    (∀ (a b : Nat) (w : World), Calls Tryz.prog 107 #[.int .u8 57, .int .u32 a, .int .u32 b] w fun e w' => e = .returned (.tuple #[.int .u32 (fdiv a b : Nat), .int .i64 0]) ∧ Below w.heap.size w w') := by
  refine ⟨?_, ?_, ?_, ?_, ?_, ?_, ?_, ?_, ?_, ?_, ?_, ?_, ?_⟩
  intro a b w
  rotate_left
  intro a b w ha hb
  rotate_left
  intro a b w
  rotate_left
  intro a b w ha hb
  rotate_left
  intro a b w ha hb
  rotate_left
  intro a b w ha hb
  rotate_left
  intro a b w
  rotate_left
  intro a b w ha
  rotate_left
  intro a b w
  rotate_left
  intro a b w
  rotate_left
  intro a b w hb
  rotate_left
  intro a b w
  rotate_left
  intro a b w
  rotate_left
  all_goals (have hmf : ∀ (fn : Fn) (first cap : Array Value) (w : World), (Instr.makeFunc fn first cap).run Tryz.prog w = .ok (.func fn first cap) w := fun _ _ _ _ => rfl)
  all_goals (go_enter_defers Tryz.func107, Tryz.ntmps107)
  focus
    go_wp2
  rotate_left
  focus
    go_wp2
  rotate_left
  focus
    go_wp2
  rotate_left
  focus
    go_wp2
  rotate_left
  focus
    go_wp2
  rotate_left
  focus
    go_wp2
  rotate_left
  focus
    go_wp2_with (go_at_call 116; refine (shift_any _ _).mono ?_; rintro e wq ⟨rfl, hq⟩; subst wq)
  rotate_left
  focus
    go_wp2_with (go_at_call 116; refine (shift_any _ _).mono ?_; rintro e wq ⟨rfl, hq⟩; subst wq)
  rotate_left
  focus
    go_wp2_with (go_at_call 116; refine (shift_any _ _).mono ?_; rintro e wq ⟨rfl, hq⟩; subst wq)
  rotate_left
  focus
    go_wp2_with (go_at_call 117; refine (sum_any _ _ _).mono ?_; rintro e wq ⟨rfl, m, hq⟩; subst wq)
  rotate_left
  focus
    go_wp2_with (go_at_call 118; refine (rest_any _ _ _ hb).mono ?_; rintro e wq ⟨rfl, m, hq⟩; subst wq)
  rotate_left
  focus
    go_wp2_with (go_at_call 119; refine (prod_any _ _ _).mono ?_; rintro e wq ⟨rfl, m, hq⟩; subst wq)
  rotate_left
  focus
    go_wp2_with (go_at_call 120; refine (ratio_any _ _ _).mono ?_; rintro e wq ⟨rfl, m, hq⟩; subst wq)
  rotate_left
  all_goals (refine leaves_cons (f := 115) (args := #[.pointer (some ⟨w.heap.size, 0, none⟩), .pointer (some ⟨w.heap.size + 1, 0, none⟩)]) (by simp) (by simp [go_sem]) ?_)
  all_goals (refine (catch_idle ⟨w.heap.size, 0, none⟩ ⟨w.heap.size + 1, 0, none⟩ _).mono ?_)
  all_goals (rintro e u' w'' ⟨rfl, rfl, rfl⟩)
  simp [Leaves, settle, results, Tryz.results107, go_sem, below_two]
  simp [Leaves, settle, results, Tryz.results107, go_sem, below_two]
  omega
  simp [Leaves, settle, results, Tryz.results107, go_sem, below_two]
  simp [Leaves, settle, results, Tryz.results107, go_sem, below_two]
  exact u32_and_nat a b ha hb
  simp [Leaves, settle, results, Tryz.results107, go_sem, below_two]
  exact u32_or_nat a b ha hb
  simp [Leaves, settle, results, Tryz.results107, go_sem, below_two]
  exact u32_xor_nat a b ha hb
  simp [Leaves, settle, results, Tryz.results107, go_sem, below_two]
  simp [Leaves, settle, results, Tryz.results107, go_sem, below_two]
  rw [wrap32_sx ha]
  simp [Leaves, settle, results, Tryz.results107, go_sem, below_two]
  simp [Leaves, settle, results, Tryz.results107, go_sem]
  exact below_set _ _ _ _ _ _
  simp [Leaves, settle, results, Tryz.results107, go_sem]
  exact below_set _ _ _ _ _ _
  simp [Leaves, settle, results, Tryz.results107, go_sem]
  exact below_set _ _ _ _ _ _
  simp [Leaves, settle, results, Tryz.results107, go_sem]
  exact below_set _ _ _ _ _ _
abbrev b_add_any := bA.1
abbrev b_sub_any := bA.2.1
abbrev b_mul_any := bA.2.2.1
abbrev b_and_any := bA.2.2.2.1
abbrev b_or_any := bA.2.2.2.2.1
abbrev b_xor_any := bA.2.2.2.2.2.1
abbrev b_shl_any := bA.2.2.2.2.2.2.1
abbrev b_shri_any := bA.2.2.2.2.2.2.2.1
abbrev b_shru_any := bA.2.2.2.2.2.2.2.2.1
abbrev b_addf_any := bA.2.2.2.2.2.2.2.2.2.1
abbrev b_subf_any := bA.2.2.2.2.2.2.2.2.2.2.1
abbrev b_mulf_any := bA.2.2.2.2.2.2.2.2.2.2.2.1
abbrev b_divf_any := bA.2.2.2.2.2.2.2.2.2.2.2.2
theorem sx_range {a : Nat} (h : a < 4294967296) : -2147483648 ≤ sx a ∧ sx a ≤ 2147483647 := by unfold sx; split <;> omega
theorem b_none_any (op a b : Nat) (w : World) (h39 : ¬ (op : Int) = 39) (h40 : ¬ (op : Int) = 40) (h41 : ¬ (op : Int) = 41) (h42 : ¬ (op : Int) = 42) (h43 : ¬ (op : Int) = 43) (h44 : ¬ (op : Int) = 44) (h45 : ¬ (op : Int) = 45) (h46 : ¬ (op : Int) = 46) (h47 : ¬ (op : Int) = 47) (h48 : ¬ (op : Int) = 48) (h50 : ¬ (op : Int) = 50) (h51 : ¬ (op : Int) = 51) (h52 : ¬ (op : Int) = 52) (h54 : ¬ (op : Int) = 54) (h55 : ¬ (op : Int) = 55) (h56 : ¬ (op : Int) = 56) (h57 : ¬ (op : Int) = 57) :
    Calls Tryz.prog 107 #[.int .u8 op, .int .u32 a, .int .u32 b] w fun e w' => e = .returned (.tuple #[.int .u32 0, .int .i64 61]) ∧ Below w.heap.size w w' := by
  have hmf : ∀ (fn : Fn) (first cap : Array Value) (w : World), (Instr.makeFunc fn first cap).run Tryz.prog w = .ok (.func fn first cap) w := fun _ _ _ _ => rfl
  go_enter_defers Tryz.func107, Tryz.ntmps107
  go_wp2
  refine leaves_cons (f := 115) (args := #[.pointer (some ⟨w.heap.size, 0, none⟩), .pointer (some ⟨w.heap.size + 1, 0, none⟩)]) (by simp) (by simp [go_sem]) ?_
  refine (catch_idle ⟨w.heap.size, 0, none⟩ ⟨w.heap.size + 1, 0, none⟩ _).mono ?_
  rintro e u' w'' ⟨rfl, rfl, rfl⟩
  simp [Leaves, settle, results, Tryz.results107, go_sem, below_two]
end Go.Proofs.YtgbpfejodpplbaaGreatDoor
