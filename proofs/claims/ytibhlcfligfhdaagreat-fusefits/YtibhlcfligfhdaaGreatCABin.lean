import Derived.Test.YtibhlcfligfhdaaGreatCPKp
namespace Go.Proofs.YtibhlcfligfhdaaGreat
open Go.RowKit
set_option maxRecDepth 100000
def sx (a : Nat) : Int := if a < 2147483648 then a else (a : Int) - 4294967296
theorem wrap32_sx {a : Nat} (h : a < 4294967296) : wrap32 (a : Int) = sx a := by unfold wrap32 sx; split <;> omega
theorem sx_zero {a : Nat} (h : a < 4294967296) : sx a = 0 ↔ a = 0 := by unfold sx; split <;> omega
theorem wrap32_mod (z : Int) : wrap32 z % 4294967296 = z % 4294967296 := by unfold wrap32; omega
theorem divu_le {a b : Nat} (h : a < 4294967296) : (a : Int) / (b : Int) % 4294967296 = (a : Int) / (b : Int) := by
 have := Nat.div_le_self a b
 have e : (a : Int) / (b : Int) = ((a / b : Nat) : Int) := rfl
 rw [e]
 generalize a / b = c at *
 omega
theorem shift_any (b : Nat) (w : World) : Calls Tryz.prog 123 #[.int .u32 b] w fun e w' => e = .returned (.int .u32 (b % 32 : Nat)) ∧ w' = w := by
 go_enter Tryz.func123, Tryz.ntmps123
 go_wp2
 go_ret
 exact ⟨rfl, rfl⟩
theorem b_divi_any (a b : Nat) (w : World) (ha : a < 4294967296) (hb : b < 4294967296) (hz : b ≠ 0) :
   Calls Tryz.prog 103 #[.int .u8 42, .int .u32 a, .int .u32 b] w fun e w' => e = .returned (.tuple #[.int .u32 ((sx a).tdiv (sx b) % 4294967296), .int .i64 0]) ∧ Below w.heap.size w w' := by
 have ea := wrap32_sx ha
 have eb := wrap32_sx hb
 have ez : ¬ wrap32 (b : Int) = 0 := by rw [eb, sx_zero hb]; exact hz
 rw [← ea, ← eb]
 clear ea eb
 have hmf : ∀ (fn : Fn) (first cap : Array Value) (w : World), (Instr.makeFunc fn first cap).run Tryz.prog w = .ok (.func fn first cap) w := fun _ _ _ _ => rfl
 go_enter_defers Tryz.func103, Tryz.ntmps103
 go_wp2
 refine leaves_cons (f := 122) (args := #[.pointer (some ⟨w.heap.size, 0, none⟩), .pointer (some ⟨w.heap.size + 1, 0, none⟩)]) (by simp) (by simp [go_sem]) ?_
 refine (catch_idle ⟨w.heap.size, 0, none⟩ ⟨w.heap.size + 1, 0, none⟩ _).mono ?_
 rintro e u' w'' ⟨rfl, rfl, rfl⟩
 simp [Leaves, settle, results, Tryz.results103, go_sem, below_two]
 exact wrap32_mod _
theorem b_divu_any (a b : Nat) (w : World) (ha : a < 4294967296) (hz : b ≠ 0) :
   Calls Tryz.prog 103 #[.int .u8 43, .int .u32 a, .int .u32 b] w fun e w' => e = .returned (.tuple #[.int .u32 (a / b : Nat), .int .i64 0]) ∧ Below w.heap.size w w' := by
 have hmf : ∀ (fn : Fn) (first cap : Array Value) (w : World), (Instr.makeFunc fn first cap).run Tryz.prog w = .ok (.func fn first cap) w := fun _ _ _ _ => rfl
 go_enter_defers Tryz.func103, Tryz.ntmps103
 go_wp2
 refine leaves_cons (f := 122) (args := #[.pointer (some ⟨w.heap.size, 0, none⟩), .pointer (some ⟨w.heap.size + 1, 0, none⟩)]) (by simp) (by simp [go_sem]) ?_
 refine (catch_idle ⟨w.heap.size, 0, none⟩ ⟨w.heap.size + 1, 0, none⟩ _).mono ?_
 rintro e u' w'' ⟨rfl, rfl, rfl⟩
 simp [Leaves, settle, results, Tryz.results103, go_sem, below_two]
 exact divu_le ha
theorem b_modi_any (a b : Nat) (w : World) (ha : a < 4294967296) (hb : b < 4294967296) (hz : b ≠ 0) :
   Calls Tryz.prog 103 #[.int .u8 44, .int .u32 a, .int .u32 b] w fun e w' => e = .returned (.tuple #[.int .u32 ((sx a).tmod (sx b) % 4294967296), .int .i64 0]) ∧ Below w.heap.size w w' := by
 have ea := wrap32_sx ha
 have eb := wrap32_sx hb
 have ez : ¬ wrap32 (b : Int) = 0 := by rw [eb, sx_zero hb]; exact hz
 rw [← ea, ← eb]
 clear ea eb
 have hmf : ∀ (fn : Fn) (first cap : Array Value) (w : World), (Instr.makeFunc fn first cap).run Tryz.prog w = .ok (.func fn first cap) w := fun _ _ _ _ => rfl
 go_enter_defers Tryz.func103, Tryz.ntmps103
 go_wp2
 refine leaves_cons (f := 122) (args := #[.pointer (some ⟨w.heap.size, 0, none⟩), .pointer (some ⟨w.heap.size + 1, 0, none⟩)]) (by simp) (by simp [go_sem]) ?_
 refine (catch_idle ⟨w.heap.size, 0, none⟩ ⟨w.heap.size + 1, 0, none⟩ _).mono ?_
 rintro e u' w'' ⟨rfl, rfl, rfl⟩
 simp [Leaves, settle, results, Tryz.results103, go_sem, below_two]
theorem b_modu_any (a b : Nat) (w : World) (hz : b ≠ 0) :
   Calls Tryz.prog 103 #[.int .u8 45, .int .u32 a, .int .u32 b] w fun e w' => e = .returned (.tuple #[.int .u32 (a % b : Nat), .int .i64 0]) ∧ Below w.heap.size w w' := by
 have hmf : ∀ (fn : Fn) (first cap : Array Value) (w : World), (Instr.makeFunc fn first cap).run Tryz.prog w = .ok (.func fn first cap) w := fun _ _ _ _ => rfl
 go_enter_defers Tryz.func103, Tryz.ntmps103
 go_wp2
 refine leaves_cons (f := 122) (args := #[.pointer (some ⟨w.heap.size, 0, none⟩), .pointer (some ⟨w.heap.size + 1, 0, none⟩)]) (by simp) (by simp [go_sem]) ?_
 refine (catch_idle ⟨w.heap.size, 0, none⟩ ⟨w.heap.size + 1, 0, none⟩ _).mono ?_
 rintro e u' w'' ⟨rfl, rfl, rfl⟩
 simp [Leaves, settle, results, Tryz.results103, go_sem, below_two]
theorem b_divi0_any (a : Nat) (w : World) :
   Calls Tryz.prog 103 #[.int .u8 42, .int .u32 a, .int .u32 0] w fun e w' => e = .returned (.tuple #[.int .u32 0, .int .i64 60]) ∧ Below w.heap.size w w' := by
 have hmf : ∀ (fn : Fn) (first cap : Array Value) (w : World), (Instr.makeFunc fn first cap).run Tryz.prog w = .ok (.func fn first cap) w := fun _ _ _ _ => rfl
 go_enter_defers Tryz.func103, Tryz.ntmps103
 go_wp2
 refine leaves_cons (f := 122) (args := #[.pointer (some ⟨w.heap.size, 0, none⟩), .pointer (some ⟨w.heap.size + 1, 0, none⟩)]) (by simp) (by simp [go_sem]) ?_
 refine (catch_panicking ⟨w.heap.size, 0, none⟩ ⟨w.heap.size + 1, 0, none⟩ 0 0 10 _ [] _ ?_ ?_ ?_ ?_).mono ?_
 · simp [go_sem]
 · simp [go_sem]
 · simp [go_sem]
 · simp [go_sem]
 rintro e u' w'' ⟨rfl, rfl, rfl⟩
 simp [Leaves, settle, results, Tryz.results103, go_sem, below_two]
theorem b_divu0_any (a : Nat) (w : World) :
   Calls Tryz.prog 103 #[.int .u8 43, .int .u32 a, .int .u32 0] w fun e w' => e = .returned (.tuple #[.int .u32 0, .int .i64 60]) ∧ Below w.heap.size w w' := by
 have hmf : ∀ (fn : Fn) (first cap : Array Value) (w : World), (Instr.makeFunc fn first cap).run Tryz.prog w = .ok (.func fn first cap) w := fun _ _ _ _ => rfl
 go_enter_defers Tryz.func103, Tryz.ntmps103
 go_wp2
 refine leaves_cons (f := 122) (args := #[.pointer (some ⟨w.heap.size, 0, none⟩), .pointer (some ⟨w.heap.size + 1, 0, none⟩)]) (by simp) (by simp [go_sem]) ?_
 refine (catch_panicking ⟨w.heap.size, 0, none⟩ ⟨w.heap.size + 1, 0, none⟩ 0 0 10 _ [] _ ?_ ?_ ?_ ?_).mono ?_
 · simp [go_sem]
 · simp [go_sem]
 · simp [go_sem]
 · simp [go_sem]
 rintro e u' w'' ⟨rfl, rfl, rfl⟩
 simp [Leaves, settle, results, Tryz.results103, go_sem, below_two]
theorem b_modi0_any (a : Nat) (w : World) :
   Calls Tryz.prog 103 #[.int .u8 44, .int .u32 a, .int .u32 0] w fun e w' => e = .returned (.tuple #[.int .u32 0, .int .i64 60]) ∧ Below w.heap.size w w' := by
 have hmf : ∀ (fn : Fn) (first cap : Array Value) (w : World), (Instr.makeFunc fn first cap).run Tryz.prog w = .ok (.func fn first cap) w := fun _ _ _ _ => rfl
 go_enter_defers Tryz.func103, Tryz.ntmps103
 go_wp2
 refine leaves_cons (f := 122) (args := #[.pointer (some ⟨w.heap.size, 0, none⟩), .pointer (some ⟨w.heap.size + 1, 0, none⟩)]) (by simp) (by simp [go_sem]) ?_
 refine (catch_panicking ⟨w.heap.size, 0, none⟩ ⟨w.heap.size + 1, 0, none⟩ 0 0 10 _ [] _ ?_ ?_ ?_ ?_).mono ?_
 · simp [go_sem]
 · simp [go_sem]
 · simp [go_sem]
 · simp [go_sem]
 rintro e u' w'' ⟨rfl, rfl, rfl⟩
 simp [Leaves, settle, results, Tryz.results103, go_sem, below_two]
theorem b_modu0_any (a : Nat) (w : World) :
   Calls Tryz.prog 103 #[.int .u8 45, .int .u32 a, .int .u32 0] w fun e w' => e = .returned (.tuple #[.int .u32 0, .int .i64 60]) ∧ Below w.heap.size w w' := by
 have hmf : ∀ (fn : Fn) (first cap : Array Value) (w : World), (Instr.makeFunc fn first cap).run Tryz.prog w = .ok (.func fn first cap) w := fun _ _ _ _ => rfl
 go_enter_defers Tryz.func103, Tryz.ntmps103
 go_wp2
 refine leaves_cons (f := 122) (args := #[.pointer (some ⟨w.heap.size, 0, none⟩), .pointer (some ⟨w.heap.size + 1, 0, none⟩)]) (by simp) (by simp [go_sem]) ?_
 refine (catch_panicking ⟨w.heap.size, 0, none⟩ ⟨w.heap.size + 1, 0, none⟩ 0 0 10 _ [] _ ?_ ?_ ?_ ?_).mono ?_
 · simp [go_sem]
 · simp [go_sem]
 · simp [go_sem]
 · simp [go_sem]
 rintro e u' w'' ⟨rfl, rfl, rfl⟩
 simp [Leaves, settle, results, Tryz.results103, go_sem, below_two]
set_option maxRecDepth 100000 in
set_option maxHeartbeats 40000000 in
theorem bA :
   (∀ (a b : Nat) (w : World), Calls Tryz.prog 103 #[.int .u8 39, .int .u32 a, .int .u32 b] w fun e w' => e = .returned (.tuple #[.int .u32 ((a + b) % 4294967296 : Nat), .int .i64 0]) ∧ Below w.heap.size w w') ∧
   (∀ (a b : Nat) (w : World), (a < 4294967296) → (b < 4294967296) → Calls Tryz.prog 103 #[.int .u8 40, .int .u32 a, .int .u32 b] w fun e w' => e = .returned (.tuple #[.int .u32 ((a + 4294967296 - b) % 4294967296 : Nat), .int .i64 0]) ∧ Below w.heap.size w w') ∧
   (∀ (a b : Nat) (w : World), Calls Tryz.prog 103 #[.int .u8 41, .int .u32 a, .int .u32 b] w fun e w' => e = .returned (.tuple #[.int .u32 ((a * b) % 4294967296 : Nat), .int .i64 0]) ∧ Below w.heap.size w w') ∧
   (∀ (a b : Nat) (w : World), (a < 4294967296) → (b < 4294967296) → Calls Tryz.prog 103 #[.int .u8 46, .int .u32 a, .int .u32 b] w fun e w' => e = .returned (.tuple #[.int .u32 (a &&& b : Nat), .int .i64 0]) ∧ Below w.heap.size w w') ∧
   (∀ (a b : Nat) (w : World), (a < 4294967296) → (b < 4294967296) → Calls Tryz.prog 103 #[.int .u8 47, .int .u32 a, .int .u32 b] w fun e w' => e = .returned (.tuple #[.int .u32 (a ||| b : Nat), .int .i64 0]) ∧ Below w.heap.size w w') ∧
   (∀ (a b : Nat) (w : World), (a < 4294967296) → (b < 4294967296) → Calls Tryz.prog 103 #[.int .u8 48, .int .u32 a, .int .u32 b] w fun e w' => e = .returned (.tuple #[.int .u32 (a ^^^ b : Nat), .int .i64 0]) ∧ Below w.heap.size w w') ∧
   (∀ (a b : Nat) (w : World), Calls Tryz.prog 103 #[.int .u8 50, .int .u32 a, .int .u32 b] w fun e w' => e = .returned (.tuple #[.int .u32 (a * 2 ^ (b % 32) % 4294967296 : Nat), .int .i64 0]) ∧ Below w.heap.size w w') ∧
   (∀ (a b : Nat) (w : World), (a < 4294967296) → Calls Tryz.prog 103 #[.int .u8 51, .int .u32 a, .int .u32 b] w fun e w' => e = .returned (.tuple #[.int .u32 ((sx a) / 2 ^ (b % 32) % 4294967296), .int .i64 0]) ∧ Below w.heap.size w w') ∧
   (∀ (a b : Nat) (w : World), Calls Tryz.prog 103 #[.int .u8 52, .int .u32 a, .int .u32 b] w fun e w' => e = .returned (.tuple #[.int .u32 (a / 2 ^ (b % 32) : Nat), .int .i64 0]) ∧ Below w.heap.size w w') ∧
   (∀ (a b : Nat) (w : World), Calls Tryz.prog 103 #[.int .u8 54, .int .u32 a, .int .u32 b] w fun e w' => e = .returned (.tuple #[.int .u32 (fsum a b : Nat), .int .i64 0]) ∧ Below w.heap.size w w') ∧
   (∀ (a b : Nat) (w : World), (b < 4294967296) → Calls Tryz.prog 103 #[.int .u8 55, .int .u32 a, .int .u32 b] w fun e w' => e = .returned (.tuple #[.int .u32 (fsum a (tn b) : Nat), .int .i64 0]) ∧ Below w.heap.size w w') ∧
   (∀ (a b : Nat) (w : World), Calls Tryz.prog 103 #[.int .u8 56, .int .u32 a, .int .u32 b] w fun e w' => e = .returned (.tuple #[.int .u32 (fmul a b : Nat), .int .i64 0]) ∧ Below w.heap.size w w') ∧
   (∀ (a b : Nat) (w : World), Calls Tryz.prog 103 #[.int .u8 57, .int .u32 a, .int .u32 b] w fun e w' => e = .returned (.tuple #[.int .u32 (fdiv a b : Nat), .int .i64 0]) ∧ Below w.heap.size w w') := by
 refine ⟨?_, ?_, ?_, ?_, ?_, ?_, ?_, ?_, ?_, ?_, ?_, ?_, ?_⟩
 intro a b w
 rotate_left
 intro a b w ha hb
 rotate_left
 intro a b w
 rotate_left
 intro a b w ha hb
 rotate_left
 intro a b w ha hb
 rotate_left
 intro a b w ha hb
 rotate_left
 intro a b w
 rotate_left
 intro a b w ha
 rotate_left
 intro a b w
 rotate_left
 intro a b w
 rotate_left
 intro a b w hb
 rotate_left
 intro a b w
 rotate_left
 intro a b w
 rotate_left
 all_goals (have hmf : ∀ (fn : Fn) (first cap : Array Value) (w : World), (Instr.makeFunc fn first cap).run Tryz.prog w = .ok (.func fn first cap) w := fun _ _ _ _ => rfl)
 all_goals (go_enter_defers Tryz.func103, Tryz.ntmps103)
 focus
   go_wp2
 rotate_left
 focus
   go_wp2
 rotate_left
 focus
   go_wp2
 rotate_left
 focus
   go_wp2
 rotate_left
 focus
   go_wp2
 rotate_left
 focus
   go_wp2
 rotate_left
 focus
   go_wp2_with (go_at_call 123; refine (shift_any _ _).mono ?_; rintro e wq ⟨rfl, hq⟩; subst wq)
 rotate_left
 focus
   go_wp2_with (go_at_call 123; refine (shift_any _ _).mono ?_; rintro e wq ⟨rfl, hq⟩; subst wq)
 rotate_left
 focus
   go_wp2_with (go_at_call 123; refine (shift_any _ _).mono ?_; rintro e wq ⟨rfl, hq⟩; subst wq)
 rotate_left
 focus
   go_wp2_with (go_at_call 124; refine (sum_any _ _ _).mono ?_; rintro e wq ⟨rfl, m, hq⟩; subst wq)
 rotate_left
 focus
   go_wp2_with (go_at_call 125; refine (rest_any _ _ _ hb).mono ?_; rintro e wq ⟨rfl, m, hq⟩; subst wq)
 rotate_left
 focus
   go_wp2_with (go_at_call 126; refine (prod_any _ _ _).mono ?_; rintro e wq ⟨rfl, m, hq⟩; subst wq)
 rotate_left
 focus
   go_wp2_with (go_at_call 127; refine (ratio_any _ _ _).mono ?_; rintro e wq ⟨rfl, m, hq⟩; subst wq)
 rotate_left
 all_goals (refine leaves_cons (f := 122) (args := #[.pointer (some ⟨w.heap.size, 0, none⟩), .pointer (some ⟨w.heap.size + 1, 0, none⟩)]) (by simp) (by simp [go_sem]) ?_)
 all_goals (refine (catch_idle ⟨w.heap.size, 0, none⟩ ⟨w.heap.size + 1, 0, none⟩ _).mono ?_)
 all_goals (rintro e u' w'' ⟨rfl, rfl, rfl⟩)
 simp [Leaves, settle, results, Tryz.results103, go_sem, below_two]
 simp [Leaves, settle, results, Tryz.results103, go_sem, below_two]
 omega
 simp [Leaves, settle, results, Tryz.results103, go_sem, below_two]
 simp [Leaves, settle, results, Tryz.results103, go_sem, below_two]
 exact u32_and_nat a b ha hb
 simp [Leaves, settle, results, Tryz.results103, go_sem, below_two]
 exact u32_or_nat a b ha hb
 simp [Leaves, settle, results, Tryz.results103, go_sem, below_two]
 exact u32_xor_nat a b ha hb
 simp [Leaves, settle, results, Tryz.results103, go_sem, below_two]
 simp [Leaves, settle, results, Tryz.results103, go_sem, below_two]
 rw [wrap32_sx ha]
 simp [Leaves, settle, results, Tryz.results103, go_sem, below_two]
 simp [Leaves, settle, results, Tryz.results103, go_sem]
 exact below_set _ _ _ _ _ _
 simp [Leaves, settle, results, Tryz.results103, go_sem]
 exact below_set _ _ _ _ _ _
 simp [Leaves, settle, results, Tryz.results103, go_sem]
 exact below_set _ _ _ _ _ _
 simp [Leaves, settle, results, Tryz.results103, go_sem]
 exact below_set _ _ _ _ _ _
abbrev b_add_any := bA.1
abbrev b_sub_any := bA.2.1
abbrev b_mul_any := bA.2.2.1
abbrev b_and_any := bA.2.2.2.1
abbrev b_or_any := bA.2.2.2.2.1
abbrev b_xor_any := bA.2.2.2.2.2.1
abbrev b_shl_any := bA.2.2.2.2.2.2.1
abbrev b_shri_any := bA.2.2.2.2.2.2.2.1
abbrev b_shru_any := bA.2.2.2.2.2.2.2.2.1
abbrev b_addf_any := bA.2.2.2.2.2.2.2.2.2.1
abbrev b_subf_any := bA.2.2.2.2.2.2.2.2.2.2.1
abbrev b_mulf_any := bA.2.2.2.2.2.2.2.2.2.2.2.1
abbrev b_divf_any := bA.2.2.2.2.2.2.2.2.2.2.2.2
theorem sx_range {a : Nat} (h : a < 4294967296) : -2147483648 ≤ sx a ∧ sx a ≤ 2147483647 := by unfold sx; split <;> omega
theorem b_none_any (op a b : Nat) (w : World) (h39 : ¬ (op : Int) = 39) (h40 : ¬ (op : Int) = 40) (h41 : ¬ (op : Int) = 41) (h42 : ¬ (op : Int) = 42) (h43 : ¬ (op : Int) = 43) (h44 : ¬ (op : Int) = 44) (h45 : ¬ (op : Int) = 45) (h46 : ¬ (op : Int) = 46) (h47 : ¬ (op : Int) = 47) (h48 : ¬ (op : Int) = 48) (h50 : ¬ (op : Int) = 50) (h51 : ¬ (op : Int) = 51) (h52 : ¬ (op : Int) = 52) (h54 : ¬ (op : Int) = 54) (h55 : ¬ (op : Int) = 55) (h56 : ¬ (op : Int) = 56) (h57 : ¬ (op : Int) = 57) :
   Calls Tryz.prog 103 #[.int .u8 op, .int .u32 a, .int .u32 b] w fun e w' => e = .returned (.tuple #[.int .u32 0, .int .i64 61]) ∧ Below w.heap.size w w' := by
 have hmf : ∀ (fn : Fn) (first cap : Array Value) (w : World), (Instr.makeFunc fn first cap).run Tryz.prog w = .ok (.func fn first cap) w := fun _ _ _ _ => rfl
 go_enter_defers Tryz.func103, Tryz.ntmps103
 go_wp2
 refine leaves_cons (f := 122) (args := #[.pointer (some ⟨w.heap.size, 0, none⟩), .pointer (some ⟨w.heap.size + 1, 0, none⟩)]) (by simp) (by simp [go_sem]) ?_
 refine (catch_idle ⟨w.heap.size, 0, none⟩ ⟨w.heap.size + 1, 0, none⟩ _).mono ?_
 rintro e u' w'' ⟨rfl, rfl, rfl⟩
 simp [Leaves, settle, results, Tryz.results103, go_sem, below_two]
end Go.Proofs.YtibhlcfligfhdaaGreat
namespace Go.Proofs.YtibhlcfligfhdaaGreat
open Go.RowKit
set_option maxRecDepth 100000
def binV (op a b : Nat) : Nat := if op = 39 then (((a + b) % 4294967296 : Nat)) else if op = 40 then (((a + 4294967296 - b) % 4294967296 : Nat)) else if op = 41 then (((a * b) % 4294967296 : Nat)) else if op = 42 then (if b = 0 then 0 else (((sx a).tdiv (sx b) % 4294967296)).toNat) else if op = 43 then (if b = 0 then 0 else (a / b : Nat)) else if op = 44 then (if b = 0 then 0 else (((sx a).tmod (sx b) % 4294967296)).toNat) else if op = 45 then (if b = 0 then 0 else (a % b : Nat)) else if op = 46 then ((a &&& b : Nat)) else if op = 47 then ((a ||| b : Nat)) else if op = 48 then ((a ^^^ b : Nat)) else if op = 50 then ((a * 2 ^ (b % 32) % 4294967296 : Nat)) else if op = 51 then ((((sx a) / 2 ^ (b % 32) % 4294967296)).toNat) else if op = 52 then ((a / 2 ^ (b % 32) : Nat)) else if op = 54 then (fsum a b) else if op = 55 then (fsum a (tn b)) else if op = 56 then (fmul a b) else if op = 57 then (fdiv a b) else 0
def binE (op b : Nat) : Int := if op = 42 ∨ op = 43 ∨ op = 44 ∨ op = 45 then (if b = 0 then 60 else 0) else if 39 ≤ op ∧ op ≤ 57 ∧ op ≠ 49 ∧ op ≠ 53 then 0 else 61
theorem binV_39 (a b : Nat) : binV 39 a b = (((a + b) % 4294967296 : Nat)) := by
 unfold binV
 repeat (first | rw [if_pos rfl] | rw [if_neg (by decide)])
theorem binE_39 (b : Nat) : binE 39 b = 0 := by
 unfold binE
 rw [if_neg (by decide), if_pos (by decide)]
theorem binV_40 (a b : Nat) : binV 40 a b = (((a + 4294967296 - b) % 4294967296 : Nat)) := by
 unfold binV
 repeat (first | rw [if_pos rfl] | rw [if_neg (by decide)])
theorem binE_40 (b : Nat) : binE 40 b = 0 := by
 unfold binE
 rw [if_neg (by decide), if_pos (by decide)]
theorem binV_41 (a b : Nat) : binV 41 a b = (((a * b) % 4294967296 : Nat)) := by
 unfold binV
 repeat (first | rw [if_pos rfl] | rw [if_neg (by decide)])
theorem binE_41 (b : Nat) : binE 41 b = 0 := by
 unfold binE
 rw [if_neg (by decide), if_pos (by decide)]
theorem binV_42 (a b : Nat) : binV 42 a b = (if b = 0 then 0 else (((sx a).tdiv (sx b) % 4294967296)).toNat) := by
 unfold binV
 repeat (first | rw [if_pos rfl] | rw [if_neg (by decide)])
theorem binE_42 (b : Nat) : binE 42 b = if b = 0 then 60 else 0 := by
 unfold binE
 rw [if_pos (by decide)]
theorem binV_43 (a b : Nat) : binV 43 a b = (if b = 0 then 0 else (a / b : Nat)) := by
 unfold binV
 repeat (first | rw [if_pos rfl] | rw [if_neg (by decide)])
theorem binE_43 (b : Nat) : binE 43 b = if b = 0 then 60 else 0 := by
 unfold binE
 rw [if_pos (by decide)]
theorem binV_44 (a b : Nat) : binV 44 a b = (if b = 0 then 0 else (((sx a).tmod (sx b) % 4294967296)).toNat) := by
 unfold binV
 repeat (first | rw [if_pos rfl] | rw [if_neg (by decide)])
theorem binE_44 (b : Nat) : binE 44 b = if b = 0 then 60 else 0 := by
 unfold binE
 rw [if_pos (by decide)]
theorem binV_45 (a b : Nat) : binV 45 a b = (if b = 0 then 0 else (a % b : Nat)) := by
 unfold binV
 repeat (first | rw [if_pos rfl] | rw [if_neg (by decide)])
theorem binE_45 (b : Nat) : binE 45 b = if b = 0 then 60 else 0 := by
 unfold binE
 rw [if_pos (by decide)]
theorem binV_46 (a b : Nat) : binV 46 a b = ((a &&& b : Nat)) := by
 unfold binV
 repeat (first | rw [if_pos rfl] | rw [if_neg (by decide)])
theorem binE_46 (b : Nat) : binE 46 b = 0 := by
 unfold binE
 rw [if_neg (by decide), if_pos (by decide)]
theorem binV_47 (a b : Nat) : binV 47 a b = ((a ||| b : Nat)) := by
 unfold binV
 repeat (first | rw [if_pos rfl] | rw [if_neg (by decide)])
theorem binE_47 (b : Nat) : binE 47 b = 0 := by
 unfold binE
 rw [if_neg (by decide), if_pos (by decide)]
theorem binV_48 (a b : Nat) : binV 48 a b = ((a ^^^ b : Nat)) := by
 unfold binV
 repeat (first | rw [if_pos rfl] | rw [if_neg (by decide)])
theorem binE_48 (b : Nat) : binE 48 b = 0 := by
 unfold binE
 rw [if_neg (by decide), if_pos (by decide)]
theorem binV_50 (a b : Nat) : binV 50 a b = ((a * 2 ^ (b % 32) % 4294967296 : Nat)) := by
 unfold binV
 repeat (first | rw [if_pos rfl] | rw [if_neg (by decide)])
theorem binE_50 (b : Nat) : binE 50 b = 0 := by
 unfold binE
 rw [if_neg (by decide), if_pos (by decide)]
theorem binV_51 (a b : Nat) : binV 51 a b = ((((sx a) / 2 ^ (b % 32) % 4294967296)).toNat) := by
 unfold binV
 repeat (first | rw [if_pos rfl] | rw [if_neg (by decide)])
theorem binE_51 (b : Nat) : binE 51 b = 0 := by
 unfold binE
 rw [if_neg (by decide), if_pos (by decide)]
theorem binV_52 (a b : Nat) : binV 52 a b = ((a / 2 ^ (b % 32) : Nat)) := by
 unfold binV
 repeat (first | rw [if_pos rfl] | rw [if_neg (by decide)])
theorem binE_52 (b : Nat) : binE 52 b = 0 := by
 unfold binE
 rw [if_neg (by decide), if_pos (by decide)]
theorem binV_54 (a b : Nat) : binV 54 a b = (fsum a b) := by
 unfold binV
 repeat (first | rw [if_pos rfl] | rw [if_neg (by decide)])
theorem binE_54 (b : Nat) : binE 54 b = 0 := by
 unfold binE
 rw [if_neg (by decide), if_pos (by decide)]
theorem binV_55 (a b : Nat) : binV 55 a b = (fsum a (tn b)) := by
 unfold binV
 repeat (first | rw [if_pos rfl] | rw [if_neg (by decide)])
theorem binE_55 (b : Nat) : binE 55 b = 0 := by
 unfold binE
 rw [if_neg (by decide), if_pos (by decide)]
theorem binV_56 (a b : Nat) : binV 56 a b = (fmul a b) := by
 unfold binV
 repeat (first | rw [if_pos rfl] | rw [if_neg (by decide)])
theorem binE_56 (b : Nat) : binE 56 b = 0 := by
 unfold binE
 rw [if_neg (by decide), if_pos (by decide)]
theorem binV_57 (a b : Nat) : binV 57 a b = (fdiv a b) := by
 unfold binV
 repeat (first | rw [if_pos rfl] | rw [if_neg (by decide)])
theorem binE_57 (b : Nat) : binE 57 b = 0 := by
 unfold binE
 rw [if_neg (by decide), if_pos (by decide)]
theorem anat_of {z : Int} : ((z % 4294967296).toNat : Int) = z % 4294967296 := Int.toNat_of_nonneg (Int.emod_nonneg _ (by decide))
theorem bin_any (op a b : Nat) (w : World) (ha : a < 4294967296) (hb : b < 4294967296) :
   Calls Tryz.prog 103 #[.int .u8 op, .int .u32 a, .int .u32 b] w fun e w' => e = .returned (.tuple #[.int .u32 (binV op a b), .int .i64 (binE op b)]) ∧ Below w.heap.size w w' := by
 by_cases h39 : op = 39
 · subst h39
   rw [binV_39, binE_39]
   exact b_add_any a b w 
 by_cases h40 : op = 40
 · subst h40
   rw [binV_40, binE_40]
   exact b_sub_any a b w ha hb
 by_cases h41 : op = 41
 · subst h41
   rw [binV_41, binE_41]
   exact b_mul_any a b w 
 by_cases h42 : op = 42
 · subst h42
   by_cases hz : b = 0
   · subst hz
     rw [binV_42, binE_42, if_pos rfl, if_pos rfl]
     exact b_divi0_any a w
   · have := b_divi_any a b w ha hb hz
     rw [← anat_of] at this
     rw [binV_42, binE_42, if_neg hz, if_neg hz]
     exact this
 by_cases h43 : op = 43
 · subst h43
   by_cases hz : b = 0
   · subst hz
     rw [binV_43, binE_43, if_pos rfl, if_pos rfl]
     exact b_divu0_any a w
   · have := b_divu_any a b w ha hz
     rw [binV_43, binE_43, if_neg hz, if_neg hz]
     exact this
 by_cases h44 : op = 44
 · subst h44
   by_cases hz : b = 0
   · subst hz
     rw [binV_44, binE_44, if_pos rfl, if_pos rfl]
     exact b_modi0_any a w
   · have := b_modi_any a b w ha hb hz
     rw [← anat_of] at this
     rw [binV_44, binE_44, if_neg hz, if_neg hz]
     exact this
 by_cases h45 : op = 45
 · subst h45
   by_cases hz : b = 0
   · subst hz
     rw [binV_45, binE_45, if_pos rfl, if_pos rfl]
     exact b_modu0_any a w
   · have := b_modu_any a b w hz
     rw [binV_45, binE_45, if_neg hz, if_neg hz]
     exact this
 by_cases h46 : op = 46
 · subst h46
   rw [binV_46, binE_46]
   exact b_and_any a b w ha hb
 by_cases h47 : op = 47
 · subst h47
   rw [binV_47, binE_47]
   exact b_or_any a b w ha hb
 by_cases h48 : op = 48
 · subst h48
   rw [binV_48, binE_48]
   exact b_xor_any a b w ha hb
 by_cases h50 : op = 50
 · subst h50
   rw [binV_50, binE_50]
   exact b_shl_any a b w 
 by_cases h51 : op = 51
 · subst h51
   have := b_shri_any a b w ha
   rw [← anat_of] at this
   rw [binV_51, binE_51]
   exact this
 by_cases h52 : op = 52
 · subst h52
   rw [binV_52, binE_52]
   exact b_shru_any a b w 
 by_cases h54 : op = 54
 · subst h54
   rw [binV_54, binE_54]
   exact b_addf_any a b w
 by_cases h55 : op = 55
 · subst h55
   rw [binV_55, binE_55]
   exact b_subf_any a b w hb
 by_cases h56 : op = 56
 · subst h56
   rw [binV_56, binE_56]
   exact b_mulf_any a b w
 by_cases h57 : op = 57
 · subst h57
   rw [binV_57, binE_57]
   exact b_divf_any a b w
 have h0 : binV op a b = 0 := by unfold binV; simp only [if_neg h39, if_neg h40, if_neg h41, if_neg h42, if_neg h43, if_neg h44, if_neg h45, if_neg h46, if_neg h47, if_neg h48, if_neg h50, if_neg h51, if_neg h52, if_neg h54, if_neg h55, if_neg h56, if_neg h57]
 have h1 : binE op b = 61 := by unfold binE; rw [if_neg (by omega), if_neg (by omega)]
 rw [h0, h1]
 exact b_none_any op a b w (by omega) (by omega) (by omega) (by omega) (by omega) (by omega) (by omega) (by omega) (by omega) (by omega) (by omega) (by omega) (by omega) (by omega) (by omega) (by omega) (by omega)
end Go.Proofs.YtibhlcfligfhdaaGreat
