import Derived.Test.YthaipahaaajgoaaCA0
import Derived.Test.YthaipahaaajgoaaCA5
import Derived.Defers
import Derived.Recover
import Derived.Laws.Pointers
import Derived.Deep.RegionHeld3
import Derived.Test.YthaipahaaajgoaaCA9
import Derived.Test.YthaipahaaajgoaaRows
import Derived.WalkKit
import Derived.WalkSmall
import Derived.ProofKit
import Derived.OpenShut
import Derived.SizedLaws
import Derived.JoinedCond
import Derived.Deep.QuietTactic
namespace Go.Proofs.Ythaipahaaajgoaa
open Go.RowKit

theorem catch_panicking (p q : Addr) (x y : Int) (u : TypeId) (pv : Value) (older : List PanicEntry) (w : World) (hc : w.cell? p = some (.int .u32 x)) (hz : w.frozen? p = false)
    (hc2 : (w.setCell p (.int .u32 0)).cell? q = some (.int .i64 y)) (hz2 : (w.setCell p (.int .u32 0)).frozen? q = false) :
    CallsD Try.prog 6 #[.pointer (some p), .pointer (some q)] (.panicking ({ v := .iface u pv, recovered := false } :: older)) w fun e u' w' =>
      e = .returned (.tuple #[]) ∧ u' = .panicking ({ v := .iface u pv, recovered := true } :: older) ∧ w' = (w.setCell p (.int .u32 0)).setCell q (.int .i64 60) := by
  refine callsD_of_wpS Try.func6 rfl fun c₀ cs hu => ?_
  apply wpS_seq
  apply wpS_region
  simp [wpOpsS, go_sem, recoverD, hu, Try.ntmps6, Exit.thenS]
  refine wpS_cond (t := true) (by simp [Act.eval, Array.replicate]) ?_
  simp only [if_true]
  apply wpS_region
  simp [wpOpsS, go_sem, hc, hz, hc2, hz2, bodyPostS, results, Try.results6]

theorem catch_idle (p q : Addr) (w : World) :
    CallsD Try.prog 6 #[.pointer (some p), .pointer (some q)] .returning w fun e u' w' => e = .returned (.tuple #[]) ∧ u' = .returning ∧ w' = w := by
  refine callsD_of_wpS Try.func6 rfl fun c₀ cs hu => ?_
  apply wpS_seq
  apply wpS_region
  simp [wpOpsS, go_sem, recoverD, hu, Try.ntmps6, Exit.thenS]
  refine wpS_cond (t := false) (by simp [Act.eval, Array.replicate]) ?_
  simp only [Bool.false_eq_true, if_false]
  refine wpS_of_wp (wp_skip ?_)
  cases c₀
  simp_all [bodyPostS, results, Try.results6]
theorem below_two (w : World) (x y : Obj) : Below w.heap.size w ((w.alloc x).alloc y) := ((Below.refl _ _).alloc (Nat.le_refl _) _).alloc (by simp) _
theorem below_set (w : World) (x y : Obj) (m : Nat) (u v : Value) : Below w.heap.size w (((((w.alloc x).alloc y).drewN m).setCell ⟨w.heap.size, 0, none⟩ u).setCell ⟨w.heap.size + 1, 0, none⟩ v) := by
  have h1 : Below w.heap.size w (((w.alloc x).alloc y).drewN m) := (below_two w x y).trans ⟨rfl, rfl, rfl, Nat.le_refl _, fun _ _ => rfl⟩
  have h2 := h1.setCell (p := ⟨w.heap.size, 0, none⟩) (Nat.le_refl _) u
  exact h2.setCell (p := ⟨w.heap.size + 1, 0, none⟩) (Nat.le_succ _) v
end Go.Proofs.Ythaipahaaajgoaa
namespace Go.Proofs.Ythaipahaaajgoaa
open Go.RowKit
/-- a word read with its sign -/
def sx (a : Nat) : Int := if a < 2147483648 then a else (a : Int) - 4294967296
theorem wrap32_sx {a : Nat} (h : a < 4294967296) : wrap32 (a : Int) = sx a := by unfold wrap32 sx; split <;> omega
theorem sx_zero {a : Nat} (h : a < 4294967296) : sx a = 0 ↔ a = 0 := by unfold sx; split <;> omega
theorem wrap32_mod (z : Int) : wrap32 z % 4294967296 = z % 4294967296 := by unfold wrap32; omega
theorem divu_le {a b : Nat} (h : a < 4294967296) : (a : Int) / (b : Int) % 4294967296 = (a : Int) / (b : Int) := by
  have := Nat.div_le_self a b
  have e : (a : Int) / (b : Int) = ((a / b : Nat) : Int) := rfl
  rw [e]
  generalize a / b = c at *
  omega
theorem shift_any (b : Nat) (w : World) : Calls Try.prog 7 #[.int .u32 b] w fun e w' => e = .returned (.int .u32 (b % 32 : Nat)) ∧ w' = w := by
  go_enter Try.func7, Try.ntmps7
  go_wp2
  go_ret
  exact ⟨rfl, rfl⟩
theorem b_add_any (a b : Nat) (w : World) :
    Calls Try.prog 4 #[.int .u8 39, .int .u32 a, .int .u32 b] w fun e w' => e = .returned (.tuple #[.int .u32 ((a + b) % 4294967296 : Nat), .int .i64 0]) ∧ Below w.heap.size w w' := by
  have hmf : ∀ (fn : Fn) (first cap : Array Value) (w : World), (Instr.makeFunc fn first cap).run Try.prog w = .ok (.func fn first cap) w := fun _ _ _ _ => rfl
  go_enter_defers Try.func4, Try.ntmps4
  go_wp2
  refine leaves_cons (f := 6) (args := #[.pointer (some ⟨w.heap.size, 0, none⟩), .pointer (some ⟨w.heap.size + 1, 0, none⟩)]) (by simp) (by simp [go_sem]) ?_
  refine (catch_idle ⟨w.heap.size, 0, none⟩ ⟨w.heap.size + 1, 0, none⟩ _).mono ?_
  rintro e u' w'' ⟨rfl, rfl, rfl⟩
  simp [Leaves, settle, results, Try.results4, go_sem, below_two]
theorem b_sub_any (a b : Nat) (w : World) (ha : a < 4294967296) (hb : b < 4294967296) :
    Calls Try.prog 4 #[.int .u8 40, .int .u32 a, .int .u32 b] w fun e w' => e = .returned (.tuple #[.int .u32 ((a + 4294967296 - b) % 4294967296 : Nat), .int .i64 0]) ∧ Below w.heap.size w w' := by
  have hmf : ∀ (fn : Fn) (first cap : Array Value) (w : World), (Instr.makeFunc fn first cap).run Try.prog w = .ok (.func fn first cap) w := fun _ _ _ _ => rfl
  go_enter_defers Try.func4, Try.ntmps4
  go_wp2
  refine leaves_cons (f := 6) (args := #[.pointer (some ⟨w.heap.size, 0, none⟩), .pointer (some ⟨w.heap.size + 1, 0, none⟩)]) (by simp) (by simp [go_sem]) ?_
  refine (catch_idle ⟨w.heap.size, 0, none⟩ ⟨w.heap.size + 1, 0, none⟩ _).mono ?_
  rintro e u' w'' ⟨rfl, rfl, rfl⟩
  simp [Leaves, settle, results, Try.results4, go_sem, below_two]
  omega
theorem b_mul_any (a b : Nat) (w : World) :
    Calls Try.prog 4 #[.int .u8 41, .int .u32 a, .int .u32 b] w fun e w' => e = .returned (.tuple #[.int .u32 ((a * b) % 4294967296 : Nat), .int .i64 0]) ∧ Below w.heap.size w w' := by
  have hmf : ∀ (fn : Fn) (first cap : Array Value) (w : World), (Instr.makeFunc fn first cap).run Try.prog w = .ok (.func fn first cap) w := fun _ _ _ _ => rfl
  go_enter_defers Try.func4, Try.ntmps4
  go_wp2
  refine leaves_cons (f := 6) (args := #[.pointer (some ⟨w.heap.size, 0, none⟩), .pointer (some ⟨w.heap.size + 1, 0, none⟩)]) (by simp) (by simp [go_sem]) ?_
  refine (catch_idle ⟨w.heap.size, 0, none⟩ ⟨w.heap.size + 1, 0, none⟩ _).mono ?_
  rintro e u' w'' ⟨rfl, rfl, rfl⟩
  simp [Leaves, settle, results, Try.results4, go_sem, below_two]
theorem b_divi_any (a b : Nat) (w : World) (ha : a < 4294967296) (hb : b < 4294967296) (hz : b ≠ 0) :
    Calls Try.prog 4 #[.int .u8 42, .int .u32 a, .int .u32 b] w fun e w' => e = .returned (.tuple #[.int .u32 ((sx a).tdiv (sx b) % 4294967296), .int .i64 0]) ∧ Below w.heap.size w w' := by
  have ea := wrap32_sx ha
  have eb := wrap32_sx hb
  have ez : ¬ wrap32 (b : Int) = 0 := by rw [eb, sx_zero hb]; exact hz
  rw [← ea, ← eb]
  clear ea eb
  have hmf : ∀ (fn : Fn) (first cap : Array Value) (w : World), (Instr.makeFunc fn first cap).run Try.prog w = .ok (.func fn first cap) w := fun _ _ _ _ => rfl
  go_enter_defers Try.func4, Try.ntmps4
  go_wp2
  refine leaves_cons (f := 6) (args := #[.pointer (some ⟨w.heap.size, 0, none⟩), .pointer (some ⟨w.heap.size + 1, 0, none⟩)]) (by simp) (by simp [go_sem]) ?_
  refine (catch_idle ⟨w.heap.size, 0, none⟩ ⟨w.heap.size + 1, 0, none⟩ _).mono ?_
  rintro e u' w'' ⟨rfl, rfl, rfl⟩
  simp [Leaves, settle, results, Try.results4, go_sem, below_two]
  exact wrap32_mod _
theorem b_divu_any (a b : Nat) (w : World) (ha : a < 4294967296) (hz : b ≠ 0) :
    Calls Try.prog 4 #[.int .u8 43, .int .u32 a, .int .u32 b] w fun e w' => e = .returned (.tuple #[.int .u32 (a / b : Nat), .int .i64 0]) ∧ Below w.heap.size w w' := by
  have hmf : ∀ (fn : Fn) (first cap : Array Value) (w : World), (Instr.makeFunc fn first cap).run Try.prog w = .ok (.func fn first cap) w := fun _ _ _ _ => rfl
  go_enter_defers Try.func4, Try.ntmps4
  go_wp2
  refine leaves_cons (f := 6) (args := #[.pointer (some ⟨w.heap.size, 0, none⟩), .pointer (some ⟨w.heap.size + 1, 0, none⟩)]) (by simp) (by simp [go_sem]) ?_
  refine (catch_idle ⟨w.heap.size, 0, none⟩ ⟨w.heap.size + 1, 0, none⟩ _).mono ?_
  rintro e u' w'' ⟨rfl, rfl, rfl⟩
  simp [Leaves, settle, results, Try.results4, go_sem, below_two]
  exact divu_le ha
theorem b_modi_any (a b : Nat) (w : World) (ha : a < 4294967296) (hb : b < 4294967296) (hz : b ≠ 0) :
    Calls Try.prog 4 #[.int .u8 44, .int .u32 a, .int .u32 b] w fun e w' => e = .returned (.tuple #[.int .u32 ((sx a).tmod (sx b) % 4294967296), .int .i64 0]) ∧ Below w.heap.size w w' := by
  have ea := wrap32_sx ha
  have eb := wrap32_sx hb
  have ez : ¬ wrap32 (b : Int) = 0 := by rw [eb, sx_zero hb]; exact hz
  rw [← ea, ← eb]
  clear ea eb
  have hmf : ∀ (fn : Fn) (first cap : Array Value) (w : World), (Instr.makeFunc fn first cap).run Try.prog w = .ok (.func fn first cap) w := fun _ _ _ _ => rfl
  go_enter_defers Try.func4, Try.ntmps4
  go_wp2
  refine leaves_cons (f := 6) (args := #[.pointer (some ⟨w.heap.size, 0, none⟩), .pointer (some ⟨w.heap.size + 1, 0, none⟩)]) (by simp) (by simp [go_sem]) ?_
  refine (catch_idle ⟨w.heap.size, 0, none⟩ ⟨w.heap.size + 1, 0, none⟩ _).mono ?_
  rintro e u' w'' ⟨rfl, rfl, rfl⟩
  simp [Leaves, settle, results, Try.results4, go_sem, below_two]
theorem b_modu_any (a b : Nat) (w : World) (hz : b ≠ 0) :
    Calls Try.prog 4 #[.int .u8 45, .int .u32 a, .int .u32 b] w fun e w' => e = .returned (.tuple #[.int .u32 (a % b : Nat), .int .i64 0]) ∧ Below w.heap.size w w' := by
  have hmf : ∀ (fn : Fn) (first cap : Array Value) (w : World), (Instr.makeFunc fn first cap).run Try.prog w = .ok (.func fn first cap) w := fun _ _ _ _ => rfl
  go_enter_defers Try.func4, Try.ntmps4
  go_wp2
  refine leaves_cons (f := 6) (args := #[.pointer (some ⟨w.heap.size, 0, none⟩), .pointer (some ⟨w.heap.size + 1, 0, none⟩)]) (by simp) (by simp [go_sem]) ?_
  refine (catch_idle ⟨w.heap.size, 0, none⟩ ⟨w.heap.size + 1, 0, none⟩ _).mono ?_
  rintro e u' w'' ⟨rfl, rfl, rfl⟩
  simp [Leaves, settle, results, Try.results4, go_sem, below_two]
theorem b_and_any (a b : Nat) (w : World) (ha : a < 4294967296) (hb : b < 4294967296) :
    Calls Try.prog 4 #[.int .u8 46, .int .u32 a, .int .u32 b] w fun e w' => e = .returned (.tuple #[.int .u32 (a &&& b : Nat), .int .i64 0]) ∧ Below w.heap.size w w' := by
  have hmf : ∀ (fn : Fn) (first cap : Array Value) (w : World), (Instr.makeFunc fn first cap).run Try.prog w = .ok (.func fn first cap) w := fun _ _ _ _ => rfl
  go_enter_defers Try.func4, Try.ntmps4
  go_wp2
  refine leaves_cons (f := 6) (args := #[.pointer (some ⟨w.heap.size, 0, none⟩), .pointer (some ⟨w.heap.size + 1, 0, none⟩)]) (by simp) (by simp [go_sem]) ?_
  refine (catch_idle ⟨w.heap.size, 0, none⟩ ⟨w.heap.size + 1, 0, none⟩ _).mono ?_
  rintro e u' w'' ⟨rfl, rfl, rfl⟩
  simp [Leaves, settle, results, Try.results4, go_sem, below_two]
  exact u32_and_nat a b ha hb
theorem b_or_any (a b : Nat) (w : World) (ha : a < 4294967296) (hb : b < 4294967296) :
    Calls Try.prog 4 #[.int .u8 47, .int .u32 a, .int .u32 b] w fun e w' => e = .returned (.tuple #[.int .u32 (a ||| b : Nat), .int .i64 0]) ∧ Below w.heap.size w w' := by
  have hmf : ∀ (fn : Fn) (first cap : Array Value) (w : World), (Instr.makeFunc fn first cap).run Try.prog w = .ok (.func fn first cap) w := fun _ _ _ _ => rfl
  go_enter_defers Try.func4, Try.ntmps4
  go_wp2
  refine leaves_cons (f := 6) (args := #[.pointer (some ⟨w.heap.size, 0, none⟩), .pointer (some ⟨w.heap.size + 1, 0, none⟩)]) (by simp) (by simp [go_sem]) ?_
  refine (catch_idle ⟨w.heap.size, 0, none⟩ ⟨w.heap.size + 1, 0, none⟩ _).mono ?_
  rintro e u' w'' ⟨rfl, rfl, rfl⟩
  simp [Leaves, settle, results, Try.results4, go_sem, below_two]
  exact u32_or_nat a b ha hb
theorem b_xor_any (a b : Nat) (w : World) (ha : a < 4294967296) (hb : b < 4294967296) :
    Calls Try.prog 4 #[.int .u8 48, .int .u32 a, .int .u32 b] w fun e w' => e = .returned (.tuple #[.int .u32 (a ^^^ b : Nat), .int .i64 0]) ∧ Below w.heap.size w w' := by
  have hmf : ∀ (fn : Fn) (first cap : Array Value) (w : World), (Instr.makeFunc fn first cap).run Try.prog w = .ok (.func fn first cap) w := fun _ _ _ _ => rfl
  go_enter_defers Try.func4, Try.ntmps4
  go_wp2
  refine leaves_cons (f := 6) (args := #[.pointer (some ⟨w.heap.size, 0, none⟩), .pointer (some ⟨w.heap.size + 1, 0, none⟩)]) (by simp) (by simp [go_sem]) ?_
  refine (catch_idle ⟨w.heap.size, 0, none⟩ ⟨w.heap.size + 1, 0, none⟩ _).mono ?_
  rintro e u' w'' ⟨rfl, rfl, rfl⟩
  simp [Leaves, settle, results, Try.results4, go_sem, below_two]
  exact u32_xor_nat a b ha hb
theorem b_shl_any (a b : Nat) (w : World) :
    Calls Try.prog 4 #[.int .u8 50, .int .u32 a, .int .u32 b] w fun e w' => e = .returned (.tuple #[.int .u32 (a * 2 ^ (b % 32) % 4294967296 : Nat), .int .i64 0]) ∧ Below w.heap.size w w' := by
  have hmf : ∀ (fn : Fn) (first cap : Array Value) (w : World), (Instr.makeFunc fn first cap).run Try.prog w = .ok (.func fn first cap) w := fun _ _ _ _ => rfl
  go_enter_defers Try.func4, Try.ntmps4
  go_wp2_with (go_at_call 7; refine (shift_any _ _).mono ?_; rintro e wq ⟨rfl, hq⟩; subst wq)
  refine leaves_cons (f := 6) (args := #[.pointer (some ⟨w.heap.size, 0, none⟩), .pointer (some ⟨w.heap.size + 1, 0, none⟩)]) (by simp) (by simp [go_sem]) ?_
  refine (catch_idle ⟨w.heap.size, 0, none⟩ ⟨w.heap.size + 1, 0, none⟩ _).mono ?_
  rintro e u' w'' ⟨rfl, rfl, rfl⟩
  simp [Leaves, settle, results, Try.results4, go_sem, below_two]
theorem b_shri_any (a b : Nat) (w : World) (ha : a < 4294967296) :
    Calls Try.prog 4 #[.int .u8 51, .int .u32 a, .int .u32 b] w fun e w' => e = .returned (.tuple #[.int .u32 ((sx a) / 2 ^ (b % 32) % 4294967296), .int .i64 0]) ∧ Below w.heap.size w w' := by
  have hmf : ∀ (fn : Fn) (first cap : Array Value) (w : World), (Instr.makeFunc fn first cap).run Try.prog w = .ok (.func fn first cap) w := fun _ _ _ _ => rfl
  go_enter_defers Try.func4, Try.ntmps4
  go_wp2_with (go_at_call 7; refine (shift_any _ _).mono ?_; rintro e wq ⟨rfl, hq⟩; subst wq)
  refine leaves_cons (f := 6) (args := #[.pointer (some ⟨w.heap.size, 0, none⟩), .pointer (some ⟨w.heap.size + 1, 0, none⟩)]) (by simp) (by simp [go_sem]) ?_
  refine (catch_idle ⟨w.heap.size, 0, none⟩ ⟨w.heap.size + 1, 0, none⟩ _).mono ?_
  rintro e u' w'' ⟨rfl, rfl, rfl⟩
  simp [Leaves, settle, results, Try.results4, go_sem, below_two]
  rw [wrap32_sx ha]
theorem b_shru_any (a b : Nat) (w : World) :
    Calls Try.prog 4 #[.int .u8 52, .int .u32 a, .int .u32 b] w fun e w' => e = .returned (.tuple #[.int .u32 (a / 2 ^ (b % 32) : Nat), .int .i64 0]) ∧ Below w.heap.size w w' := by
  have hmf : ∀ (fn : Fn) (first cap : Array Value) (w : World), (Instr.makeFunc fn first cap).run Try.prog w = .ok (.func fn first cap) w := fun _ _ _ _ => rfl
  go_enter_defers Try.func4, Try.ntmps4
  go_wp2_with (go_at_call 7; refine (shift_any _ _).mono ?_; rintro e wq ⟨rfl, hq⟩; subst wq)
  refine leaves_cons (f := 6) (args := #[.pointer (some ⟨w.heap.size, 0, none⟩), .pointer (some ⟨w.heap.size + 1, 0, none⟩)]) (by simp) (by simp [go_sem]) ?_
  refine (catch_idle ⟨w.heap.size, 0, none⟩ ⟨w.heap.size + 1, 0, none⟩ _).mono ?_
  rintro e u' w'' ⟨rfl, rfl, rfl⟩
  simp [Leaves, settle, results, Try.results4, go_sem, below_two]
theorem b_divi0_any (a : Nat) (w : World) :
    Calls Try.prog 4 #[.int .u8 42, .int .u32 a, .int .u32 0] w fun e w' => e = .returned (.tuple #[.int .u32 0, .int .i64 60]) ∧ Below w.heap.size w w' := by
  have hmf : ∀ (fn : Fn) (first cap : Array Value) (w : World), (Instr.makeFunc fn first cap).run Try.prog w = .ok (.func fn first cap) w := fun _ _ _ _ => rfl
  go_enter_defers Try.func4, Try.ntmps4
  go_wp2
  refine leaves_cons (f := 6) (args := #[.pointer (some ⟨w.heap.size, 0, none⟩), .pointer (some ⟨w.heap.size + 1, 0, none⟩)]) (by simp) (by simp [go_sem]) ?_
  refine (catch_panicking ⟨w.heap.size, 0, none⟩ ⟨w.heap.size + 1, 0, none⟩ 0 0 10 _ [] _ ?_ ?_ ?_ ?_).mono ?_
  · simp [go_sem]
  · simp [go_sem]
  · simp [go_sem]
  · simp [go_sem]
  rintro e u' w'' ⟨rfl, rfl, rfl⟩
  simp [Leaves, settle, results, Try.results4, go_sem, below_two]
theorem b_divu0_any (a : Nat) (w : World) :
    Calls Try.prog 4 #[.int .u8 43, .int .u32 a, .int .u32 0] w fun e w' => e = .returned (.tuple #[.int .u32 0, .int .i64 60]) ∧ Below w.heap.size w w' := by
  have hmf : ∀ (fn : Fn) (first cap : Array Value) (w : World), (Instr.makeFunc fn first cap).run Try.prog w = .ok (.func fn first cap) w := fun _ _ _ _ => rfl
  go_enter_defers Try.func4, Try.ntmps4
  go_wp2
  refine leaves_cons (f := 6) (args := #[.pointer (some ⟨w.heap.size, 0, none⟩), .pointer (some ⟨w.heap.size + 1, 0, none⟩)]) (by simp) (by simp [go_sem]) ?_
  refine (catch_panicking ⟨w.heap.size, 0, none⟩ ⟨w.heap.size + 1, 0, none⟩ 0 0 10 _ [] _ ?_ ?_ ?_ ?_).mono ?_
  · simp [go_sem]
  · simp [go_sem]
  · simp [go_sem]
  · simp [go_sem]
  rintro e u' w'' ⟨rfl, rfl, rfl⟩
  simp [Leaves, settle, results, Try.results4, go_sem, below_two]
theorem b_modi0_any (a : Nat) (w : World) :
    Calls Try.prog 4 #[.int .u8 44, .int .u32 a, .int .u32 0] w fun e w' => e = .returned (.tuple #[.int .u32 0, .int .i64 60]) ∧ Below w.heap.size w w' := by
  have hmf : ∀ (fn : Fn) (first cap : Array Value) (w : World), (Instr.makeFunc fn first cap).run Try.prog w = .ok (.func fn first cap) w := fun _ _ _ _ => rfl
  go_enter_defers Try.func4, Try.ntmps4
  go_wp2
  refine leaves_cons (f := 6) (args := #[.pointer (some ⟨w.heap.size, 0, none⟩), .pointer (some ⟨w.heap.size + 1, 0, none⟩)]) (by simp) (by simp [go_sem]) ?_
  refine (catch_panicking ⟨w.heap.size, 0, none⟩ ⟨w.heap.size + 1, 0, none⟩ 0 0 10 _ [] _ ?_ ?_ ?_ ?_).mono ?_
  · simp [go_sem]
  · simp [go_sem]
  · simp [go_sem]
  · simp [go_sem]
  rintro e u' w'' ⟨rfl, rfl, rfl⟩
  simp [Leaves, settle, results, Try.results4, go_sem, below_two]
theorem b_modu0_any (a : Nat) (w : World) :
    Calls Try.prog 4 #[.int .u8 45, .int .u32 a, .int .u32 0] w fun e w' => e = .returned (.tuple #[.int .u32 0, .int .i64 60]) ∧ Below w.heap.size w w' := by
  have hmf : ∀ (fn : Fn) (first cap : Array Value) (w : World), (Instr.makeFunc fn first cap).run Try.prog w = .ok (.func fn first cap) w := fun _ _ _ _ => rfl
  go_enter_defers Try.func4, Try.ntmps4
  go_wp2
  refine leaves_cons (f := 6) (args := #[.pointer (some ⟨w.heap.size, 0, none⟩), .pointer (some ⟨w.heap.size + 1, 0, none⟩)]) (by simp) (by simp [go_sem]) ?_
  refine (catch_panicking ⟨w.heap.size, 0, none⟩ ⟨w.heap.size + 1, 0, none⟩ 0 0 10 _ [] _ ?_ ?_ ?_ ?_).mono ?_
  · simp [go_sem]
  · simp [go_sem]
  · simp [go_sem]
  · simp [go_sem]
  rintro e u' w'' ⟨rfl, rfl, rfl⟩
  simp [Leaves, settle, results, Try.results4, go_sem, below_two]
theorem b_addf_any (a b : Nat) (w : World) :
    Calls Try.prog 4 #[.int .u8 54, .int .u32 a, .int .u32 b] w fun e w' => e = .returned (.tuple #[.int .u32 (fsum a b : Nat), .int .i64 0]) ∧ Below w.heap.size w w' := by
  have hmf : ∀ (fn : Fn) (first cap : Array Value) (w : World), (Instr.makeFunc fn first cap).run Try.prog w = .ok (.func fn first cap) w := fun _ _ _ _ => rfl
  go_enter_defers Try.func4, Try.ntmps4
  go_wp2_with (go_at_call 8; refine (sum_any _ _ _).mono ?_; rintro e wq ⟨rfl, m, hq⟩; subst wq)
  refine leaves_cons (f := 6) (args := #[.pointer (some ⟨w.heap.size, 0, none⟩), .pointer (some ⟨w.heap.size + 1, 0, none⟩)]) (by simp) (by simp [go_sem]) ?_
  refine (catch_idle ⟨w.heap.size, 0, none⟩ ⟨w.heap.size + 1, 0, none⟩ _).mono ?_
  rintro e u' w'' ⟨rfl, rfl, rfl⟩
  simp [Leaves, settle, results, Try.results4, go_sem]
  exact below_set _ _ _ _ _ _
theorem b_subf_any (a b : Nat) (w : World) (hb : b < 4294967296) :
    Calls Try.prog 4 #[.int .u8 55, .int .u32 a, .int .u32 b] w fun e w' => e = .returned (.tuple #[.int .u32 (fsum a (tn b) : Nat), .int .i64 0]) ∧ Below w.heap.size w w' := by
  have hmf : ∀ (fn : Fn) (first cap : Array Value) (w : World), (Instr.makeFunc fn first cap).run Try.prog w = .ok (.func fn first cap) w := fun _ _ _ _ => rfl
  go_enter_defers Try.func4, Try.ntmps4
  go_wp2_with (go_at_call 9; refine (rest_any _ _ _ hb).mono ?_; rintro e wq ⟨rfl, m, hq⟩; subst wq)
  refine leaves_cons (f := 6) (args := #[.pointer (some ⟨w.heap.size, 0, none⟩), .pointer (some ⟨w.heap.size + 1, 0, none⟩)]) (by simp) (by simp [go_sem]) ?_
  refine (catch_idle ⟨w.heap.size, 0, none⟩ ⟨w.heap.size + 1, 0, none⟩ _).mono ?_
  rintro e u' w'' ⟨rfl, rfl, rfl⟩
  simp [Leaves, settle, results, Try.results4, go_sem]
  exact below_set _ _ _ _ _ _
theorem b_mulf_any (a b : Nat) (w : World) :
    Calls Try.prog 4 #[.int .u8 56, .int .u32 a, .int .u32 b] w fun e w' => e = .returned (.tuple #[.int .u32 (fmul a b : Nat), .int .i64 0]) ∧ Below w.heap.size w w' := by
  have hmf : ∀ (fn : Fn) (first cap : Array Value) (w : World), (Instr.makeFunc fn first cap).run Try.prog w = .ok (.func fn first cap) w := fun _ _ _ _ => rfl
  go_enter_defers Try.func4, Try.ntmps4
  go_wp2_with (go_at_call 10; refine (prod_any _ _ _).mono ?_; rintro e wq ⟨rfl, m, hq⟩; subst wq)
  refine leaves_cons (f := 6) (args := #[.pointer (some ⟨w.heap.size, 0, none⟩), .pointer (some ⟨w.heap.size + 1, 0, none⟩)]) (by simp) (by simp [go_sem]) ?_
  refine (catch_idle ⟨w.heap.size, 0, none⟩ ⟨w.heap.size + 1, 0, none⟩ _).mono ?_
  rintro e u' w'' ⟨rfl, rfl, rfl⟩
  simp [Leaves, settle, results, Try.results4, go_sem]
  exact below_set _ _ _ _ _ _
theorem b_divf_any (a b : Nat) (w : World) :
    Calls Try.prog 4 #[.int .u8 57, .int .u32 a, .int .u32 b] w fun e w' => e = .returned (.tuple #[.int .u32 (fdiv a b : Nat), .int .i64 0]) ∧ Below w.heap.size w w' := by
  have hmf : ∀ (fn : Fn) (first cap : Array Value) (w : World), (Instr.makeFunc fn first cap).run Try.prog w = .ok (.func fn first cap) w := fun _ _ _ _ => rfl
  go_enter_defers Try.func4, Try.ntmps4
  go_wp2_with (go_at_call 11; refine (ratio_any _ _ _).mono ?_; rintro e wq ⟨rfl, m, hq⟩; subst wq)
  refine leaves_cons (f := 6) (args := #[.pointer (some ⟨w.heap.size, 0, none⟩), .pointer (some ⟨w.heap.size + 1, 0, none⟩)]) (by simp) (by simp [go_sem]) ?_
  refine (catch_idle ⟨w.heap.size, 0, none⟩ ⟨w.heap.size + 1, 0, none⟩ _).mono ?_
  rintro e u' w'' ⟨rfl, rfl, rfl⟩
  simp [Leaves, settle, results, Try.results4, go_sem]
  exact below_set _ _ _ _ _ _
theorem sx_range {a : Nat} (h : a < 4294967296) : -2147483648 ≤ sx a ∧ sx a ≤ 2147483647 := by unfold sx; split <;> omega
theorem b_none_any (op a b : Nat) (w : World) (h39 : ¬ (op : Int) = 39) (h40 : ¬ (op : Int) = 40) (h41 : ¬ (op : Int) = 41) (h42 : ¬ (op : Int) = 42) (h43 : ¬ (op : Int) = 43) (h44 : ¬ (op : Int) = 44) (h45 : ¬ (op : Int) = 45) (h46 : ¬ (op : Int) = 46) (h47 : ¬ (op : Int) = 47) (h48 : ¬ (op : Int) = 48) (h50 : ¬ (op : Int) = 50) (h51 : ¬ (op : Int) = 51) (h52 : ¬ (op : Int) = 52) (h54 : ¬ (op : Int) = 54) (h55 : ¬ (op : Int) = 55) (h56 : ¬ (op : Int) = 56) (h57 : ¬ (op : Int) = 57) :
    Calls Try.prog 4 #[.int .u8 op, .int .u32 a, .int .u32 b] w fun e w' => e = .returned (.tuple #[.int .u32 0, .int .i64 61]) ∧ Below w.heap.size w w' := by
  have hmf : ∀ (fn : Fn) (first cap : Array Value) (w : World), (Instr.makeFunc fn first cap).run Try.prog w = .ok (.func fn first cap) w := fun _ _ _ _ => rfl
  go_enter_defers Try.func4, Try.ntmps4
  go_wp2
  refine leaves_cons (f := 6) (args := #[.pointer (some ⟨w.heap.size, 0, none⟩), .pointer (some ⟨w.heap.size + 1, 0, none⟩)]) (by simp) (by simp [go_sem]) ?_
  refine (catch_idle ⟨w.heap.size, 0, none⟩ ⟨w.heap.size + 1, 0, none⟩ _).mono ?_
  rintro e u' w'' ⟨rfl, rfl, rfl⟩
  simp [Leaves, settle, results, Try.results4, go_sem, below_two]
end Go.Proofs.Ythaipahaaajgoaa
namespace Go.Proofs.Ythaipahaaajgoaa
open Go.RowKit
/-- what a binary operation makes of two words -/
def binV (op a b : Nat) : Nat := if op = 39 then (((a + b) % 4294967296 : Nat)) else if op = 40 then (((a + 4294967296 - b) % 4294967296 : Nat)) else if op = 41 then (((a * b) % 4294967296 : Nat)) else if op = 42 then (if b = 0 then 0 else (((sx a).tdiv (sx b) % 4294967296)).toNat) else if op = 43 then (if b = 0 then 0 else (a / b : Nat)) else if op = 44 then (if b = 0 then 0 else (((sx a).tmod (sx b) % 4294967296)).toNat) else if op = 45 then (if b = 0 then 0 else (a % b : Nat)) else if op = 46 then ((a &&& b : Nat)) else if op = 47 then ((a ||| b : Nat)) else if op = 48 then ((a ^^^ b : Nat)) else if op = 50 then ((a * 2 ^ (b % 32) % 4294967296 : Nat)) else if op = 51 then ((((sx a) / 2 ^ (b % 32) % 4294967296)).toNat) else if op = 52 then ((a / 2 ^ (b % 32) : Nat)) else if op = 54 then (fsum a b) else if op = 55 then (fsum a (tn b)) else if op = 56 then (fmul a b) else if op = 57 then (fdiv a b) else 0
/-- and its error -/
def binE (op b : Nat) : Int := if op = 42 ∨ op = 43 ∨ op = 44 ∨ op = 45 then (if b = 0 then 60 else 0) else if 39 ≤ op ∧ op ≤ 57 ∧ op ≠ 49 ∧ op ≠ 53 then 0 else 61
theorem binV_39 (a b : Nat) : binV 39 a b = (((a + b) % 4294967296 : Nat)) := by
  unfold binV
  repeat (first | rw [if_pos rfl] | rw [if_neg (by decide)])
theorem binE_39 (b : Nat) : binE 39 b = 0 := by
  unfold binE
  rw [if_neg (by decide), if_pos (by decide)]
theorem binV_40 (a b : Nat) : binV 40 a b = (((a + 4294967296 - b) % 4294967296 : Nat)) := by
  unfold binV
  repeat (first | rw [if_pos rfl] | rw [if_neg (by decide)])
theorem binE_40 (b : Nat) : binE 40 b = 0 := by
  unfold binE
  rw [if_neg (by decide), if_pos (by decide)]
theorem binV_41 (a b : Nat) : binV 41 a b = (((a * b) % 4294967296 : Nat)) := by
  unfold binV
  repeat (first | rw [if_pos rfl] | rw [if_neg (by decide)])
theorem binE_41 (b : Nat) : binE 41 b = 0 := by
  unfold binE
  rw [if_neg (by decide), if_pos (by decide)]
theorem binV_42 (a b : Nat) : binV 42 a b = (if b = 0 then 0 else (((sx a).tdiv (sx b) % 4294967296)).toNat) := by
  unfold binV
  repeat (first | rw [if_pos rfl] | rw [if_neg (by decide)])
theorem binE_42 (b : Nat) : binE 42 b = if b = 0 then 60 else 0 := by
  unfold binE
  rw [if_pos (by decide)]
theorem binV_43 (a b : Nat) : binV 43 a b = (if b = 0 then 0 else (a / b : Nat)) := by
  unfold binV
  repeat (first | rw [if_pos rfl] | rw [if_neg (by decide)])
theorem binE_43 (b : Nat) : binE 43 b = if b = 0 then 60 else 0 := by
  unfold binE
  rw [if_pos (by decide)]
theorem binV_44 (a b : Nat) : binV 44 a b = (if b = 0 then 0 else (((sx a).tmod (sx b) % 4294967296)).toNat) := by
  unfold binV
  repeat (first | rw [if_pos rfl] | rw [if_neg (by decide)])
theorem binE_44 (b : Nat) : binE 44 b = if b = 0 then 60 else 0 := by
  unfold binE
  rw [if_pos (by decide)]
theorem binV_45 (a b : Nat) : binV 45 a b = (if b = 0 then 0 else (a % b : Nat)) := by
  unfold binV
  repeat (first | rw [if_pos rfl] | rw [if_neg (by decide)])
theorem binE_45 (b : Nat) : binE 45 b = if b = 0 then 60 else 0 := by
  unfold binE
  rw [if_pos (by decide)]
theorem binV_46 (a b : Nat) : binV 46 a b = ((a &&& b : Nat)) := by
  unfold binV
  repeat (first | rw [if_pos rfl] | rw [if_neg (by decide)])
theorem binE_46 (b : Nat) : binE 46 b = 0 := by
  unfold binE
  rw [if_neg (by decide), if_pos (by decide)]
theorem binV_47 (a b : Nat) : binV 47 a b = ((a ||| b : Nat)) := by
  unfold binV
  repeat (first | rw [if_pos rfl] | rw [if_neg (by decide)])
theorem binE_47 (b : Nat) : binE 47 b = 0 := by
  unfold binE
  rw [if_neg (by decide), if_pos (by decide)]
theorem binV_48 (a b : Nat) : binV 48 a b = ((a ^^^ b : Nat)) := by
  unfold binV
  repeat (first | rw [if_pos rfl] | rw [if_neg (by decide)])
theorem binE_48 (b : Nat) : binE 48 b = 0 := by
  unfold binE
  rw [if_neg (by decide), if_pos (by decide)]
theorem binV_50 (a b : Nat) : binV 50 a b = ((a * 2 ^ (b % 32) % 4294967296 : Nat)) := by
  unfold binV
  repeat (first | rw [if_pos rfl] | rw [if_neg (by decide)])
theorem binE_50 (b : Nat) : binE 50 b = 0 := by
  unfold binE
  rw [if_neg (by decide), if_pos (by decide)]
theorem binV_51 (a b : Nat) : binV 51 a b = ((((sx a) / 2 ^ (b % 32) % 4294967296)).toNat) := by
  unfold binV
  repeat (first | rw [if_pos rfl] | rw [if_neg (by decide)])
theorem binE_51 (b : Nat) : binE 51 b = 0 := by
  unfold binE
  rw [if_neg (by decide), if_pos (by decide)]
theorem binV_52 (a b : Nat) : binV 52 a b = ((a / 2 ^ (b % 32) : Nat)) := by
  unfold binV
  repeat (first | rw [if_pos rfl] | rw [if_neg (by decide)])
theorem binE_52 (b : Nat) : binE 52 b = 0 := by
  unfold binE
  rw [if_neg (by decide), if_pos (by decide)]
theorem binV_54 (a b : Nat) : binV 54 a b = (fsum a b) := by
  unfold binV
  repeat (first | rw [if_pos rfl] | rw [if_neg (by decide)])
theorem binE_54 (b : Nat) : binE 54 b = 0 := by
  unfold binE
  rw [if_neg (by decide), if_pos (by decide)]
theorem binV_55 (a b : Nat) : binV 55 a b = (fsum a (tn b)) := by
  unfold binV
  repeat (first | rw [if_pos rfl] | rw [if_neg (by decide)])
theorem binE_55 (b : Nat) : binE 55 b = 0 := by
  unfold binE
  rw [if_neg (by decide), if_pos (by decide)]
theorem binV_56 (a b : Nat) : binV 56 a b = (fmul a b) := by
  unfold binV
  repeat (first | rw [if_pos rfl] | rw [if_neg (by decide)])
theorem binE_56 (b : Nat) : binE 56 b = 0 := by
  unfold binE
  rw [if_neg (by decide), if_pos (by decide)]
theorem binV_57 (a b : Nat) : binV 57 a b = (fdiv a b) := by
  unfold binV
  repeat (first | rw [if_pos rfl] | rw [if_neg (by decide)])
theorem binE_57 (b : Nat) : binE 57 b = 0 := by
  unfold binE
  rw [if_neg (by decide), if_pos (by decide)]
theorem nat_of {z : Int} : ((z % 4294967296).toNat : Int) = z % 4294967296 := Int.toNat_of_nonneg (Int.emod_nonneg _ (by decide))
theorem bin_any (op a b : Nat) (w : World) (ha : a < 4294967296) (hb : b < 4294967296) :
    Calls Try.prog 4 #[.int .u8 op, .int .u32 a, .int .u32 b] w fun e w' => e = .returned (.tuple #[.int .u32 (binV op a b), .int .i64 (binE op b)]) ∧ Below w.heap.size w w' := by
  by_cases h39 : op = 39
  · subst h39
    rw [binV_39, binE_39]
    exact b_add_any a b w 
  by_cases h40 : op = 40
  · subst h40
    rw [binV_40, binE_40]
    exact b_sub_any a b w ha hb
  by_cases h41 : op = 41
  · subst h41
    rw [binV_41, binE_41]
    exact b_mul_any a b w 
  by_cases h42 : op = 42
  · subst h42
    by_cases hz : b = 0
    · subst hz
      rw [binV_42, binE_42, if_pos rfl, if_pos rfl]
      exact b_divi0_any a w
    · have := b_divi_any a b w ha hb hz
      rw [← nat_of] at this
      rw [binV_42, binE_42, if_neg hz, if_neg hz]
      exact this
  by_cases h43 : op = 43
  · subst h43
    by_cases hz : b = 0
    · subst hz
      rw [binV_43, binE_43, if_pos rfl, if_pos rfl]
      exact b_divu0_any a w
    · have := b_divu_any a b w ha hz
      rw [binV_43, binE_43, if_neg hz, if_neg hz]
      exact this
  by_cases h44 : op = 44
  · subst h44
    by_cases hz : b = 0
    · subst hz
      rw [binV_44, binE_44, if_pos rfl, if_pos rfl]
      exact b_modi0_any a w
    · have := b_modi_any a b w ha hb hz
      rw [← nat_of] at this
      rw [binV_44, binE_44, if_neg hz, if_neg hz]
      exact this
  by_cases h45 : op = 45
  · subst h45
    by_cases hz : b = 0
    · subst hz
      rw [binV_45, binE_45, if_pos rfl, if_pos rfl]
      exact b_modu0_any a w
    · have := b_modu_any a b w hz
      rw [binV_45, binE_45, if_neg hz, if_neg hz]
      exact this
  by_cases h46 : op = 46
  · subst h46
    rw [binV_46, binE_46]
    exact b_and_any a b w ha hb
  by_cases h47 : op = 47
  · subst h47
    rw [binV_47, binE_47]
    exact b_or_any a b w ha hb
  by_cases h48 : op = 48
  · subst h48
    rw [binV_48, binE_48]
    exact b_xor_any a b w ha hb
  by_cases h50 : op = 50
  · subst h50
    rw [binV_50, binE_50]
    exact b_shl_any a b w 
  by_cases h51 : op = 51
  · subst h51
    have := b_shri_any a b w ha
    rw [← nat_of] at this
    rw [binV_51, binE_51]
    exact this
  by_cases h52 : op = 52
  · subst h52
    rw [binV_52, binE_52]
    exact b_shru_any a b w 
  by_cases h54 : op = 54
  · subst h54
    rw [binV_54, binE_54]
    exact b_addf_any a b w
  by_cases h55 : op = 55
  · subst h55
    rw [binV_55, binE_55]
    exact b_subf_any a b w hb
  by_cases h56 : op = 56
  · subst h56
    rw [binV_56, binE_56]
    exact b_mulf_any a b w
  by_cases h57 : op = 57
  · subst h57
    rw [binV_57, binE_57]
    exact b_divf_any a b w
  have h0 : binV op a b = 0 := by unfold binV; simp only [if_neg h39, if_neg h40, if_neg h41, if_neg h42, if_neg h43, if_neg h44, if_neg h45, if_neg h46, if_neg h47, if_neg h48, if_neg h50, if_neg h51, if_neg h52, if_neg h54, if_neg h55, if_neg h56, if_neg h57]
  have h1 : binE op b = 61 := by unfold binE; rw [if_neg (by omega), if_neg (by omega)]
  rw [h0, h1]
  exact b_none_any op a b w (by omega) (by omega) (by omega) (by omega) (by omega) (by omega) (by omega) (by omega) (by omega) (by omega) (by omega) (by omega) (by omega) (by omega) (by omega) (by omega) (by omega)
end Go.Proofs.Ythaipahaaajgoaa
namespace Go.Proofs.Ythaipahaaajgoaa
open Go.RowKit

theorem rsig_any (a : Nat) (w : World) (ha : a < 4294967296) :
    Calls Try.prog 17 #[.int .u32 a] w fun e w' => e = .returned (.int .i64 (sx a)) ∧ w' = w := by
  unfold sx
  by_cases h' : a < 2147483648
  · rw [if_pos h']
    have g1 : decide ((2147483648 : Int) ≤ (a : Int)) = false := decide_eq_false (by omega)
    obtain ⟨x, hx⟩ : ∃ x : Int, x = (a : Int) := ⟨_, rfl⟩
    rw [← hx] at g1 ⊢
    have x0 : 0 ≤ x := by omega
    have x1 : x ≤ 2147483647 := by omega
    clear hx ha h'
    go_enter Try.func17, Try.ntmps17
    go_wp2
    go_ret
    exact ⟨rfl, rfl⟩
  · rw [if_neg h']
    have g1 : decide ((2147483648 : Int) ≤ (a : Int)) = true := decide_eq_true (by omega)
    obtain ⟨x, hx⟩ : ∃ x : Int, x = (a : Int) := ⟨_, rfl⟩
    rw [← hx] at g1 ⊢
    have x0 : 0 ≤ x := by omega
    have x1 : x ≤ 4294967295 := by omega
    have hw : wrap64 (x - 4294967296) = x - 4294967296 := by unfold wrap64; omega
    clear hx ha h'
    go_enter Try.func17, Try.ntmps17
    go_wp2
    go_ret
    exact ⟨rfl, rfl⟩
theorem tmod_cases (z : Int) : z.tmod 4294967296 = z % 4294967296 ∧ 0 ≤ z.tmod 4294967296 ∨ z.tmod 4294967296 = z % 4294967296 - 4294967296 ∧ z.tmod 4294967296 < 0 ∨ z.tmod 4294967296 = 0 ∧ z % 4294967296 = 0 := by
  by_cases h : 0 ≤ z
  · left
    rw [Int.tmod_eq_emod_of_nonneg h]
    exact ⟨rfl, Int.emod_nonneg _ (by decide)⟩
  · have e : z.tmod 4294967296 = -((-z) % 4294967296) := by
      rw [← Int.tmod_eq_emod_of_nonneg (by omega : 0 ≤ -z), Int.neg_tmod, Int.neg_neg]
    rw [e]
    omega
theorem rwrap_any (z : Int) (w : World) : 
    Calls Try.prog 12 #[.int .i64 z] w fun e w' => e = .returned (.int .u32 (z % 4294967296)) ∧ w' = w := by
  have e0 : (0 : Int) ≤ z % 4294967296 := Int.emod_nonneg _ (by decide)
  have e1 : z % 4294967296 < 4294967296 := Int.emod_lt_of_pos _ (by decide)
  have hc := tmod_cases z
  obtain ⟨r, hr⟩ : ∃ r, z % 4294967296 = r := ⟨_, rfl⟩
  obtain ⟨y, hy⟩ : ∃ y, z.tmod 4294967296 = y := ⟨_, rfl⟩
  rw [hr] at e0 e1 hc ⊢
  rw [hy] at hc
  have hn : y < 0 ∧ y + 4294967296 = r ∨ ¬ y < 0 ∧ y = r := by omega
  have hw0 : wrap64 y = y := by unfold wrap64; omega
  rcases hn with ⟨h1, h2⟩ | ⟨h1, h2⟩
  · have hw : wrap64 (y + 4294967296) = r := by unfold wrap64; omega
    have hv : r % 4294967296 = r := by omega
    clear hc hr
    go_enter Try.func12, Try.ntmps12
    go_wp2
    go_ret
    exact ⟨rfl, rfl⟩
  · subst h2
    have hv : y % 4294967296 = y := by omega
    clear hc hr
    go_enter Try.func12, Try.ntmps12
    go_wp2
    go_ret
    exact ⟨rfl, rfl⟩
end Go.Proofs.Ythaipahaaajgoaa
namespace Go.Proofs.Ythaipahaaajgoaa
open Go.RowKit
theorem btw {a W w1 : World} (h : Below W.heap.size W w1) (h' : Below a.heap.size a W) : Below a.heap.size a w1 := h'.trans (h.mono h'.size)
set_option maxRecDepth 100000 in
theorem rpow_any (n : Nat) (w : World) (hn : n ≤ 32) :
    Calls Try.prog 15 #[.int .u32 n] w fun e w' => e = .returned (.int .i64 ((2 ^ n : Nat) : Int)) ∧ w' = w := by
  go_enter Try.func15, Try.ntmps15
  go_wp2
  go_loop [3, 4] (fun p i => ∃ k : Nat, k ≤ n ∧ i = .int .u32 k ∧ p = .int .i64 ((2 ^ k : Nat) : Int)) (fun _ i => n - (intOf i).toNat)
  case atStart => exact ⟨0, by omega, rfl, by simp⟩
  case round =>
    obtain ⟨k, hk, rfl, rfl⟩ := hrel
    by_cases hlt : k < n
    · have hI : (k : Int) < (n : Int) := by omega
      have hp : (2 : Nat) ^ (k + 1) ≤ 4294967296 := Nat.pow_le_pow_right (by decide) (show k + 1 ≤ 32 by omega)
      have hs : (2 : Nat) ^ (k + 1) = 2 ^ k * 2 := Nat.pow_succ ..
      have HS : Hid ((2 : Nat) ^ (k + 1) = 2 ^ k * 2) := hs
      obtain ⟨g, hg⟩ : ∃ g, (2 : Nat) ^ k = g := ⟨_, rfl⟩
      rw [hs, hg] at hp
      have hw : wrap64 ((g : Int) * 2) = (g : Int) * 2 := by unfold wrap64; omega
      have hw2 : IntKind.u32.wrap ((k : Int) + 1) = (k : Int) + 1 := by simp [IntKind.wrap, IntKind.signed, IntKind.bits]; omega
      have HG : Hid ((2 : Nat) ^ k = g) := hg
      rw [hg]
      clear hs hg
      go_wp2
      go_round
      case rel => exact ⟨k + 1, by omega, by go_num, by rw [HS.out, HG.out]; simp⟩
      case measure => simp [intOf]; omega
    · obtain rfl : k = n := by omega
      go_wp2
      go_ret
      exact ⟨rfl, rfl⟩
theorem floor_eq (x p : Int) (hp : 0 < p) : x / p = if x.tmod p < 0 then x.tdiv p - 1 else x.tdiv p := by
  by_cases h : 0 ≤ x
  · rw [Int.tdiv_eq_ediv_of_nonneg h, Int.tmod_eq_emod_of_nonneg h, if_neg (by have := Int.emod_nonneg x (show p ≠ 0 by omega); omega)]
  · have e1 : x.tmod p = -((-x) % p) := by rw [← Int.tmod_eq_emod_of_nonneg (by omega : 0 ≤ -x), Int.neg_tmod, Int.neg_neg]
    have e2 : x.tdiv p = -((-x) / p) := by rw [← Int.tdiv_eq_ediv_of_nonneg (by omega : 0 ≤ -x), Int.neg_tdiv, Int.neg_neg]
    have e3 := Int.mul_ediv_add_emod (-x) p
    have e4 := Int.emod_nonneg (-x) (show p ≠ 0 by omega)
    have e5 := Int.emod_lt_of_pos (-x) hp
    rw [e1, e2]
    generalize hq : (-x) / p = q at *
    generalize hr : (-x) % p = r at *
    by_cases hr0 : r = 0
    · rw [if_neg (by omega)]
      subst hr0
      rw [show x = -(p * q) by omega, Int.neg_ediv_of_dvd ⟨q, rfl⟩, Int.mul_ediv_cancel_left _ (by omega)]
    · rw [if_pos (by omega)]
      rw [show x = (p - r) + p * (-q - 1) by rw [Int.mul_sub, Int.mul_neg]; omega, Int.add_mul_ediv_left _ _ (by omega), Int.ediv_eq_zero_of_lt (by omega) (by omega)]
      omega
theorem rfloor_any (x p : Int) (w : World) (hx1 : -2147483648 ≤ x) (hx2 : x ≤ 2147483647) (hp : 0 < p) :
    Calls Try.prog 16 #[.int .i64 x, .int .i64 p] w fun e w' => e = .returned (.int .i64 (x / p)) ∧ w' = w := by
  rw [floor_eq x p hp]
  have hb : (x.tdiv p).natAbs ≤ x.natAbs := by rw [Int.natAbs_tdiv]; exact Nat.div_le_self _ _
  have hb2 : (x.tmod p).natAbs ≤ x.natAbs := by rw [Int.natAbs_tmod]; exact Nat.mod_le _ _
  have hz : ¬ p = 0 := by omega
  obtain ⟨q, hq⟩ : ∃ q, x.tdiv p = q := ⟨_, rfl⟩
  obtain ⟨r, hr⟩ : ∃ r, x.tmod p = r := ⟨_, rfl⟩
  rw [hq] at hb
  rw [hr] at hb2
  have hw : wrap64 q = q := by unfold wrap64; omega
  have hw1 : wrap64 (q - 1) = q - 1 := by unfold wrap64; omega
  have hw2 : wrap64 r = r := by unfold wrap64; omega
  rw [hq, hr]
  clear hb hb2
  by_cases h : r < 0
  · rw [if_pos h]
    go_enter Try.func16, Try.ntmps16
    go_wp2
    go_ret
    exact ⟨congrArg (fun z => Ending.returned (.int .i64 z)) hw1, rfl⟩
  · rw [if_neg h]
    go_enter Try.func16, Try.ntmps16
    go_wp2
    go_ret
    exact ⟨rfl, rfl⟩
theorem rdiv_zero (op a : Nat) (w : World) :
    Calls Try.prog 13 #[.int .u8 op, .int .u32 a, .int .u32 0] w fun e w' => e = .returned (.tuple #[.int .u32 0, .int .i64 60]) ∧ w' = w := by
  go_enter Try.func13, Try.ntmps13
  go_wp2
  simp [bodyPost, results, Try.results13]
theorem rdivu (a b q : Nat) (w : World) (ha : a < 4294967296) (hb : b < 4294967296) (hz : b ≠ 0) (hq : a / b = q) :
    Calls Try.prog 13 #[.int .u8 43, .int .u32 a, .int .u32 b] w fun e w' => e = .returned (.tuple #[.int .u32 q, .int .i64 0]) ∧ w' = w := by
  have hle := Nat.div_le_self a b
  rw [hq] at hle
  have z1 : ¬ (b : Int) = 0 := by omega
  have e1 : (a : Int).tdiv (b : Int) = (q : Int) := by rw [Int.tdiv_eq_ediv_of_nonneg (by omega), ← hq]; rfl
  have e2 : (a : Int) / (b : Int) = (q : Int) := by rw [← hq]; rfl
  have hw : wrap64 (q : Int) = (q : Int) := by unfold wrap64; omega
  have cw : ∀ w, Calls Try.prog 12 #[.int .i64 q] w fun e w' => e = .returned (.int .u32 q) ∧ w' = w := fun w => by
    have := rwrap_any q w
    rw [show (q : Int) % 4294967296 = (q : Int) by omega] at this
    exact this
  clear hq hle
  go_enter Try.func13, Try.ntmps13
  go_wp2_with (go_at_call 12; with_reducible refine (cw _).mono ?_; rintro e wq ⟨rfl, hq⟩; subst wq)
  simp [bodyPost, results, Try.results13]
theorem rmodu (a b q : Nat) (w : World) (ha : a < 4294967296) (hb : b < 4294967296) (hz : b ≠ 0) (hq : a % b = q) :
    Calls Try.prog 13 #[.int .u8 45, .int .u32 a, .int .u32 b] w fun e w' => e = .returned (.tuple #[.int .u32 q, .int .i64 0]) ∧ w' = w := by
  have hle := Nat.mod_le a b
  rw [hq] at hle
  have z1 : ¬ (b : Int) = 0 := by omega
  have e1 : (a : Int).tmod (b : Int) = (q : Int) := by rw [Int.tmod_eq_emod_of_nonneg (by omega), ← hq]; rfl
  have e2 : (a : Int) % (b : Int) = (q : Int) := by rw [← hq]; rfl
  have hw : wrap64 (q : Int) = (q : Int) := by unfold wrap64; omega
  have cw : ∀ w, Calls Try.prog 12 #[.int .i64 q] w fun e w' => e = .returned (.int .u32 q) ∧ w' = w := fun w => by
    have := rwrap_any q w
    rw [show (q : Int) % 4294967296 = (q : Int) by omega] at this
    exact this
  clear hq hle
  go_enter Try.func13, Try.ntmps13
  go_wp2_with (go_at_call 12; with_reducible refine (cw _).mono ?_; rintro e wq ⟨rfl, hq⟩; subst wq)
  simp [bodyPost, results, Try.results13]
theorem rdivi (a b : Nat) (x y q : Int) (Q : Nat) (w : World) (hy : y ≠ 0) (hq : x.tdiv y = q) (hQ : q % 4294967296 = (Q : Int)) (hx1 : -2147483648 ≤ x) (hx2 : x ≤ 2147483647) (hb : ¬ (b : Int) = 0)
    (s0 : ∀ w, Calls Try.prog 17 #[.int .u32 a] w fun e w' => e = .returned (.int .i64 x) ∧ w' = w) (s1 : ∀ w, Calls Try.prog 17 #[.int .u32 b] w fun e w' => e = .returned (.int .i64 y) ∧ w' = w) :
    Calls Try.prog 13 #[.int .u8 42, .int .u32 a, .int .u32 b] w fun e w' => e = .returned (.tuple #[.int .u32 Q, .int .i64 0]) ∧ w' = w := by
  have hle : q.natAbs ≤ x.natAbs := by rw [← hq, Int.natAbs_tdiv]; exact Nat.div_le_self _ _
  have hw : wrap64 q = q := by unfold wrap64; omega
  have cw : ∀ w, Calls Try.prog 12 #[.int .i64 q] w fun e w' => e = .returned (.int .u32 Q) ∧ w' = w := fun w => by
    have := rwrap_any q w
    rw [hQ] at this
    exact this
  clear hle hQ
  go_enter Try.func13, Try.ntmps13
  go_wp2_with (first
    | (go_at_call 17; with_reducible refine (s0 _).mono ?_; rintro e wq ⟨rfl, hq⟩; subst wq)
    | (go_at_call 17; with_reducible refine (s1 _).mono ?_; rintro e wq ⟨rfl, hq⟩; subst wq)
    | (go_at_call 12; with_reducible refine (cw _).mono ?_; rintro e wq ⟨rfl, hq⟩; subst wq))
  simp [bodyPost, results, Try.results13]
theorem rmodi (a b : Nat) (x y q m r : Int) (R : Nat) (w : World) (hy : y ≠ 0) (hq : x.tdiv y = q) (hm : q * y = m) (hr : x - m = r) (hR : r % 4294967296 = (R : Int)) (hx1 : -2147483648 ≤ x) (hx2 : x ≤ 2147483647) (hr' : x.tmod y = r) (hb : ¬ (b : Int) = 0)
    (s0 : ∀ w, Calls Try.prog 17 #[.int .u32 a] w fun e w' => e = .returned (.int .i64 x) ∧ w' = w) (s1 : ∀ w, Calls Try.prog 17 #[.int .u32 b] w fun e w' => e = .returned (.int .i64 y) ∧ w' = w) :
    Calls Try.prog 13 #[.int .u8 44, .int .u32 a, .int .u32 b] w fun e w' => e = .returned (.tuple #[.int .u32 R, .int .i64 0]) ∧ w' = w := by
  have hle : q.natAbs ≤ x.natAbs := by rw [← hq, Int.natAbs_tdiv]; exact Nat.div_le_self _ _
  have hle2 : r.natAbs ≤ x.natAbs := by rw [← hr', Int.natAbs_tmod]; exact Nat.mod_le _ _
  have hw : wrap64 q = q := by unfold wrap64; omega
  have hw1 : wrap64 m = m := by unfold wrap64; omega
  have hw2 : wrap64 r = r := by unfold wrap64; omega
  have cw : ∀ w, Calls Try.prog 12 #[.int .i64 r] w fun e w' => e = .returned (.int .u32 R) ∧ w' = w := fun w => by
    have := rwrap_any r w
    rw [hR] at this
    exact this
  clear hle hle2 hR hr'
  go_enter Try.func13, Try.ntmps13
  go_wp2_with (first
    | (go_at_call 17; with_reducible refine (s0 _).mono ?_; rintro e wq ⟨rfl, hq⟩; subst wq)
    | (go_at_call 17; with_reducible refine (s1 _).mono ?_; rintro e wq ⟨rfl, hq⟩; subst wq)
    | (go_at_call 12; with_reducible refine (cw _).mono ?_; rintro e wq ⟨rfl, hq⟩; subst wq))
  simp [bodyPost, results, Try.results13]
theorem rdiv_any (op a b : Nat) (w : World) (ho : op = 42 ∨ op = 43 ∨ op = 44 ∨ op = 45) (ha : a < 4294967296) (hb : b < 4294967296) :
    Calls Try.prog 13 #[.int .u8 op, .int .u32 a, .int .u32 b] w fun e w' => e = .returned (.tuple #[.int .u32 (binV op a b), .int .i64 (binE op b)]) ∧ w' = w := by
  by_cases hz : b = 0
  · subst hz
    have e1 : binV op a 0 = 0 := by rcases ho with rfl | rfl | rfl | rfl <;> simp [binV_42, binV_43, binV_44, binV_45]
    have e2 : binE op 0 = 60 := by unfold binE; rw [if_pos ho, if_pos rfl]
    rw [e1, e2]
    exact rdiv_zero op a w
  have e2 : binE op b = 0 := by unfold binE; rw [if_pos ho, if_neg hz]
  rw [e2]
  have s0 := fun w => rsig_any a w ha
  have s1 := fun w => rsig_any b w hb
  have ra := sx_range ha
  have hy : sx b ≠ 0 := by rw [Ne, sx_zero hb]; exact hz
  have hr : sx a - (sx a).tdiv (sx b) * sx b = (sx a).tmod (sx b) := by
    have := Int.tdiv_mul_add_tmod (sx a) (sx b)
    omega
  rcases ho with rfl | rfl | rfl | rfl
  · rw [binV_42, if_neg hz]
    exact rdivi a b _ _ _ _ w hy rfl nat_of.symm ra.1 ra.2 (by omega) s0 s1
  · rw [binV_43, if_neg hz]
    exact rdivu a b _ w ha hb hz rfl
  · rw [binV_44, if_neg hz]
    exact rmodi a b _ _ _ _ _ _ w hy rfl rfl hr nat_of.symm ra.1 ra.2 rfl (by omega) s0 s1
  · rw [binV_45, if_neg hz]
    exact rmodu a b _ w ha hb hz rfl
end Go.Proofs.Ythaipahaaajgoaa
namespace Go.Proofs.Ythaipahaaajgoaa
open Go.RowKit
theorem bit_at (a b k : Nat) : (a &&& b) / 2 ^ k % 2 = (a / 2 ^ k % 2) &&& (b / 2 ^ k % 2) ∧ (a ||| b) / 2 ^ k % 2 = (a / 2 ^ k % 2) ||| (b / 2 ^ k % 2) ∧ (a ^^^ b) / 2 ^ k % 2 = (a / 2 ^ k % 2) ^^^ (b / 2 ^ k % 2) := by
  have h := fun x : Nat => Nat.shiftRight_eq_div_pow x k
  rw [← h, ← h, ← h, ← h, ← h, Nat.shiftRight_and_distrib, Nat.shiftRight_or_distrib, Nat.shiftRight_xor_distrib]
  exact ⟨Nat.and_mod_two_pow (n := 1), Nat.or_mod_two_pow (n := 1), Nat.xor_mod_two_pow (n := 1)⟩
theorem mod_bit (V k : Nat) : V % 2 ^ (k + 1) = V % 2 ^ k + 2 ^ k * (V / 2 ^ k % 2) := by rw [Nat.pow_succ, Nat.mod_mul]
theorem bit_cases (a k : Nat) : a / 2 ^ k % 2 = 0 ∨ a / 2 ^ k % 2 = 1 := by omega
set_option maxRecDepth 100000 in
set_option maxHeartbeats 2000000 in
theorem rbits_and (a b : Nat) (w : World) (ha : a < 4294967296) (hb : b < 4294967296) :
    Calls Try.prog 14 #[.int .u8 46, .int .u32 a, .int .u32 b] w fun e w' => e = .returned (.int .u32 ((a &&& b : Nat) : Int)) ∧ Below w.heap.size w w' := by
  have hV : a &&& b < 2 ^ 32 := Nat.and_lt_two_pow a (n := 32) hb
  have HV : Hid (∀ k, (a &&& b) / 2 ^ k % 2 = (a / 2 ^ k % 2) &&& (b / 2 ^ k % 2)) := fun k => (bit_at a b k).1
  obtain ⟨V, hVe⟩ : ∃ V, a &&& b = V := ⟨_, rfl⟩
  rw [hVe] at hV HV ⊢
  clear hVe
  go_enter Try.func14, Try.ntmps14
  go_wp2
  go_loopw [7, 8, 9, 10, 11] (fun out i _ _ _ wr => ∃ k : Nat, k ≤ 32 ∧ i = .int .u32 k ∧ out = .int .i64 ((V % 2 ^ k : Nat) : Int) ∧ Below w.heap.size w wr) (fun _ i _ _ _ _ => 32 - (intOf i).toNat)
  case atStart => exact ⟨0, by omega, rfl, by simp [Nat.mod_one], Below.refl _ _⟩
  case round =>
    obtain ⟨k, hk, rfl, rfl, hb0⟩ := hrel
    rename World => wr
    by_cases hlt : k < 32
    · have hI : (k : Int) < 32 := by omega
      have cp := fun w => rpow_any k w (by omega)
      have HS : Hid (V % 2 ^ (k + 1) = V % 2 ^ k + 2 ^ k * (V / 2 ^ k % 2)) := mod_bit V k
      have HW := HV.out k
      have ca := bit_cases a k
      have cb := bit_cases b k
      have hp : (2 : Nat) ^ k ≤ 2147483648 := Nat.pow_le_pow_right (by decide) (show k ≤ 31 by omega)
      have hm : V % 2 ^ k < 2 ^ k := Nat.mod_lt _ (Nat.two_pow_pos k)
      have hp0 := Nat.two_pow_pos k
      have la := Nat.div_le_self a (2 ^ k)
      have lb := Nat.div_le_self b (2 ^ k)
      have q1 : (a : Int) / ((2 ^ k : Nat) : Int) = ((a / 2 ^ k : Nat) : Int) := rfl
      have q2 : (b : Int) / ((2 ^ k : Nat) : Int) = ((b / 2 ^ k : Nat) : Int) := rfl
      have q3 : (a : Int).tdiv ((2 ^ k : Nat) : Int) = ((a / 2 ^ k : Nat) : Int) := rfl
      have q4 : (b : Int).tdiv ((2 ^ k : Nat) : Int) = ((b / 2 ^ k : Nat) : Int) := rfl
      generalize V / 2 ^ k % 2 = vb at *
      generalize V % 2 ^ k = O at *
      generalize a / 2 ^ k = x at *
      generalize b / 2 ^ k = y at *
      have g1 : ((x : Int) % 2) = ((x % 2 : Nat) : Int) := rfl
      have g2 : ((y : Int) % 2) = ((y % 2 : Nat) : Int) := rfl
      have g3 : ((x : Int).tmod 2) = ((x % 2 : Nat) : Int) := rfl
      have g4 : ((y : Int).tmod 2) = ((y % 2 : Nat) : Int) := rfl
      generalize x % 2 = xb at *
      generalize y % 2 = yb at *
      have HG : Hid (∀ g, (2 : Nat) ^ k = g → V % 2 ^ (k + 1) = O + g * vb) := fun g e => by rw [HS.out, e]
      obtain ⟨g, hg⟩ : ∃ g, (2 : Nat) ^ k = g := ⟨_, rfl⟩
      have HE : Hid ((2 : Nat) ^ k = g) := hg
      rw [hg] at hp hm hp0 q1 q2 q3 q4 cp
      clear hg HS
      have z1 : ¬ (g : Int) = 0 := by omega
      have z2 : ¬ g = 0 := by omega
      have w1 : wrap64 (x : Int) = (x : Int) := by unfold wrap64; omega
      have w2 : wrap64 (y : Int) = (y : Int) := by unfold wrap64; omega
      have w3 : wrap64 ((O : Int) + (g : Int)) = (O : Int) + (g : Int) := by unfold wrap64; omega
      have w4 : IntKind.u32.wrap ((k : Int) + 1) = (k : Int) + 1 := by simp [IntKind.wrap, IntKind.signed, IntKind.bits]; omega
      have HX : Hid (vb = xb &&& yb) := HW
      clear HW hp hm hp0 la lb
      rcases ca with rfl | rfl <;> rcases cb with rfl | rfl
      all_goals (go_wp2_with (go_at_call 15; with_reducible refine (cp _).mono ?_; rintro e wq ⟨rfl, hq⟩; subst wq))
      all_goals (go_roundw
                 case rel => exact ⟨k + 1, by omega, by go_num, by first | (rw [HG.out g HE.out, HX.out]; simp; done) | (rw [w3, HG.out g HE.out, HX.out]; simp; done), hb0⟩
                 case measure => simp [intOf]; omega)
    · obtain rfl : k = 32 := by omega
      rw [Nat.mod_eq_of_lt hV]
      have hv : (V : Int) % 4294967296 = (V : Int) := by omega
      go_wp2
      go_ret
      exact ⟨rfl, hb0⟩
set_option maxRecDepth 100000 in
set_option maxHeartbeats 2000000 in
theorem rbits_or (a b : Nat) (w : World) (ha : a < 4294967296) (hb : b < 4294967296) :
    Calls Try.prog 14 #[.int .u8 47, .int .u32 a, .int .u32 b] w fun e w' => e = .returned (.int .u32 ((a ||| b : Nat) : Int)) ∧ Below w.heap.size w w' := by
  have hV : a ||| b < 2 ^ 32 := Nat.or_lt_two_pow (n := 32) ha hb
  have HV : Hid (∀ k, (a ||| b) / 2 ^ k % 2 = (a / 2 ^ k % 2) ||| (b / 2 ^ k % 2)) := fun k => (bit_at a b k).2.1
  obtain ⟨V, hVe⟩ : ∃ V, a ||| b = V := ⟨_, rfl⟩
  rw [hVe] at hV HV ⊢
  clear hVe
  go_enter Try.func14, Try.ntmps14
  go_wp2
  go_loopw [7, 8, 9, 10, 11] (fun out i _ _ _ wr => ∃ k : Nat, k ≤ 32 ∧ i = .int .u32 k ∧ out = .int .i64 ((V % 2 ^ k : Nat) : Int) ∧ Below w.heap.size w wr) (fun _ i _ _ _ _ => 32 - (intOf i).toNat)
  case atStart => exact ⟨0, by omega, rfl, by simp [Nat.mod_one], Below.refl _ _⟩
  case round =>
    obtain ⟨k, hk, rfl, rfl, hb0⟩ := hrel
    rename World => wr
    by_cases hlt : k < 32
    · have hI : (k : Int) < 32 := by omega
      have cp := fun w => rpow_any k w (by omega)
      have HS : Hid (V % 2 ^ (k + 1) = V % 2 ^ k + 2 ^ k * (V / 2 ^ k % 2)) := mod_bit V k
      have HW := HV.out k
      have ca := bit_cases a k
      have cb := bit_cases b k
      have hp : (2 : Nat) ^ k ≤ 2147483648 := Nat.pow_le_pow_right (by decide) (show k ≤ 31 by omega)
      have hm : V % 2 ^ k < 2 ^ k := Nat.mod_lt _ (Nat.two_pow_pos k)
      have hp0 := Nat.two_pow_pos k
      have la := Nat.div_le_self a (2 ^ k)
      have lb := Nat.div_le_self b (2 ^ k)
      have q1 : (a : Int) / ((2 ^ k : Nat) : Int) = ((a / 2 ^ k : Nat) : Int) := rfl
      have q2 : (b : Int) / ((2 ^ k : Nat) : Int) = ((b / 2 ^ k : Nat) : Int) := rfl
      have q3 : (a : Int).tdiv ((2 ^ k : Nat) : Int) = ((a / 2 ^ k : Nat) : Int) := rfl
      have q4 : (b : Int).tdiv ((2 ^ k : Nat) : Int) = ((b / 2 ^ k : Nat) : Int) := rfl
      generalize V / 2 ^ k % 2 = vb at *
      generalize V % 2 ^ k = O at *
      generalize a / 2 ^ k = x at *
      generalize b / 2 ^ k = y at *
      have g1 : ((x : Int) % 2) = ((x % 2 : Nat) : Int) := rfl
      have g2 : ((y : Int) % 2) = ((y % 2 : Nat) : Int) := rfl
      have g3 : ((x : Int).tmod 2) = ((x % 2 : Nat) : Int) := rfl
      have g4 : ((y : Int).tmod 2) = ((y % 2 : Nat) : Int) := rfl
      generalize x % 2 = xb at *
      generalize y % 2 = yb at *
      have HG : Hid (∀ g, (2 : Nat) ^ k = g → V % 2 ^ (k + 1) = O + g * vb) := fun g e => by rw [HS.out, e]
      obtain ⟨g, hg⟩ : ∃ g, (2 : Nat) ^ k = g := ⟨_, rfl⟩
      have HE : Hid ((2 : Nat) ^ k = g) := hg
      rw [hg] at hp hm hp0 q1 q2 q3 q4 cp
      clear hg HS
      have z1 : ¬ (g : Int) = 0 := by omega
      have z2 : ¬ g = 0 := by omega
      have w1 : wrap64 (x : Int) = (x : Int) := by unfold wrap64; omega
      have w2 : wrap64 (y : Int) = (y : Int) := by unfold wrap64; omega
      have w3 : wrap64 ((O : Int) + (g : Int)) = (O : Int) + (g : Int) := by unfold wrap64; omega
      have w4 : IntKind.u32.wrap ((k : Int) + 1) = (k : Int) + 1 := by simp [IntKind.wrap, IntKind.signed, IntKind.bits]; omega
      have HX : Hid (vb = xb ||| yb) := HW
      clear HW hp hm hp0 la lb
      rcases ca with rfl | rfl <;> rcases cb with rfl | rfl
      all_goals (go_wp2_with (go_at_call 15; with_reducible refine (cp _).mono ?_; rintro e wq ⟨rfl, hq⟩; subst wq))
      all_goals (go_roundw
                 case rel => exact ⟨k + 1, by omega, by go_num, by first | (rw [HG.out g HE.out, HX.out]; simp; done) | (rw [w3, HG.out g HE.out, HX.out]; simp; done), hb0⟩
                 case measure => simp [intOf]; omega)
    · obtain rfl : k = 32 := by omega
      rw [Nat.mod_eq_of_lt hV]
      have hv : (V : Int) % 4294967296 = (V : Int) := by omega
      go_wp2
      go_ret
      exact ⟨rfl, hb0⟩
set_option maxRecDepth 100000 in
set_option maxHeartbeats 2000000 in
theorem rbits_xor (a b : Nat) (w : World) (ha : a < 4294967296) (hb : b < 4294967296) :
    Calls Try.prog 14 #[.int .u8 48, .int .u32 a, .int .u32 b] w fun e w' => e = .returned (.int .u32 ((a ^^^ b : Nat) : Int)) ∧ Below w.heap.size w w' := by
  have hV : a ^^^ b < 2 ^ 32 := Nat.xor_lt_two_pow (n := 32) ha hb
  have HV : Hid (∀ k, (a ^^^ b) / 2 ^ k % 2 = (a / 2 ^ k % 2) ^^^ (b / 2 ^ k % 2)) := fun k => (bit_at a b k).2.2
  obtain ⟨V, hVe⟩ : ∃ V, a ^^^ b = V := ⟨_, rfl⟩
  rw [hVe] at hV HV ⊢
  clear hVe
  go_enter Try.func14, Try.ntmps14
  go_wp2
  go_loopw [7, 8, 9, 10, 11] (fun out i _ _ _ wr => ∃ k : Nat, k ≤ 32 ∧ i = .int .u32 k ∧ out = .int .i64 ((V % 2 ^ k : Nat) : Int) ∧ Below w.heap.size w wr) (fun _ i _ _ _ _ => 32 - (intOf i).toNat)
  case atStart => exact ⟨0, by omega, rfl, by simp [Nat.mod_one], Below.refl _ _⟩
  case round =>
    obtain ⟨k, hk, rfl, rfl, hb0⟩ := hrel
    rename World => wr
    by_cases hlt : k < 32
    · have hI : (k : Int) < 32 := by omega
      have cp := fun w => rpow_any k w (by omega)
      have HS : Hid (V % 2 ^ (k + 1) = V % 2 ^ k + 2 ^ k * (V / 2 ^ k % 2)) := mod_bit V k
      have HW := HV.out k
      have ca := bit_cases a k
      have cb := bit_cases b k
      have hp : (2 : Nat) ^ k ≤ 2147483648 := Nat.pow_le_pow_right (by decide) (show k ≤ 31 by omega)
      have hm : V % 2 ^ k < 2 ^ k := Nat.mod_lt _ (Nat.two_pow_pos k)
      have hp0 := Nat.two_pow_pos k
      have la := Nat.div_le_self a (2 ^ k)
      have lb := Nat.div_le_self b (2 ^ k)
      have q1 : (a : Int) / ((2 ^ k : Nat) : Int) = ((a / 2 ^ k : Nat) : Int) := rfl
      have q2 : (b : Int) / ((2 ^ k : Nat) : Int) = ((b / 2 ^ k : Nat) : Int) := rfl
      have q3 : (a : Int).tdiv ((2 ^ k : Nat) : Int) = ((a / 2 ^ k : Nat) : Int) := rfl
      have q4 : (b : Int).tdiv ((2 ^ k : Nat) : Int) = ((b / 2 ^ k : Nat) : Int) := rfl
      generalize V / 2 ^ k % 2 = vb at *
      generalize V % 2 ^ k = O at *
      generalize a / 2 ^ k = x at *
      generalize b / 2 ^ k = y at *
      have g1 : ((x : Int) % 2) = ((x % 2 : Nat) : Int) := rfl
      have g2 : ((y : Int) % 2) = ((y % 2 : Nat) : Int) := rfl
      have g3 : ((x : Int).tmod 2) = ((x % 2 : Nat) : Int) := rfl
      have g4 : ((y : Int).tmod 2) = ((y % 2 : Nat) : Int) := rfl
      generalize x % 2 = xb at *
      generalize y % 2 = yb at *
      have HG : Hid (∀ g, (2 : Nat) ^ k = g → V % 2 ^ (k + 1) = O + g * vb) := fun g e => by rw [HS.out, e]
      obtain ⟨g, hg⟩ : ∃ g, (2 : Nat) ^ k = g := ⟨_, rfl⟩
      have HE : Hid ((2 : Nat) ^ k = g) := hg
      rw [hg] at hp hm hp0 q1 q2 q3 q4 cp
      clear hg HS
      have z1 : ¬ (g : Int) = 0 := by omega
      have z2 : ¬ g = 0 := by omega
      have w1 : wrap64 (x : Int) = (x : Int) := by unfold wrap64; omega
      have w2 : wrap64 (y : Int) = (y : Int) := by unfold wrap64; omega
      have w3 : wrap64 ((O : Int) + (g : Int)) = (O : Int) + (g : Int) := by unfold wrap64; omega
      have w4 : IntKind.u32.wrap ((k : Int) + 1) = (k : Int) + 1 := by simp [IntKind.wrap, IntKind.signed, IntKind.bits]; omega
      have HX : Hid (vb = xb ^^^ yb) := HW
      clear HW hp hm hp0 la lb
      rcases ca with rfl | rfl <;> rcases cb with rfl | rfl
      all_goals (go_wp2_with (go_at_call 15; with_reducible refine (cp _).mono ?_; rintro e wq ⟨rfl, hq⟩; subst wq))
      all_goals (go_roundw
                 case rel => exact ⟨k + 1, by omega, by go_num, by first | (rw [HG.out g HE.out, HX.out]; simp; done) | (rw [w3, HG.out g HE.out, HX.out]; simp; done), hb0⟩
                 case measure => simp [intOf]; omega)
    · obtain rfl : k = 32 := by omega
      rw [Nat.mod_eq_of_lt hV]
      have hv : (V : Int) % 4294967296 = (V : Int) := by omega
      go_wp2
      go_ret
      exact ⟨rfl, hb0⟩
end Go.Proofs.Ythaipahaaajgoaa
namespace Go.Proofs.Ythaipahaaajgoaa
open Go.RowKit
theorem mul_parts (a b : Nat) : (a * (b % 65536) % 4294967296 + a * (b / 65536) % 4294967296 * 65536) % 4294967296 = a * b % 4294967296 := by
  have e : a * b = a * (b % 65536) + a * (b / 65536) * 65536 := by
    rw [Nat.mul_assoc, ← Nat.mul_add, Nat.mul_comm (b / 65536) 65536, Nat.mod_add_div]
  rw [e]
  generalize a * (b % 65536) = X
  generalize a * (b / 65536) = Y
  omega
theorem w64 {z : Int} (h1 : -9223372036854775808 ≤ z) (h2 : z ≤ 9223372036854775807) : wrap64 z = z := by unfold wrap64; omega
theorem w64n {n : Nat} (h : n ≤ 9223372036854775807) : wrap64 (n : Int) = (n : Int) := w64 (by omega) (by omega)
theorem mul_fits (L l h : Nat) (hl : L % 4294967296 = l) (hh : h < 4294967296) : wrap64 ((h : Int) * 65536) = (h : Int) * 65536 ∧ wrap64 ((l : Int) + (h : Int) * 65536) = (l : Int) + (h : Int) * 65536 ∧ (L : Int) % 4294967296 = (l : Int) ∧ (L : Int).tmod 4294967296 = (l : Int) ∧ l < 4294967296 := by
  have : l < 4294967296 := by omega
  refine ⟨w64 (by omega) (by omega), w64 (by omega) (by omega), by omega, ?_, this⟩
  rw [Int.tmod_eq_emod_of_nonneg (by omega)]; omega
theorem wrap_sum (l h x : Nat) (E : (l + h * 65536) % 4294967296 = x) : ((l : Int) + (h : Int) * 65536) % 4294967296 = (x : Int) := by omega
set_option maxRecDepth 100000 in
set_option maxHeartbeats 4000000 in
theorem rb_mul (a b : Nat) (w : World) (ha : a < 4294967296) (hb : b < 4294967296) :
    Calls Try.prog 5 #[.int .u8 41, .int .u32 a, .int .u32 b] w fun e w' => e = .returned (.tuple #[.int .u32 ((a * b % 4294967296 : Nat) : Int), .int .i64 0]) ∧ Below w.heap.size w w' := by
  obtain ⟨bl, hbl⟩ : ∃ x, b % 65536 = x := ⟨_, rfl⟩
  obtain ⟨bh, hbh⟩ : ∃ x, b / 65536 = x := ⟨_, rfl⟩
  have b1 : bl ≤ 65535 := by omega
  have b2 : bh ≤ 65535 := by omega
  have a1 : a ≤ 4294967295 := Nat.le_of_lt_succ ha
  have f1 : (b : Int) % 65536 = (bl : Int) := by rw [← hbl]; rfl
  have f2 : (b : Int) / 65536 = (bh : Int) := by rw [← hbh]; rfl
  obtain ⟨L, hL⟩ : ∃ x, a * bl = x := ⟨_, rfl⟩
  obtain ⟨P, hP⟩ : ∃ x, a * bh = x := ⟨_, rfl⟩
  obtain ⟨l, hl⟩ : ∃ x, L % 4294967296 = x := ⟨_, rfl⟩
  obtain ⟨h, hh⟩ : ∃ x, P % 4294967296 = x := ⟨_, rfl⟩
  have LB : L ≤ 4294967295 * 65535 := by rw [← hL]; exact Nat.mul_le_mul a1 b1
  have PB : P ≤ 4294967295 * 65535 := by rw [← hP]; exact Nat.mul_le_mul a1 b2
  have E : (l + h * 65536) % 4294967296 = a * b % 4294967296 := by
    have := mul_parts a b
    rw [hbl, hbh, hL, hP, hl, hh] at this
    exact this
  generalize a * b % 4294967296 = V at *
  have f3 : (a : Int) * (bl : Int) = (L : Int) := by rw [← hL]; simp
  have f4 : (a : Int) * (bh : Int) = (P : Int) := by rw [← hP]; simp
  have wa : wrap64 (a : Int) = (a : Int) := w64n (Nat.le_trans a1 (by decide))
  have wl : wrap64 (bl : Int) = (bl : Int) := w64n (Nat.le_trans b1 (by decide))
  have wh : wrap64 (bh : Int) = (bh : Int) := w64n (Nat.le_trans b2 (by decide))
  have f5 : wrap64 (L : Int) = (L : Int) := w64n (Nat.le_trans LB (by decide))
  have f6 : wrap64 (P : Int) = (P : Int) := w64n (Nat.le_trans PB (by decide))
  have lh : h < 4294967296 := by rw [← hh]; exact Nat.mod_lt _ (by decide)
  obtain ⟨f9, g9, f7, f7', ll⟩ := mul_fits L l h hl lh
  obtain ⟨_, _, f8, f8', _⟩ := mul_fits P h l hh ll
  have g1 : wrap64 (l : Int) = (l : Int) := w64n (Nat.le_trans (Nat.le_of_lt ll) (by decide))
  have g2 : wrap64 (h : Int) = (h : Int) := w64n (Nat.le_trans (Nat.le_of_lt lh) (by decide))
  have bm : (bh : Int) % 4294967296 = (bh : Int) := by
    show ((bh % 4294967296 : Nat) : Int) = (bh : Int)
    rw [Nat.mod_eq_of_lt (Nat.lt_of_le_of_lt b2 (by decide))]
  have EX : wrap64 ((wrap64 (wrap64 (a : Int) * (bl : Int))).tmod 4294967296 + wrap64 ((wrap64 (wrap64 (a : Int) * ((bh : Int) % 4294967296))).tmod 4294967296 * 65536)) = (l : Int) + (h : Int) * 65536 := by
    rw [wa, f3, f5, f7', bm, f4, f6, f8', f9, g9]
  have cw : ∀ w, Calls Try.prog 12 #[.int .i64 (wrap64 ((wrap64 (wrap64 (a : Int) * (bl : Int))).tmod 4294967296 + wrap64 ((wrap64 (wrap64 (a : Int) * ((bh : Int) % 4294967296))).tmod 4294967296 * 65536)))] w fun e w' => e = .returned (.int .u32 (V : Int)) ∧ w' = w := fun w => by
    rw [EX]
    have := rwrap_any ((l : Int) + (h : Int) * 65536) w
    rw [wrap_sum l h V E] at this
    exact this
  clear EX bm f3 f4 wa wl wh f5 f6 f9 g9 f7 f7' f8 f8' g1 g2 E hbl hbh hL hP hl hh LB PB b1 b2 a1 ll lh ha hb
  have HB : Below w.heap.size w w := Below.refl _ _
  go_enter Try.func5, Try.ntmps5
  go_wp2_with (first
    | (go_at_call 12; with_reducible refine (cw _).mono ?_; rintro e wq ⟨rfl, hq⟩; subst wq))
  all_goals simp [bodyPost, results, Try.results5]
  all_goals (repeat (first | exact HB | with_reducible refine Below.drew ?_))
end Go.Proofs.Ythaipahaaajgoaa
namespace Go.Proofs.Ythaipahaaajgoaa
open Go.RowKit
set_option maxRecDepth 100000 in
set_option maxHeartbeats 4000000 in
theorem rb_add (a b : Nat) (w : World) (ha : a < 4294967296) (hb : b < 4294967296) :
    Calls Try.prog 5 #[.int .u8 39, .int .u32 a, .int .u32 b] w fun e w' => e = .returned (.tuple #[.int .u32 (((a + b) % 4294967296 : Nat) : Int), .int .i64 0]) ∧ Below w.heap.size w w' := by
  have hw : wrap64 ((a : Int) + (b : Int)) = (a : Int) + (b : Int) := by unfold wrap64; omega
  have cw : ∀ w, Calls Try.prog 12 #[.int .i64 ((a : Int) + (b : Int))] w fun e w' => e = .returned (.int .u32 (((a + b) % 4294967296 : Nat) : Int)) ∧ w' = w := fun w => by
    have := rwrap_any ((a : Int) + (b : Int)) w
    rw [show ((a : Int) + (b : Int)) % 4294967296 = (((a + b) % 4294967296 : Nat) : Int) from by omega] at this
    exact this
  have HB : Below w.heap.size w w := Below.refl _ _
  go_enter Try.func5, Try.ntmps5
  go_wp2_with (first
    | (go_at_call 12; with_reducible refine (cw _).mono ?_; rintro e wq ⟨rfl, hq⟩; subst wq))
  all_goals simp [bodyPost, results, Try.results5]
  all_goals (repeat (first | exact HB | with_reducible refine Below.drew ?_))
set_option maxRecDepth 100000 in
set_option maxHeartbeats 4000000 in
theorem rb_sub (a b : Nat) (w : World) (ha : a < 4294967296) (hb : b < 4294967296) :
    Calls Try.prog 5 #[.int .u8 40, .int .u32 a, .int .u32 b] w fun e w' => e = .returned (.tuple #[.int .u32 (((a + 4294967296 - b) % 4294967296 : Nat) : Int), .int .i64 0]) ∧ Below w.heap.size w w' := by
  have hw : wrap64 ((a : Int) - (b : Int)) = (a : Int) - (b : Int) := by unfold wrap64; omega
  have cw : ∀ w, Calls Try.prog 12 #[.int .i64 ((a : Int) - (b : Int))] w fun e w' => e = .returned (.int .u32 (((a + 4294967296 - b) % 4294967296 : Nat) : Int)) ∧ w' = w := fun w => by
    have := rwrap_any ((a : Int) - (b : Int)) w
    rw [show ((a : Int) - (b : Int)) % 4294967296 = (((a + 4294967296 - b) % 4294967296 : Nat) : Int) from by omega] at this
    exact this
  have HB : Below w.heap.size w w := Below.refl _ _
  go_enter Try.func5, Try.ntmps5
  go_wp2_with (first
    | (go_at_call 12; with_reducible refine (cw _).mono ?_; rintro e wq ⟨rfl, hq⟩; subst wq))
  all_goals simp [bodyPost, results, Try.results5]
  all_goals (repeat (first | exact HB | with_reducible refine Below.drew ?_))
theorem rb_div (op a b : Nat) (w : World) (ho : op = 42 ∨ op = 43 ∨ op = 44 ∨ op = 45) (ha : a < 4294967296) (hb : b < 4294967296) :
    Calls Try.prog 5 #[.int .u8 op, .int .u32 a, .int .u32 b] w fun e w' => e = .returned (.tuple #[.int .u32 (binV op a b), .int .i64 (binE op b)]) ∧ Below w.heap.size w w' := by
  have cd := fun w => rdiv_any op a b w ho ha hb
  generalize binV op a b = V at *
  generalize binE op b = E at *
  have HB : Below w.heap.size w w := Below.refl _ _
  rcases ho with rfl | rfl | rfl | rfl
  · have cd' : ∀ w, Calls Try.prog 13 #[.int .u8 42, .int .u32 a, .int .u32 b] w fun e w' => e = .returned (.tuple #[.int .u32 V, .int .i64 E]) ∧ w' = w := cd
    clear cd
    go_enter Try.func5, Try.ntmps5
    go_wp2_with (go_at_call 13; with_reducible refine (cd' _).mono ?_; rintro e wq ⟨rfl, hq⟩; subst wq)
    simp [bodyPost, results, Try.results5]
    exact HB
  · have cd' : ∀ w, Calls Try.prog 13 #[.int .u8 43, .int .u32 a, .int .u32 b] w fun e w' => e = .returned (.tuple #[.int .u32 V, .int .i64 E]) ∧ w' = w := cd
    clear cd
    go_enter Try.func5, Try.ntmps5
    go_wp2_with (go_at_call 13; with_reducible refine (cd' _).mono ?_; rintro e wq ⟨rfl, hq⟩; subst wq)
    simp [bodyPost, results, Try.results5]
    exact HB
  · have cd' : ∀ w, Calls Try.prog 13 #[.int .u8 44, .int .u32 a, .int .u32 b] w fun e w' => e = .returned (.tuple #[.int .u32 V, .int .i64 E]) ∧ w' = w := cd
    clear cd
    go_enter Try.func5, Try.ntmps5
    go_wp2_with (go_at_call 13; with_reducible refine (cd' _).mono ?_; rintro e wq ⟨rfl, hq⟩; subst wq)
    simp [bodyPost, results, Try.results5]
    exact HB
  · have cd' : ∀ w, Calls Try.prog 13 #[.int .u8 45, .int .u32 a, .int .u32 b] w fun e w' => e = .returned (.tuple #[.int .u32 V, .int .i64 E]) ∧ w' = w := cd
    clear cd
    go_enter Try.func5, Try.ntmps5
    go_wp2_with (go_at_call 13; with_reducible refine (cd' _).mono ?_; rintro e wq ⟨rfl, hq⟩; subst wq)
    simp [bodyPost, results, Try.results5]
    exact HB
set_option maxRecDepth 100000 in
set_option maxHeartbeats 4000000 in
theorem rb_and (a b : Nat) (w : World) (ha : a < 4294967296) (hb : b < 4294967296) :
    Calls Try.prog 5 #[.int .u8 46, .int .u32 a, .int .u32 b] w fun e w' => e = .returned (.tuple #[.int .u32 ((a &&& b : Nat) : Int), .int .i64 0]) ∧ Below w.heap.size w w' := by
  have cb := fun w => rbits_and a b w ha hb
  generalize (a &&& b) = V at *
  have HB : Below w.heap.size w w := Below.refl _ _
  go_enter Try.func5, Try.ntmps5
  go_wp2_with (first
    | (go_at_call 14; with_reducible refine (cb _).mono ?_; rintro e wq ⟨rfl, hq⟩; replace HB : Below w.heap.size w wq := btw hq HB))
  all_goals simp [bodyPost, results, Try.results5]
  all_goals (repeat (first | exact HB | with_reducible refine Below.drew ?_))
set_option maxRecDepth 100000 in
set_option maxHeartbeats 4000000 in
theorem rb_or (a b : Nat) (w : World) (ha : a < 4294967296) (hb : b < 4294967296) :
    Calls Try.prog 5 #[.int .u8 47, .int .u32 a, .int .u32 b] w fun e w' => e = .returned (.tuple #[.int .u32 ((a ||| b : Nat) : Int), .int .i64 0]) ∧ Below w.heap.size w w' := by
  have cb := fun w => rbits_or a b w ha hb
  generalize (a ||| b) = V at *
  have HB : Below w.heap.size w w := Below.refl _ _
  go_enter Try.func5, Try.ntmps5
  go_wp2_with (first
    | (go_at_call 14; with_reducible refine (cb _).mono ?_; rintro e wq ⟨rfl, hq⟩; replace HB : Below w.heap.size w wq := btw hq HB))
  all_goals simp [bodyPost, results, Try.results5]
  all_goals (repeat (first | exact HB | with_reducible refine Below.drew ?_))
set_option maxRecDepth 100000 in
set_option maxHeartbeats 4000000 in
theorem rb_xor (a b : Nat) (w : World) (ha : a < 4294967296) (hb : b < 4294967296) :
    Calls Try.prog 5 #[.int .u8 48, .int .u32 a, .int .u32 b] w fun e w' => e = .returned (.tuple #[.int .u32 ((a ^^^ b : Nat) : Int), .int .i64 0]) ∧ Below w.heap.size w w' := by
  have cb := fun w => rbits_xor a b w ha hb
  generalize (a ^^^ b) = V at *
  have HB : Below w.heap.size w w := Below.refl _ _
  go_enter Try.func5, Try.ntmps5
  go_wp2_with (first
    | (go_at_call 14; with_reducible refine (cb _).mono ?_; rintro e wq ⟨rfl, hq⟩; replace HB : Below w.heap.size w wq := btw hq HB))
  all_goals simp [bodyPost, results, Try.results5]
  all_goals (repeat (first | exact HB | with_reducible refine Below.drew ?_))
theorem shl_parts (a s : Nat) (hs : s < 32) : a % 2 ^ (32 - s) * 2 ^ s = a * 2 ^ s % 4294967296 := by
  have e : 4294967296 = 2 ^ (32 - s) * 2 ^ s := by rw [← Nat.pow_add, show 32 - s + s = 32 by omega]
  rw [e, Nat.mul_mod_mul_right]
theorem iw64 {n : Nat} (h : n ≤ 9223372036854775807) : IntKind.i64.wrap (n : Int) = (n : Int) := by rw [IntKind.wrap_i64]; omega
theorem shl_fits (a s u r m v g : Nat) (sl : s < 32) (hu : 32 - s = u) (ha : a < 4294967296) (hr : a % v = r) (hv : 0 < v) (E : r * g = m) (lm : m < 4294967296) :
    IntKind.u32.wrap (32 - (s : Int)) = (u : Int) ∧ (32 - (s : Int)) % 4294967296 = (u : Int) ∧ (a : Int) % (v : Int) = (r : Int) ∧ (a : Int).tmod (v : Int) = (r : Int) ∧ ¬ (v : Int) = 0 ∧ ¬ v = 0 ∧ ((v : Int) == 0) = false ∧ (r : Int) * (g : Int) = (m : Int) ∧ wrap64 (r : Int) = (r : Int) ∧ wrap64 (m : Int) = (m : Int) ∧ (m : Int) % 4294967296 = (m : Int) := by
  have e1 : (32 - (s : Int)) % 4294967296 = (u : Int) := by omega
  have lr := Nat.mod_le a v
  rw [hr] at lr
  refine ⟨?_, e1, by rw [← hr]; rfl, by rw [← hr]; rfl, by omega, by omega, ?_, by rw [← E]; simp, w64n (by omega), w64n (by omega), by omega⟩
  · rw [show IntKind.u32.wrap (32 - (s : Int)) = (32 - (s : Int)) % 4294967296 by simp [IntKind.wrap, IntKind.signed, IntKind.bits]]; exact e1
  · rw [beq_eq_false_iff_ne]; omega
set_option maxRecDepth 100000 in
set_option maxHeartbeats 4000000 in
theorem rb_shl (a b : Nat) (w : World) (ha : a < 4294967296) (hb : b < 4294967296) :
    Calls Try.prog 5 #[.int .u8 50, .int .u32 a, .int .u32 b] w fun e w' => e = .returned (.tuple #[.int .u32 ((a * 2 ^ (b % 32) % 4294967296 : Nat) : Int), .int .i64 0]) ∧ Below w.heap.size w w' := by
  obtain ⟨s, hs⟩ : ∃ s, b % 32 = s := ⟨_, rfl⟩
  have sl : s < 32 := by omega
  rw [hs]
  have f1 : (b : Int) % 32 = (s : Int) := by omega
  have f1' : (b : Int).tmod 32 = (s : Int) := by rw [Int.tmod_eq_emod_of_nonneg (by omega)]; exact f1
  have cp := fun w => rpow_any s w (by omega)
  have gp : (2 : Nat) ^ s ≤ 2147483648 := Nat.pow_le_pow_right (by decide) (show s ≤ 31 by omega)
  have g0 := Nat.two_pow_pos s
  obtain ⟨u, hu⟩ : ∃ u, 32 - s = u := ⟨_, rfl⟩
  have cr := fun w => rpow_any u w (by omega)
  have E := shl_parts a s sl
  have gu := Nat.two_pow_pos u
  rw [hu] at E
  have lm : a * 2 ^ s % 4294967296 < 4294967296 := Nat.mod_lt _ (by decide)
  generalize a * 2 ^ s % 4294967296 = m at *
  generalize (2 : Nat) ^ s = g at *
  generalize (2 : Nat) ^ u = v at *
  obtain ⟨r, hr⟩ : ∃ r, a % v = r := ⟨_, rfl⟩
  rw [hr] at E
  obtain ⟨f2, f2', f3, f3', z1, z2, z3, f4, f5, f6, f7⟩ := shl_fits a s u r m v g sl hu ha hr gu E lm
  have k1 : IntKind.i64.wrap (a : Int) = (a : Int) := iw64 (Nat.le_trans (Nat.le_of_lt ha) (by decide))
  have k2 : IntKind.i64.wrap (m : Int) = (m : Int) := iw64 (Nat.le_trans (Nat.le_of_lt lm) (by decide))
  clear E hr hs hu gp g0 gu
  have cw : ∀ w, Calls Try.prog 12 #[.int .i64 (m : Int)] w fun e w' => e = .returned (.int .u32 ((m : Nat) : Int)) ∧ w' = w := fun w => by
    have := rwrap_any (m : Int) w
    rw [show (m : Int) % 4294967296 = ((m : Nat) : Int) from f7] at this
    exact this
  clear f7 lm
  have HB : Below w.heap.size w w := Below.refl _ _
  go_enter Try.func5, Try.ntmps5
  go_wp2_with (first
    | (go_at_call 15; with_reducible refine (cp _).mono ?_; rintro e wq ⟨rfl, hq⟩; subst wq)
    | (go_at_call 15; with_reducible refine (cr _).mono ?_; rintro e wq ⟨rfl, hq⟩; subst wq)
    | (go_at_call 12; with_reducible refine (cw _).mono ?_; rintro e wq ⟨rfl, hq⟩; subst wq))
  go_region_held3 (fun _ => True) (trivial) (first
    | (go_at_call 15; with_reducible refine (cp _).mono ?_; rintro e wq ⟨rfl, hq⟩; subst wq)
    | (go_at_call 15; with_reducible refine (cr _).mono ?_; rintro e wq ⟨rfl, hq⟩; subst wq)
    | (go_at_call 12; with_reducible refine (cw _).mono ?_; rintro e wq ⟨rfl, hq⟩; subst wq))
  all_goals go_wp2
  all_goals simp [bodyPost, results, Try.results5]
  all_goals (repeat (first | exact HB | with_reducible refine Below.drew ?_))
set_option maxRecDepth 100000 in
set_option maxHeartbeats 4000000 in
theorem rb_shru (a b : Nat) (w : World) (ha : a < 4294967296) (hb : b < 4294967296) :
    Calls Try.prog 5 #[.int .u8 52, .int .u32 a, .int .u32 b] w fun e w' => e = .returned (.tuple #[.int .u32 ((a / 2 ^ (b % 32) : Nat) : Int), .int .i64 0]) ∧ Below w.heap.size w w' := by
  obtain ⟨s, hs⟩ : ∃ s, b % 32 = s := ⟨_, rfl⟩
  have sl : s < 32 := by omega
  rw [hs]
  have f1 : (b : Int) % 32 = (s : Int) := by omega
  have f1' : (b : Int).tmod 32 = (s : Int) := by rw [Int.tmod_eq_emod_of_nonneg (by omega)]; exact f1
  have cp := fun w => rpow_any s w (by omega)
  have gp : (2 : Nat) ^ s ≤ 2147483648 := Nat.pow_le_pow_right (by decide) (show s ≤ 31 by omega)
  have g0 := Nat.two_pow_pos s
  have lu := Nat.div_le_self a (2 ^ s)
  obtain ⟨u, hu⟩ : ∃ u, a / 2 ^ s = u := ⟨_, rfl⟩
  rw [hu] at lu ⊢
  have q1 : (a : Int) / ((2 ^ s : Nat) : Int) = (u : Int) := by rw [← hu]; rfl
  have q2 : (a : Int).tdiv ((2 ^ s : Nat) : Int) = (u : Int) := by rw [← hu]; rfl
  generalize (2 : Nat) ^ s = g at *
  have z1 : ¬ (g : Int) = 0 := by omega
  have z2 : ¬ g = 0 := by omega
  have f5 : wrap64 (u : Int) = (u : Int) := by unfold wrap64; omega
  have cw : ∀ w, Calls Try.prog 12 #[.int .i64 (u : Int)] w fun e w' => e = .returned (.int .u32 ((u : Nat) : Int)) ∧ w' = w := fun w => by
    have := rwrap_any (u : Int) w
    rw [show (u : Int) % 4294967296 = ((u : Nat) : Int) from by omega] at this
    exact this
  clear hu hs gp g0
  have HB : Below w.heap.size w w := Below.refl _ _
  go_enter Try.func5, Try.ntmps5
  go_wp2_with (first
    | (go_at_call 15; with_reducible refine (cp _).mono ?_; rintro e wq ⟨rfl, hq⟩; subst wq)
    | (go_at_call 12; with_reducible refine (cw _).mono ?_; rintro e wq ⟨rfl, hq⟩; subst wq))
  all_goals simp [bodyPost, results, Try.results5]
  all_goals (repeat (first | exact HB | with_reducible refine Below.drew ?_))
set_option maxRecDepth 100000 in
set_option maxHeartbeats 4000000 in
theorem rb_shri (a b : Nat) (w : World) (ha : a < 4294967296) (hb : b < 4294967296) :
    Calls Try.prog 5 #[.int .u8 51, .int .u32 a, .int .u32 b] w fun e w' => e = .returned (.tuple #[.int .u32 (((sx a / 2 ^ (b % 32) % 4294967296).toNat : Nat) : Int), .int .i64 0]) ∧ Below w.heap.size w w' := by
  obtain ⟨s, hs⟩ : ∃ s, b % 32 = s := ⟨_, rfl⟩
  have sl : s < 32 := by omega
  rw [hs]
  have f1 : (b : Int) % 32 = (s : Int) := by omega
  have f1' : (b : Int).tmod 32 = (s : Int) := by rw [Int.tmod_eq_emod_of_nonneg (by omega)]; exact f1
  have cp := fun w => rpow_any s w (by omega)
  have gp : (2 : Nat) ^ s ≤ 2147483648 := Nat.pow_le_pow_right (by decide) (show s ≤ 31 by omega)
  have g0 := Nat.two_pow_pos s
  have cs := fun w => rsig_any a w ha
  obtain ⟨r1, r2⟩ := sx_range ha
  have hg2 : ((2 : Int) ^ s) = ((2 ^ s : Nat) : Int) := by simp
  rw [hg2]
  generalize (2 : Nat) ^ s = g at *
  have cf := fun w => rfloor_any (sx a) g w r1 r2 (by omega)
  obtain ⟨q, hq⟩ : ∃ q, sx a / (g : Int) = q := ⟨_, rfl⟩
  rw [hq] at cf ⊢
  generalize sx a = x at *
  have cw : ∀ w, Calls Try.prog 12 #[.int .i64 q] w fun e w' => e = .returned (.int .u32 (((q % 4294967296).toNat : Nat) : Int)) ∧ w' = w := fun w => by
    have := rwrap_any q w
    rw [show q % 4294967296 = (((q % 4294967296).toNat : Nat) : Int) from nat_of.symm] at this
    exact this
  clear hq hs gp g0 hg2
  have HB : Below w.heap.size w w := Below.refl _ _
  go_enter Try.func5, Try.ntmps5
  go_wp2_with (first
    | (go_at_call 15; with_reducible refine (cp _).mono ?_; rintro e wq ⟨rfl, hq⟩; subst wq)
    | (go_at_call 17; with_reducible refine (cs _).mono ?_; rintro e wq ⟨rfl, hq⟩; subst wq)
    | (go_at_call 16; with_reducible refine (cf _).mono ?_; rintro e wq ⟨rfl, hq⟩; subst wq)
    | (go_at_call 12; with_reducible refine (cw _).mono ?_; rintro e wq ⟨rfl, hq⟩; subst wq))
  all_goals simp [bodyPost, results, Try.results5]
  all_goals (repeat (first | exact HB | with_reducible refine Below.drew ?_))
theorem rf_addf (a b : Nat) (w : World) (ha : a < 4294967296) (hb : b < 4294967296) :
    Calls Try.prog 18 #[.int .u8 54, .int .u32 a, .int .u32 b] w fun e w' => e = .returned (.tuple #[.int .u32 ((fsum a b : Nat) : Int), .int .i64 0]) ∧ Below w.heap.size w w' := by
  have cf := fun w => sums_any a b w ha hb
  generalize fsum a b = V at *
  have HB : Below w.heap.size w w := Below.refl _ _
  go_enter Try.func18, Try.ntmps18
  go_wp2_with (go_at_call 22; with_reducible refine (cf _).mono ?_; rintro e wq ⟨rfl, hq⟩; replace HB : Below w.heap.size w wq := btw hq HB)
  simp [bodyPost, results, Try.results18]
  exact HB
theorem rf_subf (a b : Nat) (w : World) (ha : a < 4294967296) (hb : b < 4294967296) :
    Calls Try.prog 18 #[.int .u8 55, .int .u32 a, .int .u32 b] w fun e w' => e = .returned (.tuple #[.int .u32 ((fsum a (tn b) : Nat) : Int), .int .i64 0]) ∧ Below w.heap.size w w' := by
  have cf := fun w => rests_any a b w ha hb
  generalize fsum a (tn b) = V at *
  have HB : Below w.heap.size w w := Below.refl _ _
  go_enter Try.func18, Try.ntmps18
  go_wp2_with (go_at_call 23; with_reducible refine (cf _).mono ?_; rintro e wq ⟨rfl, hq⟩; replace HB : Below w.heap.size w wq := btw hq HB)
  simp [bodyPost, results, Try.results18]
  exact HB
theorem rf_mulf (a b : Nat) (w : World) (ha : a < 4294967296) (hb : b < 4294967296) :
    Calls Try.prog 18 #[.int .u8 56, .int .u32 a, .int .u32 b] w fun e w' => e = .returned (.tuple #[.int .u32 ((fmul a b : Nat) : Int), .int .i64 0]) ∧ Below w.heap.size w w' := by
  have cf := fun w => products_any a b w ha hb
  generalize fmul a b = V at *
  have HB : Below w.heap.size w w := Below.refl _ _
  go_enter Try.func18, Try.ntmps18
  go_wp2_with (go_at_call 24; with_reducible refine (cf _).mono ?_; rintro e wq ⟨rfl, hq⟩; replace HB : Below w.heap.size w wq := btw hq HB)
  simp [bodyPost, results, Try.results18]
  exact HB
theorem rf_divf (a b : Nat) (w : World) (ha : a < 4294967296) (hb : b < 4294967296) :
    Calls Try.prog 18 #[.int .u8 57, .int .u32 a, .int .u32 b] w fun e w' => e = .returned (.tuple #[.int .u32 ((fdiv a b : Nat) : Int), .int .i64 0]) ∧ Below w.heap.size w w' := by
  have cf := fun w => ratios_any a b w ha hb
  generalize fdiv a b = V at *
  have HB : Below w.heap.size w w := Below.refl _ _
  go_enter Try.func18, Try.ntmps18
  go_wp2_with (go_at_call 25; with_reducible refine (cf _).mono ?_; rintro e wq ⟨rfl, hq⟩; replace HB : Below w.heap.size w wq := btw hq HB)
  simp [bodyPost, results, Try.results18]
  exact HB
theorem rf_none (op a b : Nat) (w : World) (h54 : ¬ (op : Int) = 54) (h55 : ¬ (op : Int) = 55) (h56 : ¬ (op : Int) = 56) (h57 : ¬ (op : Int) = 57) :
    Calls Try.prog 18 #[.int .u8 op, .int .u32 a, .int .u32 b] w fun e w' => e = .returned (.tuple #[.int .u32 0, .int .i64 61]) ∧ Below w.heap.size w w' := by
  have HB : Below w.heap.size w w := Below.refl _ _
  go_enter Try.func18, Try.ntmps18
  go_wp2
  simp [bodyPost, results, Try.results18]
  exact HB
set_option maxRecDepth 100000 in
theorem rb_float (op a b V : Nat) (E : Int) (w : World) (h39 : ¬ (op : Int) = 39) (h40 : ¬ (op : Int) = 40) (h41 : ¬ (op : Int) = 41) (h42 : ¬ (op : Int) = 42) (h43 : ¬ (op : Int) = 43) (h44 : ¬ (op : Int) = 44) (h45 : ¬ (op : Int) = 45) (h46 : ¬ (op : Int) = 46) (h47 : ¬ (op : Int) = 47) (h48 : ¬ (op : Int) = 48) (h50 : ¬ (op : Int) = 50) (h51 : ¬ (op : Int) = 51) (h52 : ¬ (op : Int) = 52)
    (cf : ∀ w, Calls Try.prog 18 #[.int .u8 op, .int .u32 a, .int .u32 b] w fun e w' => e = .returned (.tuple #[.int .u32 V, .int .i64 E]) ∧ Below w.heap.size w w') :
    Calls Try.prog 5 #[.int .u8 op, .int .u32 a, .int .u32 b] w fun e w' => e = .returned (.tuple #[.int .u32 V, .int .i64 E]) ∧ Below w.heap.size w w' := by
  have HB : Below w.heap.size w w := Below.refl _ _
  go_enter Try.func5, Try.ntmps5
  go_wp2_with (go_at_call 18; with_reducible refine (cf _).mono ?_; rintro e wq ⟨rfl, hq⟩; replace HB : Below w.heap.size w wq := btw hq HB)
  simp [bodyPost, results, Try.results5]
  exact HB
theorem rb_any (op a b : Nat) (w : World) (ha : a < 4294967296) (hb : b < 4294967296) :
    Calls Try.prog 5 #[.int .u8 op, .int .u32 a, .int .u32 b] w fun e w' => e = .returned (.tuple #[.int .u32 (binV op a b), .int .i64 (binE op b)]) ∧ Below w.heap.size w w' := by
  by_cases h39 : op = 39
  · subst h39
    rw [binV_39, binE_39]
    exact rb_add a b w ha hb
  by_cases h40 : op = 40
  · subst h40
    rw [binV_40, binE_40]
    exact rb_sub a b w ha hb
  by_cases h41 : op = 41
  · subst h41
    rw [binV_41, binE_41]
    exact rb_mul a b w ha hb
  by_cases hd : op = 42 ∨ op = 43 ∨ op = 44 ∨ op = 45
  · exact rb_div op a b w hd ha hb
  by_cases h46 : op = 46
  · subst h46
    rw [binV_46, binE_46]
    exact rb_and a b w ha hb
  by_cases h47 : op = 47
  · subst h47
    rw [binV_47, binE_47]
    exact rb_or a b w ha hb
  by_cases h48 : op = 48
  · subst h48
    rw [binV_48, binE_48]
    exact rb_xor a b w ha hb
  by_cases h50 : op = 50
  · subst h50
    rw [binV_50, binE_50]
    exact rb_shl a b w ha hb
  by_cases h51 : op = 51
  · subst h51
    rw [binV_51, binE_51]
    exact rb_shri a b w ha hb
  by_cases h52 : op = 52
  · subst h52
    rw [binV_52, binE_52]
    exact rb_shru a b w ha hb
  by_cases h54 : op = 54
  · subst h54
    rw [binV_54, binE_54]
    exact rb_float 54 a b _ _ w (by omega) (by omega) (by omega) (by omega) (by omega) (by omega) (by omega) (by omega) (by omega) (by omega) (by omega) (by omega) (by omega) (fun w => rf_addf a b w ha hb)
  by_cases h55 : op = 55
  · subst h55
    rw [binV_55, binE_55]
    exact rb_float 55 a b _ _ w (by omega) (by omega) (by omega) (by omega) (by omega) (by omega) (by omega) (by omega) (by omega) (by omega) (by omega) (by omega) (by omega) (fun w => rf_subf a b w ha hb)
  by_cases h56 : op = 56
  · subst h56
    rw [binV_56, binE_56]
    exact rb_float 56 a b _ _ w (by omega) (by omega) (by omega) (by omega) (by omega) (by omega) (by omega) (by omega) (by omega) (by omega) (by omega) (by omega) (by omega) (fun w => rf_mulf a b w ha hb)
  by_cases h57 : op = 57
  · subst h57
    rw [binV_57, binE_57]
    exact rb_float 57 a b _ _ w (by omega) (by omega) (by omega) (by omega) (by omega) (by omega) (by omega) (by omega) (by omega) (by omega) (by omega) (by omega) (by omega) (fun w => rf_divf a b w ha hb)
  have h0 : binV op a b = 0 := by unfold binV; rw [if_neg (by omega), if_neg (by omega), if_neg (by omega), if_neg (by omega), if_neg (by omega), if_neg (by omega), if_neg (by omega), if_neg (by omega), if_neg (by omega), if_neg (by omega), if_neg (by omega), if_neg (by omega), if_neg (by omega), if_neg (by omega), if_neg (by omega), if_neg (by omega), if_neg (by omega)]
  have h1 : binE op b = 61 := by unfold binE; rw [if_neg hd, if_neg (by omega)]
  rw [h0, h1]
  exact rb_float op a b _ _ w (by omega) (by omega) (by omega) (by omega) (by omega) (by omega) (by omega) (by omega) (by omega) (by omega) (by omega) (by omega) (by omega) (fun w => rf_none op a b w (by omega) (by omega) (by omega) (by omega))
theorem alu_binary (op a b : Nat) (w : World) (ha : a < 4294967296) (hb : b < 4294967296) :
    Calls Try.prog 3 #[.int .u8 op, .int .u32 a, .int .u32 b] w fun e w' => e = .returned (.bool true) ∧ Below w.heap.size w w' := by
  have d0 := fun w => bin_any op a b w ha hb
  have d1 := fun w => rb_any op a b w ha hb
  generalize binV op a b = V at *
  generalize binE op b = E at *
  have HB : Below w.heap.size w w := Below.refl _ _
  go_enter Try.func3, Try.ntmps3
  go_wp2_with (first
    | (go_at_call 4; with_reducible refine (d0 _).mono ?_; rintro e wq ⟨rfl, hq⟩; replace HB : Below w.heap.size w wq := btw hq HB)
    | (go_at_call 5; with_reducible refine (d1 _).mono ?_; rintro e wq ⟨rfl, hq⟩; replace HB : Below w.heap.size w wq := btw hq HB))
  go_ret
  exact ⟨rfl, HB⟩
end Go.Proofs.Ythaipahaaajgoaa
namespace Go.Proofs.Ythaipahaaajgoaa
open Go.ChangeShapes Go.WideShapes Go.ChangeAt Go.RowKit

theorem Try.own : ownKnob Try.prog.godebug = none := by kernel_rfl
theorem word_wf {z : Int} (h : (Lit.int .u32 z).wf = true) : ∃ n : Nat, z = n ∧ n < 4294967296 := by
  have h' : 0 ≤ z ∧ z ≤ 4294967295 := by simpa [Lit.wf, IntKind.min, IntKind.max, IntKind.signed, IntKind.bits] using h
  obtain ⟨n, rfl⟩ := Int.eq_ofNat_of_zero_le h'.1
  exact ⟨n, rfl, by omega⟩
theorem quad_wf {z : Int} (h : (Lit.int .u64 z).wf = true) : ∃ n : Nat, z = n ∧ n < 18446744073709551616 := by
  have h1 : IntKind.u64.min = 0 := rfl
  have h2 : IntKind.u64.max = 18446744073709551615 := rfl
  simp only [Lit.wf, Bool.and_eq_true, decide_eq_true_eq] at h
  obtain ⟨n, rfl⟩ := Int.eq_ofNat_of_zero_le (a := z) (by omega)
  exact ⟨n, rfl, by omega⟩
theorem int32_wf {z : Int} (h : (Lit.int .i32 z).wf = true) : -2147483648 ≤ z ∧ z ≤ 2147483647 := by
  have h1 : IntKind.i32.min = -2147483648 := rfl
  have h2 : IntKind.i32.max = 2147483647 := rfl
  simp only [Lit.wf, Bool.and_eq_true, decide_eq_true_eq] at h
  omega
theorem byte_wf {z : Int} (h : (Lit.int .u8 z).wf = true) : ∃ n : Nat, z = n := by
  have h' : 0 ≤ z ∧ z ≤ 255 := by simpa [Lit.wf, IntKind.min, IntKind.max, IntKind.signed, IntKind.bits] using h
  obtain ⟨n, rfl⟩ := Int.eq_ofNat_of_zero_le h'.1
  exact ⟨n, rfl⟩
theorem drewN_below {w : World} (B n : Nat) : Below B w (w.drewN n) := ⟨rfl, rfl, rfl, Nat.le_refl _, fun _ _ => rfl⟩
end Go.Proofs.Ythaipahaaajgoaa
