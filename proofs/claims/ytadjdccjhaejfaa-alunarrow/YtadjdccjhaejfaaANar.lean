import Derived.Test.YtadjdccjhaejfaaABase
namespace Go.Proofs.Ytadjdccjhaejfaa
open Go.RowKit
theorem sex8_lt (a : Nat) : sex8 a < 4294967296 := by unfold sex8; split <;> omega
theorem sex16_lt (a : Nat) : sex16 a < 4294967296 := by unfold sex16; split <;> omega
theorem sex8_mod (a : Nat) : sex8 a % 256 = a % 256 := by unfold sex8; split <;> omega
theorem sex16_mod (a : Nat) : sex16 a % 65536 = a % 65536 := by unfold sex16; split <;> omega
theorem sex8_same {a b : Nat} (h : a % 256 = b % 256) : sex8 a = sex8 b := by unfold sex8; rw [h]
theorem sex16_same {a b : Nat} (h : a % 65536 = b % 65536) : sex16 a = sex16 b := by unfold sex16; rw [h]
theorem sex8_16 (a : Nat) : sex16 (sex8 a) = sex8 a := by unfold sex16 sex8; split <;> split <;> omega
theorem up8 (a : Nat) : (sx (a * 16777216 % 4294967296) / 16777216 % 4294967296).toNat = sex8 a := by unfold sx sex8; split <;> split <;> omega
theorem up16 (a : Nat) : (sx (a * 65536 % 4294967296) / 65536 % 4294967296).toNat = sex16 a := by unfold sx sex16; split <;> split <;> omega
set_option maxRecDepth 100000 in
set_option maxHeartbeats 1000000 in
theorem narrow_some (a x y p q : Nat) (w : World) (ha : a < 4294967296) (hx : sex8 a = x) (hy : sex16 a = y) (hp : a * 16777216 % 4294967296 = p) (hq : a * 65536 % 4294967296 = q) :
    Calls Try.prog 8 #[.int .u32 a] w fun e w' => e = .returned (.bool true) ∧ Below w.heap.size w w' := by
  have lx : x < 4294967296 := by rw [← hx]; exact sex8_lt a
  have ly : y < 4294967296 := by rw [← hy]; exact sex16_lt a
  have lp : p < 4294967296 := by rw [← hp]; exact Nat.mod_lt _ (by decide)
  have lq : q < 4294967296 := by rw [← hq]; exact Nat.mod_lt _ (by decide)
  have m1 : x % 256 = a % 256 := by rw [← hx]; exact sex8_mod a
  have m2 : y % 65536 = a % 65536 := by rw [← hy]; exact sex16_mod a
  have m1' : (x : Int) % 256 = (a : Int) % 256 := by omega
  have m2' : (y : Int) % 65536 = (a : Int) % 65536 := by omega
  have HB : Below w.heap.size w w := Below.refl _ _
  have c0 : One 36 ((a : Nat) : Int) ((x : Nat) : Int) := one_is 36 (a) (x) (by assumption) (by rw [unV_36, hx])
  have c1 : One 37 ((a : Nat) : Int) ((y : Nat) : Int) := one_is 37 (a) (y) (by assumption) (by rw [unV_37, hy])
  have c2 : Two 50 ((a : Nat) : Int) 24 ((p : Nat) : Int) := two_is 50 (a) (24) (p) (by assumption) (by decide) (by rw [binV_50]; exact hp)
  have c3 : Two 51 ((p : Nat) : Int) 24 ((x : Nat) : Int) := two_is 51 (p) (24) (x) (by assumption) (by decide) (by rw [binV_51, ← hp, ← hx]; exact up8 a)
  have c4 : Two 50 ((a : Nat) : Int) 16 ((q : Nat) : Int) := two_is 50 (a) (16) (q) (by assumption) (by decide) (by rw [binV_50]; exact hq)
  have c5 : Two 51 ((q : Nat) : Int) 16 ((y : Nat) : Int) := two_is 51 (q) (16) (y) (by assumption) (by decide) (by rw [binV_51, ← hq, ← hy]; exact up16 a)
  have c6 : One 36 ((x : Nat) : Int) ((x : Nat) : Int) := one_is 36 (x) (x) (by assumption) (by rw [unV_36, sex8_same m1, hx])
  have c7 : One 37 ((x : Nat) : Int) ((x : Nat) : Int) := one_is 37 (x) (x) (by assumption) (by rw [unV_37, ← hx, sex8_16])
  have c8 : One 37 ((y : Nat) : Int) ((y : Nat) : Int) := one_is 37 (y) (y) (by assumption) (by rw [unV_37, sex16_same m2, hy])
  have c9 : One 36 ((y : Nat) : Int) ((x : Nat) : Int) := one_is 36 (y) (x) (by assumption) (by rw [unV_36, sex8_same (b := a) (by omega), hx])
  clear hx hy hp hq m1 m2
  go_enter Try.func8, Try.ntmps8
  go_wp2_with (first
    | (go_at_call 10; with_reducible refine (c0 _).mono ?_; rintro e wq ⟨rfl, hq⟩; subst wq)
    | (go_at_call 10; with_reducible refine (c1 _).mono ?_; rintro e wq ⟨rfl, hq⟩; subst wq)
    | (go_at_call 11; with_reducible refine (c2 _).mono ?_; rintro e wq ⟨rfl, hq⟩; replace HB : Below w.heap.size w wq := bt2 hq HB)
    | (go_at_call 11; with_reducible refine (c3 _).mono ?_; rintro e wq ⟨rfl, hq⟩; replace HB : Below w.heap.size w wq := bt2 hq HB)
    | (go_at_call 11; with_reducible refine (c4 _).mono ?_; rintro e wq ⟨rfl, hq⟩; replace HB : Below w.heap.size w wq := bt2 hq HB)
    | (go_at_call 11; with_reducible refine (c5 _).mono ?_; rintro e wq ⟨rfl, hq⟩; replace HB : Below w.heap.size w wq := bt2 hq HB)
    | (go_at_call 10; with_reducible refine (c6 _).mono ?_; rintro e wq ⟨rfl, hq⟩; subst wq)
    | (go_at_call 10; with_reducible refine (c7 _).mono ?_; rintro e wq ⟨rfl, hq⟩; subst wq)
    | (go_at_call 10; with_reducible refine (c8 _).mono ?_; rintro e wq ⟨rfl, hq⟩; subst wq)
    | (go_at_call 10; with_reducible refine (c9 _).mono ?_; rintro e wq ⟨rfl, hq⟩; subst wq)
    | (go_at_call 9; with_reducible refine (awake6 _).mono ?_; rintro e wq ⟨rfl, hq⟩; replace HB : Below w.heap.size w wq := bt2 hq HB))
  go_ret
  exact ⟨rfl, HB⟩
theorem alu_narrow (a : Nat) (w : World) (ha : a < 4294967296) :
    Calls Try.prog 8 #[.int .u32 a] w fun e w' => e = .returned (.bool true) ∧ Below w.heap.size w w' := narrow_some a _ _ _ _ w ha rfl rfl rfl rfl
end Go.Proofs.Ytadjdccjhaejfaa
