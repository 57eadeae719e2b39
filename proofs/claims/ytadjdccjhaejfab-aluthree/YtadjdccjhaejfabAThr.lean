import Derived.Test.YtadjdccjhaejfabABase
import Derived.Test.YtadjdccjhaejfabSNeigh
namespace Go.Proofs.Ytadjdccjhaejfab
open Go.RowKit
theorem fstand_cases (a b : Nat) : (fstand a b = 1 ∨ fstand a b = 2 ∨ fstand a b = 3 ∨ fstand a b = 4) := by
  unfold fstand
  cases Ieee.single.order a b with
  | none => exact Or.inl rfl
  | some c => cases c <;> simp
theorem many_any (x y z : Bool) (w : World) : Calls Try.prog 10 #[.bool x, .bool y, .bool z] w fun e w' => e = .returned (.int .i64 ((x.toNat + y.toNat + z.toNat : Nat) : Int)) ∧ w' = w := by
  cases x <;> cases y <;> cases z <;> (go_enter Try.func10, Try.ntmps10; go_wp2; go_ret; exact ⟨rfl, rfl⟩)
abbrev Many (x y z : Bool) (n : Int) : Prop := ∀ w, Calls Try.prog 10 #[.bool x, .bool y, .bool z] w fun e w' => e = .returned (.int .i64 n) ∧ w' = w
theorem many_is (x y z : Bool) (n : Nat) (h : x.toNat + y.toNat + z.toNat = n) : Many x y z n := fun w => h ▸ many_any x y z w
set_option maxRecDepth 100000 in
set_option maxHeartbeats 1000000 in
theorem three_n1 (a b u v : Nat) (X Y Z U T : Bool) (w : World) (hu : bits .and .u32 (a : Int) 2147483647 = (u : Int)) (_hv : bits .and .u32 (b : Int) 2147483647 = (v : Int)) (oa : (2139095040 : Int) < (u : Int))
    (c0 : Is 15 a b X) (c1 : Is 13 a b Y) (c2 : Is 17 a b Z) (c3 : Is 19 a b U) (c4 : Is 21 a b T) (m0 : Many X Y Z 1) (m1 : Many U Y T 1)
    (c5 : Is 25 a b false) (c6 : Is 23 a b false) (c7 : Is 27 a b false) (c8 : Is 24 a b true) (c9 : Is 26 a b false) (d0 : Is 28 a b false) :
    Calls Try.prog 4 #[.int .u32 a, .int .u32 b] w fun e w' => e = .returned (.bool true) ∧ Below w.heap.size w w' := by
  have m2 : Many false false false 0 := many_is false false false 0 rfl
  have HB : Below w.heap.size w w := Below.refl _ _
  go_enter Try.func4, Try.ntmps4
  go_wp2_with (first
    | (go_at_call 8; with_reducible refine (c0 _).mono ?_; rintro e wq ⟨rfl, hq⟩; subst wq)
    | (go_at_call 8; with_reducible refine (c1 _).mono ?_; rintro e wq ⟨rfl, hq⟩; subst wq)
    | (go_at_call 8; with_reducible refine (c2 _).mono ?_; rintro e wq ⟨rfl, hq⟩; subst wq)
    | (go_at_call 8; with_reducible refine (c3 _).mono ?_; rintro e wq ⟨rfl, hq⟩; subst wq)
    | (go_at_call 8; with_reducible refine (c4 _).mono ?_; rintro e wq ⟨rfl, hq⟩; subst wq)
    | (go_at_call 8; with_reducible refine (c5 _).mono ?_; rintro e wq ⟨rfl, hq⟩; subst wq)
    | (go_at_call 8; with_reducible refine (c6 _).mono ?_; rintro e wq ⟨rfl, hq⟩; subst wq)
    | (go_at_call 8; with_reducible refine (c7 _).mono ?_; rintro e wq ⟨rfl, hq⟩; subst wq)
    | (go_at_call 8; with_reducible refine (c8 _).mono ?_; rintro e wq ⟨rfl, hq⟩; subst wq)
    | (go_at_call 8; with_reducible refine (c9 _).mono ?_; rintro e wq ⟨rfl, hq⟩; subst wq)
    | (go_at_call 8; with_reducible refine (d0 _).mono ?_; rintro e wq ⟨rfl, hq⟩; subst wq)
    | (go_at_call 10; with_reducible refine (m0 _).mono ?_; rintro e wq ⟨rfl, hq⟩; subst wq)
    | (go_at_call 10; with_reducible refine (m1 _).mono ?_; rintro e wq ⟨rfl, hq⟩; subst wq)
    | (go_at_call 10; with_reducible refine (m2 _).mono ?_; rintro e wq ⟨rfl, hq⟩; subst wq)
    | (go_at_call 6; with_reducible refine (awake6 _).mono ?_; rintro e wq ⟨rfl, hq⟩; replace HB : Below w.heap.size w wq := bt2 hq HB))
  go_ret
  exact ⟨rfl, HB⟩
set_option maxRecDepth 100000 in
set_option maxHeartbeats 1000000 in
theorem three_n2 (a b u v : Nat) (X Y Z U T : Bool) (w : World) (hu : bits .and .u32 (a : Int) 2147483647 = (u : Int)) (_hv : bits .and .u32 (b : Int) 2147483647 = (v : Int)) (oa : ¬ (2139095040 : Int) < (u : Int)) (ob : (2139095040 : Int) < (v : Int))
    (c0 : Is 15 a b X) (c1 : Is 13 a b Y) (c2 : Is 17 a b Z) (c3 : Is 19 a b U) (c4 : Is 21 a b T) (m0 : Many X Y Z 1) (m1 : Many U Y T 1)
    (c5 : Is 25 a b false) (c6 : Is 23 a b false) (c7 : Is 27 a b false) (c8 : Is 24 a b true) (c9 : Is 26 a b false) (d0 : Is 28 a b false) :
    Calls Try.prog 4 #[.int .u32 a, .int .u32 b] w fun e w' => e = .returned (.bool true) ∧ Below w.heap.size w w' := by
  have m2 : Many false false false 0 := many_is false false false 0 rfl
  have HB : Below w.heap.size w w := Below.refl _ _
  have oa' : (u : Int) ≤ 2139095040 := by omega
  go_enter Try.func4, Try.ntmps4
  go_wp2_with (first
    | (go_at_call 8; with_reducible refine (c0 _).mono ?_; rintro e wq ⟨rfl, hq⟩; subst wq)
    | (go_at_call 8; with_reducible refine (c1 _).mono ?_; rintro e wq ⟨rfl, hq⟩; subst wq)
    | (go_at_call 8; with_reducible refine (c2 _).mono ?_; rintro e wq ⟨rfl, hq⟩; subst wq)
    | (go_at_call 8; with_reducible refine (c3 _).mono ?_; rintro e wq ⟨rfl, hq⟩; subst wq)
    | (go_at_call 8; with_reducible refine (c4 _).mono ?_; rintro e wq ⟨rfl, hq⟩; subst wq)
    | (go_at_call 8; with_reducible refine (c5 _).mono ?_; rintro e wq ⟨rfl, hq⟩; subst wq)
    | (go_at_call 8; with_reducible refine (c6 _).mono ?_; rintro e wq ⟨rfl, hq⟩; subst wq)
    | (go_at_call 8; with_reducible refine (c7 _).mono ?_; rintro e wq ⟨rfl, hq⟩; subst wq)
    | (go_at_call 8; with_reducible refine (c8 _).mono ?_; rintro e wq ⟨rfl, hq⟩; subst wq)
    | (go_at_call 8; with_reducible refine (c9 _).mono ?_; rintro e wq ⟨rfl, hq⟩; subst wq)
    | (go_at_call 8; with_reducible refine (d0 _).mono ?_; rintro e wq ⟨rfl, hq⟩; subst wq)
    | (go_at_call 10; with_reducible refine (m0 _).mono ?_; rintro e wq ⟨rfl, hq⟩; subst wq)
    | (go_at_call 10; with_reducible refine (m1 _).mono ?_; rintro e wq ⟨rfl, hq⟩; subst wq)
    | (go_at_call 10; with_reducible refine (m2 _).mono ?_; rintro e wq ⟨rfl, hq⟩; subst wq)
    | (go_at_call 6; with_reducible refine (awake6 _).mono ?_; rintro e wq ⟨rfl, hq⟩; replace HB : Below w.heap.size w wq := bt2 hq HB))
  go_ret
  exact ⟨rfl, HB⟩
set_option maxRecDepth 100000 in
set_option maxHeartbeats 1000000 in
theorem three_b (a b u v : Nat) (X Y Z U T : Bool) (w : World) (hu : bits .and .u32 (a : Int) 2147483647 = (u : Int)) (_hv : bits .and .u32 (b : Int) 2147483647 = (v : Int)) (oa : ¬ (2139095040 : Int) < (u : Int)) (ob : ¬ (2139095040 : Int) < (v : Int))
    (c0 : Is 15 a b X) (c1 : Is 13 a b Y) (c2 : Is 17 a b Z) (c3 : Is 19 a b U) (c4 : Is 21 a b T) (m0 : Many X Y Z 1) (m1 : Many U Y T 1)
    (c5 : Is 25 a b true) (c6 : Is 23 a b false) (c7 : Is 27 a b false) (c8 : Is 24 a b true) (c9 : Is 26 a b true) (d0 : Is 28 a b false) :
    Calls Try.prog 4 #[.int .u32 a, .int .u32 b] w fun e w' => e = .returned (.bool true) ∧ Below w.heap.size w w' := by
  have m2 : Many true false false 1 := many_is true false false 1 rfl
  have HB : Below w.heap.size w w := Below.refl _ _
  have oa' : (u : Int) ≤ 2139095040 := by omega
  have ob' : (v : Int) ≤ 2139095040 := by omega
  go_enter Try.func4, Try.ntmps4
  go_wp2_with (first
    | (go_at_call 8; with_reducible refine (c0 _).mono ?_; rintro e wq ⟨rfl, hq⟩; subst wq)
    | (go_at_call 8; with_reducible refine (c1 _).mono ?_; rintro e wq ⟨rfl, hq⟩; subst wq)
    | (go_at_call 8; with_reducible refine (c2 _).mono ?_; rintro e wq ⟨rfl, hq⟩; subst wq)
    | (go_at_call 8; with_reducible refine (c3 _).mono ?_; rintro e wq ⟨rfl, hq⟩; subst wq)
    | (go_at_call 8; with_reducible refine (c4 _).mono ?_; rintro e wq ⟨rfl, hq⟩; subst wq)
    | (go_at_call 8; with_reducible refine (c5 _).mono ?_; rintro e wq ⟨rfl, hq⟩; subst wq)
    | (go_at_call 8; with_reducible refine (c6 _).mono ?_; rintro e wq ⟨rfl, hq⟩; subst wq)
    | (go_at_call 8; with_reducible refine (c7 _).mono ?_; rintro e wq ⟨rfl, hq⟩; subst wq)
    | (go_at_call 8; with_reducible refine (c8 _).mono ?_; rintro e wq ⟨rfl, hq⟩; subst wq)
    | (go_at_call 8; with_reducible refine (c9 _).mono ?_; rintro e wq ⟨rfl, hq⟩; subst wq)
    | (go_at_call 8; with_reducible refine (d0 _).mono ?_; rintro e wq ⟨rfl, hq⟩; subst wq)
    | (go_at_call 10; with_reducible refine (m0 _).mono ?_; rintro e wq ⟨rfl, hq⟩; subst wq)
    | (go_at_call 10; with_reducible refine (m1 _).mono ?_; rintro e wq ⟨rfl, hq⟩; subst wq)
    | (go_at_call 10; with_reducible refine (m2 _).mono ?_; rintro e wq ⟨rfl, hq⟩; subst wq)
    | (go_at_call 6; with_reducible refine (awake6 _).mono ?_; rintro e wq ⟨rfl, hq⟩; replace HB : Below w.heap.size w wq := bt2 hq HB))
  go_ret
  exact ⟨rfl, HB⟩
set_option maxRecDepth 100000 in
set_option maxHeartbeats 1000000 in
theorem three_e (a b u v : Nat) (X Y Z U T : Bool) (w : World) (hu : bits .and .u32 (a : Int) 2147483647 = (u : Int)) (_hv : bits .and .u32 (b : Int) 2147483647 = (v : Int)) (oa : ¬ (2139095040 : Int) < (u : Int)) (ob : ¬ (2139095040 : Int) < (v : Int))
    (c0 : Is 15 a b X) (c1 : Is 13 a b Y) (c2 : Is 17 a b Z) (c3 : Is 19 a b U) (c4 : Is 21 a b T) (m0 : Many X Y Z 1) (m1 : Many U Y T 1)
    (c5 : Is 25 a b false) (c6 : Is 23 a b true) (c7 : Is 27 a b false) (c8 : Is 24 a b false) (c9 : Is 26 a b true) (d0 : Is 28 a b true) :
    Calls Try.prog 4 #[.int .u32 a, .int .u32 b] w fun e w' => e = .returned (.bool true) ∧ Below w.heap.size w w' := by
  have m2 : Many false true false 1 := many_is false true false 1 rfl
  have HB : Below w.heap.size w w := Below.refl _ _
  have oa' : (u : Int) ≤ 2139095040 := by omega
  have ob' : (v : Int) ≤ 2139095040 := by omega
  go_enter Try.func4, Try.ntmps4
  go_wp2_with (first
    | (go_at_call 8; with_reducible refine (c0 _).mono ?_; rintro e wq ⟨rfl, hq⟩; subst wq)
    | (go_at_call 8; with_reducible refine (c1 _).mono ?_; rintro e wq ⟨rfl, hq⟩; subst wq)
    | (go_at_call 8; with_reducible refine (c2 _).mono ?_; rintro e wq ⟨rfl, hq⟩; subst wq)
    | (go_at_call 8; with_reducible refine (c3 _).mono ?_; rintro e wq ⟨rfl, hq⟩; subst wq)
    | (go_at_call 8; with_reducible refine (c4 _).mono ?_; rintro e wq ⟨rfl, hq⟩; subst wq)
    | (go_at_call 8; with_reducible refine (c5 _).mono ?_; rintro e wq ⟨rfl, hq⟩; subst wq)
    | (go_at_call 8; with_reducible refine (c6 _).mono ?_; rintro e wq ⟨rfl, hq⟩; subst wq)
    | (go_at_call 8; with_reducible refine (c7 _).mono ?_; rintro e wq ⟨rfl, hq⟩; subst wq)
    | (go_at_call 8; with_reducible refine (c8 _).mono ?_; rintro e wq ⟨rfl, hq⟩; subst wq)
    | (go_at_call 8; with_reducible refine (c9 _).mono ?_; rintro e wq ⟨rfl, hq⟩; subst wq)
    | (go_at_call 8; with_reducible refine (d0 _).mono ?_; rintro e wq ⟨rfl, hq⟩; subst wq)
    | (go_at_call 10; with_reducible refine (m0 _).mono ?_; rintro e wq ⟨rfl, hq⟩; subst wq)
    | (go_at_call 10; with_reducible refine (m1 _).mono ?_; rintro e wq ⟨rfl, hq⟩; subst wq)
    | (go_at_call 10; with_reducible refine (m2 _).mono ?_; rintro e wq ⟨rfl, hq⟩; subst wq)
    | (go_at_call 6; with_reducible refine (awake6 _).mono ?_; rintro e wq ⟨rfl, hq⟩; replace HB : Below w.heap.size w wq := bt2 hq HB))
  go_ret
  exact ⟨rfl, HB⟩
set_option maxRecDepth 100000 in
set_option maxHeartbeats 1000000 in
theorem three_a (a b u v : Nat) (X Y Z U T : Bool) (w : World) (hu : bits .and .u32 (a : Int) 2147483647 = (u : Int)) (_hv : bits .and .u32 (b : Int) 2147483647 = (v : Int)) (oa : ¬ (2139095040 : Int) < (u : Int)) (ob : ¬ (2139095040 : Int) < (v : Int))
    (c0 : Is 15 a b X) (c1 : Is 13 a b Y) (c2 : Is 17 a b Z) (c3 : Is 19 a b U) (c4 : Is 21 a b T) (m0 : Many X Y Z 1) (m1 : Many U Y T 1)
    (c5 : Is 25 a b false) (c6 : Is 23 a b false) (c7 : Is 27 a b true) (c8 : Is 24 a b true) (c9 : Is 26 a b false) (d0 : Is 28 a b true) :
    Calls Try.prog 4 #[.int .u32 a, .int .u32 b] w fun e w' => e = .returned (.bool true) ∧ Below w.heap.size w w' := by
  have m2 : Many false false true 1 := many_is false false true 1 rfl
  have HB : Below w.heap.size w w := Below.refl _ _
  have oa' : (u : Int) ≤ 2139095040 := by omega
  have ob' : (v : Int) ≤ 2139095040 := by omega
  go_enter Try.func4, Try.ntmps4
  go_wp2_with (first
    | (go_at_call 8; with_reducible refine (c0 _).mono ?_; rintro e wq ⟨rfl, hq⟩; subst wq)
    | (go_at_call 8; with_reducible refine (c1 _).mono ?_; rintro e wq ⟨rfl, hq⟩; subst wq)
    | (go_at_call 8; with_reducible refine (c2 _).mono ?_; rintro e wq ⟨rfl, hq⟩; subst wq)
    | (go_at_call 8; with_reducible refine (c3 _).mono ?_; rintro e wq ⟨rfl, hq⟩; subst wq)
    | (go_at_call 8; with_reducible refine (c4 _).mono ?_; rintro e wq ⟨rfl, hq⟩; subst wq)
    | (go_at_call 8; with_reducible refine (c5 _).mono ?_; rintro e wq ⟨rfl, hq⟩; subst wq)
    | (go_at_call 8; with_reducible refine (c6 _).mono ?_; rintro e wq ⟨rfl, hq⟩; subst wq)
    | (go_at_call 8; with_reducible refine (c7 _).mono ?_; rintro e wq ⟨rfl, hq⟩; subst wq)
    | (go_at_call 8; with_reducible refine (c8 _).mono ?_; rintro e wq ⟨rfl, hq⟩; subst wq)
    | (go_at_call 8; with_reducible refine (c9 _).mono ?_; rintro e wq ⟨rfl, hq⟩; subst wq)
    | (go_at_call 8; with_reducible refine (d0 _).mono ?_; rintro e wq ⟨rfl, hq⟩; subst wq)
    | (go_at_call 10; with_reducible refine (m0 _).mono ?_; rintro e wq ⟨rfl, hq⟩; subst wq)
    | (go_at_call 10; with_reducible refine (m1 _).mono ?_; rintro e wq ⟨rfl, hq⟩; subst wq)
    | (go_at_call 10; with_reducible refine (m2 _).mono ?_; rintro e wq ⟨rfl, hq⟩; subst wq)
    | (go_at_call 6; with_reducible refine (awake6 _).mono ?_; rintro e wq ⟨rfl, hq⟩; replace HB : Below w.heap.size w wq := bt2 hq HB))
  go_ret
  exact ⟨rfl, HB⟩
theorem fstand_num {a b : Nat} (oa : ok a = true) (ob : ok b = true) (ha : a < 4294967296) (hb : b < 4294967296) : fstand a b ≠ 1 := by
  unfold fstand
  rw [order_key a b ha hb oa ob]
  cases compare (key a) (key b) <;> decide
theorem sx_inj {a b : Nat} (ha : a < 4294967296) (hb : b < 4294967296) (h : sx a = sx b) : a = b := by
  unfold sx at h; split at h <;> split at h <;> omega
theorem one_of {x y z : Bool} (h1 : x = true ∧ y = false ∧ z = false ∨ x = false ∧ y = true ∧ z = false ∨ x = false ∧ y = false ∧ z = true) : x.toNat + y.toNat + z.toNat = 1 := by
  rcases h1 with ⟨rfl, rfl, rfl⟩ | ⟨rfl, rfl, rfl⟩ | ⟨rfl, rfl, rfl⟩ <;> rfl
theorem alu_three (a b : Nat) (w : World) (ha : a < 4294967296) (hb : b < 4294967296) :
    Calls Try.prog 4 #[.int .u32 a, .int .u32 b] w fun e w' => e = .returned (.bool true) ∧ Below w.heap.size w w' := by
  have hu := b_and a ha
  have hv := b_and b hb
  have c0 : Is 15 a b _ := is_is 15 a b _ ha hb rfl
  have c1 : Is 13 a b _ := is_is 13 a b _ ha hb rfl
  have c2 : Is 17 a b _ := is_is 17 a b _ ha hb rfl
  have c3 : Is 19 a b _ := is_is 19 a b _ ha hb rfl
  have c4 : Is 21 a b _ := is_is 21 a b _ ha hb rfl
  have m0 : Many (hoV 15 a b) (hoV 13 a b) (hoV 17 a b) 1 := many_is _ _ _ 1 (one_of (by
    rw [hoV_15, hoV_13, hoV_17]
    simp only [decide_eq_true_eq, decide_eq_false_iff_not]
    by_cases e : a = b
    · subst e; omega
    · have : sx a ≠ sx b := fun h => e (sx_inj ha hb h)
      omega))
  have m1 : Many (hoV 19 a b) (hoV 13 a b) (hoV 21 a b) 1 := many_is _ _ _ 1 (one_of (by
    rw [hoV_19, hoV_13, hoV_21]
    simp only [decide_eq_true_eq, decide_eq_false_iff_not]
    omega))
  have q : ∀ F : Nat, fstand a b = F → hoV 25 a b = decide (F = 2) ∧ hoV 23 a b = decide (F = 3) ∧ hoV 27 a b = decide (F = 4) ∧ hoV 24 a b = (!decide (F = 3)) ∧ hoV 26 a b = (decide (F = 2) || decide (F = 3)) ∧ hoV 28 a b = (decide (F = 4) || decide (F = 3)) := by
    intro F hF
    rw [hoV_25, hoV_23, hoV_27, hoV_24, hoV_26, hoV_28, hF]
    exact ⟨rfl, rfl, rfl, rfl, rfl, rfl⟩
  by_cases oa : ok a = true
  · by_cases ob : ok b = true
    · have ma := ok_mod oa
      have mb := ok_mod ob
      have hn := fstand_num oa ob ha hb
      rcases fstand_cases a b with h | h | h | h
      · exact absurd h hn
      · obtain ⟨q1, q2, q3, q4, q5, q6⟩ := q _ h
        exact three_b a b _ _ _ _ _ _ _ w hu hv (by omega) (by omega) c0 c1 c2 c3 c4 m0 m1 (is_is 25 a b _ ha hb q1) (is_is 23 a b _ ha hb q2) (is_is 27 a b _ ha hb q3) (is_is 24 a b _ ha hb q4) (is_is 26 a b _ ha hb q5) (is_is 28 a b _ ha hb q6)
      · obtain ⟨q1, q2, q3, q4, q5, q6⟩ := q _ h
        exact three_e a b _ _ _ _ _ _ _ w hu hv (by omega) (by omega) c0 c1 c2 c3 c4 m0 m1 (is_is 25 a b _ ha hb q1) (is_is 23 a b _ ha hb q2) (is_is 27 a b _ ha hb q3) (is_is 24 a b _ ha hb q4) (is_is 26 a b _ ha hb q5) (is_is 28 a b _ ha hb q6)
      · obtain ⟨q1, q2, q3, q4, q5, q6⟩ := q _ h
        exact three_a a b _ _ _ _ _ _ _ w hu hv (by omega) (by omega) c0 c1 c2 c3 c4 m0 m1 (is_is 25 a b _ ha hb q1) (is_is 23 a b _ ha hb q2) (is_is 27 a b _ ha hb q3) (is_is 24 a b _ ha hb q4) (is_is 26 a b _ ha hb q5) (is_is 28 a b _ ha hb q6)
    · have ma := ok_mod oa
      have mb : ¬ b % 2147483648 ≤ 2139095040 := by simpa [ok] using ob
      obtain ⟨q1, q2, q3, q4, q5, q6⟩ := q 1 (fstand_nan (Or.inr (by simpa using ob)))
      exact three_n2 a b _ _ _ _ _ _ _ w hu hv (by omega) (by omega) c0 c1 c2 c3 c4 m0 m1 (is_is 25 a b _ ha hb q1) (is_is 23 a b _ ha hb q2) (is_is 27 a b _ ha hb q3) (is_is 24 a b _ ha hb q4) (is_is 26 a b _ ha hb q5) (is_is 28 a b _ ha hb q6)
  · have ma : ¬ a % 2147483648 ≤ 2139095040 := by simpa [ok] using oa
    obtain ⟨q1, q2, q3, q4, q5, q6⟩ := q 1 (fstand_nan (Or.inl (by simpa using oa)))
    exact three_n1 a b _ _ _ _ _ _ _ w hu hv (by omega) c0 c1 c2 c3 c4 m0 m1 (is_is 25 a b _ ha hb q1) (is_is 23 a b _ ha hb q2) (is_is 27 a b _ ha hb q3) (is_is 24 a b _ ha hb q4) (is_is 26 a b _ ha hb q5) (is_is 28 a b _ ha hb q6)
end Go.Proofs.Ytadjdccjhaejfab
