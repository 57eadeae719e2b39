import Derived.Test.YtadjdccjhaejfabABase
import Derived.Test.YtadjdccjhaejfabSNeigh
namespace Go.Proofs.Ytadjdccjhaejfab
open Go.RowKit
theorem hoV_none {op a b : Nat} (h : hoE op = 61) : hoV op a b = false := by
  have c : ¬ (13 ≤ op ∧ op ≤ 28) := fun c => by unfold hoE at h; rw [if_pos c] at h; omega
  unfold hoV
  rw [if_neg (by omega), if_neg (by omega), if_neg (by omega), if_neg (by omega), if_neg (by omega), if_neg (by omega), if_neg (by omega), if_neg (by omega), if_neg (by omega), if_neg (by omega), if_neg (by omega), if_neg (by omega), if_neg (by omega), if_neg (by omega), if_neg (by omega), if_neg (by omega)]
theorem fstand_cases (a b : Nat) : (fstand a b = 1 ∨ fstand a b = 2 ∨ fstand a b = 3 ∨ fstand a b = 4) := by
  unfold fstand
  cases Ieee.single.order a b with
  | none => exact Or.inl rfl
  | some c => cases c <;> simp
theorem fstand_swap (a b : Nat) (ha : a < 4294967296) (hb : b < 4294967296) : (fstand b a = 3 ↔ fstand a b = 3) ∧ (fstand b a = 2 ↔ fstand a b = 4) ∧ (fstand b a = 4 ↔ fstand a b = 2) := by
  cases oa : ok a with
  | false => rw [fstand_nan (Or.inl oa), fstand_nan (Or.inr oa)]; decide
  | true =>
    cases ob : ok b with
    | false => rw [fstand_nan (Or.inl ob), fstand_nan (Or.inr ob)]; decide
    | true =>
      unfold fstand
      rw [order_key a b ha hb oa ob, order_key b a hb ha ob oa]
      simp only [compare, compareOfLessAndEq]
      by_cases h1 : key a < key b
      · rw [if_pos h1, if_neg (by omega), if_neg (by omega)]; decide
      · by_cases h2 : key a = key b
        · rw [if_neg h1, if_pos h2, if_neg (by omega), if_pos h2.symm]; decide
        · rw [if_neg h1, if_neg h2, if_pos (by omega)]; decide
theorem dd {p q : Prop} [Decidable p] [Decidable q] (h : p ↔ q) : decide p = decide q := decide_eq_decide.2 h
theorem dn {p q : Prop} [Decidable p] [Decidable q] (h : p ↔ ¬ q) : decide p = !decide q := by rw [← decide_not]; exact decide_eq_decide.2 h
theorem hs_13 (a b : Nat) : hoV 13 b a = hoV 13 a b := by
  rw [hoV_13, hoV_13]
  exact dd (by omega)
theorem hp_13 (a b : Nat) : hoV 14 a b = !hoV 13 a b := by
  rw [hoV_14, hoV_13]
  exact dn (by omega)
theorem hs_14 (a b : Nat) : hoV 14 b a = hoV 14 a b := by
  rw [hoV_14, hoV_14]
  exact dd (by omega)
theorem hp_14 (a b : Nat) : hoV 13 a b = !hoV 14 a b := by
  rw [hoV_13, hoV_14]
  exact dn (by omega)
theorem hs_15 (a b : Nat) : hoV 17 b a = hoV 15 a b := by
  rw [hoV_17, hoV_15]
theorem hp_15 (a b : Nat) : hoV 18 a b = !hoV 15 a b := by
  rw [hoV_18, hoV_15]
  exact dn (by omega)
theorem hs_16 (a b : Nat) : hoV 18 b a = hoV 16 a b := by
  rw [hoV_18, hoV_16]
theorem hp_16 (a b : Nat) : hoV 17 a b = !hoV 16 a b := by
  rw [hoV_17, hoV_16]
  exact dn (by omega)
theorem hs_17 (a b : Nat) : hoV 15 b a = hoV 17 a b := by
  rw [hoV_15, hoV_17]
theorem hp_17 (a b : Nat) : hoV 16 a b = !hoV 17 a b := by
  rw [hoV_16, hoV_17]
  exact dn (by omega)
theorem hs_18 (a b : Nat) : hoV 16 b a = hoV 18 a b := by
  rw [hoV_16, hoV_18]
theorem hp_18 (a b : Nat) : hoV 15 a b = !hoV 18 a b := by
  rw [hoV_15, hoV_18]
  exact dn (by omega)
theorem hs_19 (a b : Nat) : hoV 21 b a = hoV 19 a b := by
  rw [hoV_21, hoV_19]
theorem hp_19 (a b : Nat) : hoV 22 a b = !hoV 19 a b := by
  rw [hoV_22, hoV_19]
  exact dn (by omega)
theorem hs_20 (a b : Nat) : hoV 22 b a = hoV 20 a b := by
  rw [hoV_22, hoV_20]
theorem hp_20 (a b : Nat) : hoV 21 a b = !hoV 20 a b := by
  rw [hoV_21, hoV_20]
  exact dn (by omega)
theorem hs_21 (a b : Nat) : hoV 19 b a = hoV 21 a b := by
  rw [hoV_19, hoV_21]
theorem hp_21 (a b : Nat) : hoV 20 a b = !hoV 21 a b := by
  rw [hoV_20, hoV_21]
  exact dn (by omega)
theorem hs_22 (a b : Nat) : hoV 20 b a = hoV 22 a b := by
  rw [hoV_20, hoV_22]
theorem hp_22 (a b : Nat) : hoV 19 a b = !hoV 22 a b := by
  rw [hoV_19, hoV_22]
  exact dn (by omega)
theorem hs_23 (a b : Nat) (ha : a < 4294967296) (hb : b < 4294967296) : hoV 23 b a = hoV 23 a b := by
  obtain ⟨e1, e2, e3⟩ := fstand_swap a b ha hb
  rw [hoV_23, hoV_23]
  exact dd e1
theorem hp_23 (a b : Nat) : hoV 24 a b = !hoV 23 a b := by
  rw [hoV_24, hoV_23]
theorem hs_24 (a b : Nat) (ha : a < 4294967296) (hb : b < 4294967296) : hoV 24 b a = hoV 24 a b := by
  obtain ⟨e1, e2, e3⟩ := fstand_swap a b ha hb
  rw [hoV_24, hoV_24]
  rw [dd e1]
theorem hp_24 (a b : Nat) : hoV 23 a b = !hoV 24 a b := by
  rw [hoV_23, hoV_24]
  simp
theorem hs_25 (a b : Nat) (ha : a < 4294967296) (hb : b < 4294967296) : hoV 27 b a = hoV 25 a b := by
  obtain ⟨e1, e2, e3⟩ := fstand_swap a b ha hb
  rw [hoV_27, hoV_25]
  exact dd e3
theorem hs_26 (a b : Nat) (ha : a < 4294967296) (hb : b < 4294967296) : hoV 28 b a = hoV 26 a b := by
  obtain ⟨e1, e2, e3⟩ := fstand_swap a b ha hb
  rw [hoV_28, hoV_26]
  rw [dd e3, dd e1]
theorem hs_27 (a b : Nat) (ha : a < 4294967296) (hb : b < 4294967296) : hoV 25 b a = hoV 27 a b := by
  obtain ⟨e1, e2, e3⟩ := fstand_swap a b ha hb
  rw [hoV_25, hoV_27]
  exact dd e2
theorem hs_28 (a b : Nat) (ha : a < 4294967296) (hb : b < 4294967296) : hoV 26 b a = hoV 28 a b := by
  obtain ⟨e1, e2, e3⟩ := fstand_swap a b ha hb
  rw [hoV_26, hoV_28]
  rw [dd e2, dd e1]
set_option maxRecDepth 100000 in
set_option maxHeartbeats 1000000 in
theorem ord_13 (a b : Nat) (X : Bool) (w : World) (ha : a < 4294967296) (hb : b < 4294967296) (hX : hoV 13 a b = X) :
    Calls Try.prog 3 #[.int .u8 13, .int .u32 a, .int .u32 b] w fun e w' => e = .returned (.bool true) ∧ Below w.heap.size w w' := by
  have d0 : ∀ w, Calls Try.prog 5 #[.int .u8 13, .int .u32 a, .int .u32 b] w fun e w' => e = .returned (.tuple #[.bool X, .int .i64 0]) ∧ w' = w := fun w => by
    have := ho_any 13 a b w ha hb
    rw [hX] at this
    exact this
  have d1 : ∀ w, Calls Try.prog 7 #[.int .u8 13] w fun e w' => e = .returned (.tuple #[.int .u8 13, .int .i64 0]) ∧ w' = w := fun w => sw_any 13 w
  have d2 : Is 13 b a X := is_is 13 b a X hb ha (by rw [hs_13 a b, hX])
  have d3 : ∀ w, Calls Try.prog 7 #[.int .u8 13] w fun e w' => e = .returned (.tuple #[.int .u8 13, .int .i64 0]) ∧ w' = w := fun w => sw_any 13 w
  have d4 : ∀ w, Calls Try.prog 9 #[.int .u8 13] w fun e w' => e = .returned (.tuple #[.int .u8 14, .int .i64 0]) ∧ w' = w := fun w => op_any 13 w
  have d5 : ∀ w, Calls Try.prog 9 #[.int .u8 14] w fun e w' => e = .returned (.tuple #[.int .u8 13, .int .i64 0]) ∧ w' = w := fun w => op_any 14 w
  have d6 : Is 14 a b (!X) := is_is 14 a b (!X) ha hb (by rw [hp_13 a b, hX])
  have HB : Below w.heap.size w w := Below.refl _ _
  clear hX
  cases X
  all_goals (go_enter Try.func3, Try.ntmps3)
  all_goals (go_wp2_with (first
    | (go_at_call 5; with_reducible refine (d0 _).mono ?_; rintro e wq ⟨rfl, hq⟩; subst wq)
    | (go_at_call 7; with_reducible refine (d1 _).mono ?_; rintro e wq ⟨rfl, hq⟩; subst wq)
    | (go_at_call 8; with_reducible refine (d2 _).mono ?_; rintro e wq ⟨rfl, hq⟩; subst wq)
    | (go_at_call 7; with_reducible refine (d3 _).mono ?_; rintro e wq ⟨rfl, hq⟩; subst wq)
    | (go_at_call 9; with_reducible refine (d4 _).mono ?_; rintro e wq ⟨rfl, hq⟩; subst wq)
    | (go_at_call 9; with_reducible refine (d5 _).mono ?_; rintro e wq ⟨rfl, hq⟩; subst wq)
    | (go_at_call 8; with_reducible refine (d6 _).mono ?_; rintro e wq ⟨rfl, hq⟩; subst wq)
    | (go_at_call 6; with_reducible refine (awake6 _).mono ?_; rintro e wq ⟨rfl, hq⟩; replace HB : Below w.heap.size w wq := bt2 hq HB)))
  all_goals (go_ret; exact ⟨rfl, HB⟩)
set_option maxRecDepth 100000 in
set_option maxHeartbeats 1000000 in
theorem ord_14 (a b : Nat) (X : Bool) (w : World) (ha : a < 4294967296) (hb : b < 4294967296) (hX : hoV 14 a b = X) :
    Calls Try.prog 3 #[.int .u8 14, .int .u32 a, .int .u32 b] w fun e w' => e = .returned (.bool true) ∧ Below w.heap.size w w' := by
  have d0 : ∀ w, Calls Try.prog 5 #[.int .u8 14, .int .u32 a, .int .u32 b] w fun e w' => e = .returned (.tuple #[.bool X, .int .i64 0]) ∧ w' = w := fun w => by
    have := ho_any 14 a b w ha hb
    rw [hX] at this
    exact this
  have d1 : ∀ w, Calls Try.prog 7 #[.int .u8 14] w fun e w' => e = .returned (.tuple #[.int .u8 14, .int .i64 0]) ∧ w' = w := fun w => sw_any 14 w
  have d2 : Is 14 b a X := is_is 14 b a X hb ha (by rw [hs_14 a b, hX])
  have d3 : ∀ w, Calls Try.prog 7 #[.int .u8 14] w fun e w' => e = .returned (.tuple #[.int .u8 14, .int .i64 0]) ∧ w' = w := fun w => sw_any 14 w
  have d4 : ∀ w, Calls Try.prog 9 #[.int .u8 14] w fun e w' => e = .returned (.tuple #[.int .u8 13, .int .i64 0]) ∧ w' = w := fun w => op_any 14 w
  have d5 : ∀ w, Calls Try.prog 9 #[.int .u8 13] w fun e w' => e = .returned (.tuple #[.int .u8 14, .int .i64 0]) ∧ w' = w := fun w => op_any 13 w
  have d6 : Is 13 a b (!X) := is_is 13 a b (!X) ha hb (by rw [hp_14 a b, hX])
  have HB : Below w.heap.size w w := Below.refl _ _
  clear hX
  cases X
  all_goals (go_enter Try.func3, Try.ntmps3)
  all_goals (go_wp2_with (first
    | (go_at_call 5; with_reducible refine (d0 _).mono ?_; rintro e wq ⟨rfl, hq⟩; subst wq)
    | (go_at_call 7; with_reducible refine (d1 _).mono ?_; rintro e wq ⟨rfl, hq⟩; subst wq)
    | (go_at_call 8; with_reducible refine (d2 _).mono ?_; rintro e wq ⟨rfl, hq⟩; subst wq)
    | (go_at_call 7; with_reducible refine (d3 _).mono ?_; rintro e wq ⟨rfl, hq⟩; subst wq)
    | (go_at_call 9; with_reducible refine (d4 _).mono ?_; rintro e wq ⟨rfl, hq⟩; subst wq)
    | (go_at_call 9; with_reducible refine (d5 _).mono ?_; rintro e wq ⟨rfl, hq⟩; subst wq)
    | (go_at_call 8; with_reducible refine (d6 _).mono ?_; rintro e wq ⟨rfl, hq⟩; subst wq)
    | (go_at_call 6; with_reducible refine (awake6 _).mono ?_; rintro e wq ⟨rfl, hq⟩; replace HB : Below w.heap.size w wq := bt2 hq HB)))
  all_goals (go_ret; exact ⟨rfl, HB⟩)
set_option maxRecDepth 100000 in
set_option maxHeartbeats 1000000 in
theorem ord_15 (a b : Nat) (X : Bool) (w : World) (ha : a < 4294967296) (hb : b < 4294967296) (hX : hoV 15 a b = X) :
    Calls Try.prog 3 #[.int .u8 15, .int .u32 a, .int .u32 b] w fun e w' => e = .returned (.bool true) ∧ Below w.heap.size w w' := by
  have d0 : ∀ w, Calls Try.prog 5 #[.int .u8 15, .int .u32 a, .int .u32 b] w fun e w' => e = .returned (.tuple #[.bool X, .int .i64 0]) ∧ w' = w := fun w => by
    have := ho_any 15 a b w ha hb
    rw [hX] at this
    exact this
  have d1 : ∀ w, Calls Try.prog 7 #[.int .u8 15] w fun e w' => e = .returned (.tuple #[.int .u8 17, .int .i64 0]) ∧ w' = w := fun w => sw_any 15 w
  have d2 : Is 17 b a X := is_is 17 b a X hb ha (by rw [hs_15 a b, hX])
  have d3 : ∀ w, Calls Try.prog 7 #[.int .u8 17] w fun e w' => e = .returned (.tuple #[.int .u8 15, .int .i64 0]) ∧ w' = w := fun w => sw_any 17 w
  have d4 : ∀ w, Calls Try.prog 9 #[.int .u8 15] w fun e w' => e = .returned (.tuple #[.int .u8 18, .int .i64 0]) ∧ w' = w := fun w => op_any 15 w
  have d5 : ∀ w, Calls Try.prog 9 #[.int .u8 18] w fun e w' => e = .returned (.tuple #[.int .u8 15, .int .i64 0]) ∧ w' = w := fun w => op_any 18 w
  have d6 : Is 18 a b (!X) := is_is 18 a b (!X) ha hb (by rw [hp_15 a b, hX])
  have HB : Below w.heap.size w w := Below.refl _ _
  clear hX
  cases X
  all_goals (go_enter Try.func3, Try.ntmps3)
  all_goals (go_wp2_with (first
    | (go_at_call 5; with_reducible refine (d0 _).mono ?_; rintro e wq ⟨rfl, hq⟩; subst wq)
    | (go_at_call 7; with_reducible refine (d1 _).mono ?_; rintro e wq ⟨rfl, hq⟩; subst wq)
    | (go_at_call 8; with_reducible refine (d2 _).mono ?_; rintro e wq ⟨rfl, hq⟩; subst wq)
    | (go_at_call 7; with_reducible refine (d3 _).mono ?_; rintro e wq ⟨rfl, hq⟩; subst wq)
    | (go_at_call 9; with_reducible refine (d4 _).mono ?_; rintro e wq ⟨rfl, hq⟩; subst wq)
    | (go_at_call 9; with_reducible refine (d5 _).mono ?_; rintro e wq ⟨rfl, hq⟩; subst wq)
    | (go_at_call 8; with_reducible refine (d6 _).mono ?_; rintro e wq ⟨rfl, hq⟩; subst wq)
    | (go_at_call 6; with_reducible refine (awake6 _).mono ?_; rintro e wq ⟨rfl, hq⟩; replace HB : Below w.heap.size w wq := bt2 hq HB)))
  all_goals (go_ret; exact ⟨rfl, HB⟩)
set_option maxRecDepth 100000 in
set_option maxHeartbeats 1000000 in
theorem ord_16 (a b : Nat) (X : Bool) (w : World) (ha : a < 4294967296) (hb : b < 4294967296) (hX : hoV 16 a b = X) :
    Calls Try.prog 3 #[.int .u8 16, .int .u32 a, .int .u32 b] w fun e w' => e = .returned (.bool true) ∧ Below w.heap.size w w' := by
  have d0 : ∀ w, Calls Try.prog 5 #[.int .u8 16, .int .u32 a, .int .u32 b] w fun e w' => e = .returned (.tuple #[.bool X, .int .i64 0]) ∧ w' = w := fun w => by
    have := ho_any 16 a b w ha hb
    rw [hX] at this
    exact this
  have d1 : ∀ w, Calls Try.prog 7 #[.int .u8 16] w fun e w' => e = .returned (.tuple #[.int .u8 18, .int .i64 0]) ∧ w' = w := fun w => sw_any 16 w
  have d2 : Is 18 b a X := is_is 18 b a X hb ha (by rw [hs_16 a b, hX])
  have d3 : ∀ w, Calls Try.prog 7 #[.int .u8 18] w fun e w' => e = .returned (.tuple #[.int .u8 16, .int .i64 0]) ∧ w' = w := fun w => sw_any 18 w
  have d4 : ∀ w, Calls Try.prog 9 #[.int .u8 16] w fun e w' => e = .returned (.tuple #[.int .u8 17, .int .i64 0]) ∧ w' = w := fun w => op_any 16 w
  have d5 : ∀ w, Calls Try.prog 9 #[.int .u8 17] w fun e w' => e = .returned (.tuple #[.int .u8 16, .int .i64 0]) ∧ w' = w := fun w => op_any 17 w
  have d6 : Is 17 a b (!X) := is_is 17 a b (!X) ha hb (by rw [hp_16 a b, hX])
  have HB : Below w.heap.size w w := Below.refl _ _
  clear hX
  cases X
  all_goals (go_enter Try.func3, Try.ntmps3)
  all_goals (go_wp2_with (first
    | (go_at_call 5; with_reducible refine (d0 _).mono ?_; rintro e wq ⟨rfl, hq⟩; subst wq)
    | (go_at_call 7; with_reducible refine (d1 _).mono ?_; rintro e wq ⟨rfl, hq⟩; subst wq)
    | (go_at_call 8; with_reducible refine (d2 _).mono ?_; rintro e wq ⟨rfl, hq⟩; subst wq)
    | (go_at_call 7; with_reducible refine (d3 _).mono ?_; rintro e wq ⟨rfl, hq⟩; subst wq)
    | (go_at_call 9; with_reducible refine (d4 _).mono ?_; rintro e wq ⟨rfl, hq⟩; subst wq)
    | (go_at_call 9; with_reducible refine (d5 _).mono ?_; rintro e wq ⟨rfl, hq⟩; subst wq)
    | (go_at_call 8; with_reducible refine (d6 _).mono ?_; rintro e wq ⟨rfl, hq⟩; subst wq)
    | (go_at_call 6; with_reducible refine (awake6 _).mono ?_; rintro e wq ⟨rfl, hq⟩; replace HB : Below w.heap.size w wq := bt2 hq HB)))
  all_goals (go_ret; exact ⟨rfl, HB⟩)
set_option maxRecDepth 100000 in
set_option maxHeartbeats 1000000 in
theorem ord_17 (a b : Nat) (X : Bool) (w : World) (ha : a < 4294967296) (hb : b < 4294967296) (hX : hoV 17 a b = X) :
    Calls Try.prog 3 #[.int .u8 17, .int .u32 a, .int .u32 b] w fun e w' => e = .returned (.bool true) ∧ Below w.heap.size w w' := by
  have d0 : ∀ w, Calls Try.prog 5 #[.int .u8 17, .int .u32 a, .int .u32 b] w fun e w' => e = .returned (.tuple #[.bool X, .int .i64 0]) ∧ w' = w := fun w => by
    have := ho_any 17 a b w ha hb
    rw [hX] at this
    exact this
  have d1 : ∀ w, Calls Try.prog 7 #[.int .u8 17] w fun e w' => e = .returned (.tuple #[.int .u8 15, .int .i64 0]) ∧ w' = w := fun w => sw_any 17 w
  have d2 : Is 15 b a X := is_is 15 b a X hb ha (by rw [hs_17 a b, hX])
  have d3 : ∀ w, Calls Try.prog 7 #[.int .u8 15] w fun e w' => e = .returned (.tuple #[.int .u8 17, .int .i64 0]) ∧ w' = w := fun w => sw_any 15 w
  have d4 : ∀ w, Calls Try.prog 9 #[.int .u8 17] w fun e w' => e = .returned (.tuple #[.int .u8 16, .int .i64 0]) ∧ w' = w := fun w => op_any 17 w
  have d5 : ∀ w, Calls Try.prog 9 #[.int .u8 16] w fun e w' => e = .returned (.tuple #[.int .u8 17, .int .i64 0]) ∧ w' = w := fun w => op_any 16 w
  have d6 : Is 16 a b (!X) := is_is 16 a b (!X) ha hb (by rw [hp_17 a b, hX])
  have HB : Below w.heap.size w w := Below.refl _ _
  clear hX
  cases X
  all_goals (go_enter Try.func3, Try.ntmps3)
  all_goals (go_wp2_with (first
    | (go_at_call 5; with_reducible refine (d0 _).mono ?_; rintro e wq ⟨rfl, hq⟩; subst wq)
    | (go_at_call 7; with_reducible refine (d1 _).mono ?_; rintro e wq ⟨rfl, hq⟩; subst wq)
    | (go_at_call 8; with_reducible refine (d2 _).mono ?_; rintro e wq ⟨rfl, hq⟩; subst wq)
    | (go_at_call 7; with_reducible refine (d3 _).mono ?_; rintro e wq ⟨rfl, hq⟩; subst wq)
    | (go_at_call 9; with_reducible refine (d4 _).mono ?_; rintro e wq ⟨rfl, hq⟩; subst wq)
    | (go_at_call 9; with_reducible refine (d5 _).mono ?_; rintro e wq ⟨rfl, hq⟩; subst wq)
    | (go_at_call 8; with_reducible refine (d6 _).mono ?_; rintro e wq ⟨rfl, hq⟩; subst wq)
    | (go_at_call 6; with_reducible refine (awake6 _).mono ?_; rintro e wq ⟨rfl, hq⟩; replace HB : Below w.heap.size w wq := bt2 hq HB)))
  all_goals (go_ret; exact ⟨rfl, HB⟩)
set_option maxRecDepth 100000 in
set_option maxHeartbeats 1000000 in
theorem ord_18 (a b : Nat) (X : Bool) (w : World) (ha : a < 4294967296) (hb : b < 4294967296) (hX : hoV 18 a b = X) :
    Calls Try.prog 3 #[.int .u8 18, .int .u32 a, .int .u32 b] w fun e w' => e = .returned (.bool true) ∧ Below w.heap.size w w' := by
  have d0 : ∀ w, Calls Try.prog 5 #[.int .u8 18, .int .u32 a, .int .u32 b] w fun e w' => e = .returned (.tuple #[.bool X, .int .i64 0]) ∧ w' = w := fun w => by
    have := ho_any 18 a b w ha hb
    rw [hX] at this
    exact this
  have d1 : ∀ w, Calls Try.prog 7 #[.int .u8 18] w fun e w' => e = .returned (.tuple #[.int .u8 16, .int .i64 0]) ∧ w' = w := fun w => sw_any 18 w
  have d2 : Is 16 b a X := is_is 16 b a X hb ha (by rw [hs_18 a b, hX])
  have d3 : ∀ w, Calls Try.prog 7 #[.int .u8 16] w fun e w' => e = .returned (.tuple #[.int .u8 18, .int .i64 0]) ∧ w' = w := fun w => sw_any 16 w
  have d4 : ∀ w, Calls Try.prog 9 #[.int .u8 18] w fun e w' => e = .returned (.tuple #[.int .u8 15, .int .i64 0]) ∧ w' = w := fun w => op_any 18 w
  have d5 : ∀ w, Calls Try.prog 9 #[.int .u8 15] w fun e w' => e = .returned (.tuple #[.int .u8 18, .int .i64 0]) ∧ w' = w := fun w => op_any 15 w
  have d6 : Is 15 a b (!X) := is_is 15 a b (!X) ha hb (by rw [hp_18 a b, hX])
  have HB : Below w.heap.size w w := Below.refl _ _
  clear hX
  cases X
  all_goals (go_enter Try.func3, Try.ntmps3)
  all_goals (go_wp2_with (first
    | (go_at_call 5; with_reducible refine (d0 _).mono ?_; rintro e wq ⟨rfl, hq⟩; subst wq)
    | (go_at_call 7; with_reducible refine (d1 _).mono ?_; rintro e wq ⟨rfl, hq⟩; subst wq)
    | (go_at_call 8; with_reducible refine (d2 _).mono ?_; rintro e wq ⟨rfl, hq⟩; subst wq)
    | (go_at_call 7; with_reducible refine (d3 _).mono ?_; rintro e wq ⟨rfl, hq⟩; subst wq)
    | (go_at_call 9; with_reducible refine (d4 _).mono ?_; rintro e wq ⟨rfl, hq⟩; subst wq)
    | (go_at_call 9; with_reducible refine (d5 _).mono ?_; rintro e wq ⟨rfl, hq⟩; subst wq)
    | (go_at_call 8; with_reducible refine (d6 _).mono ?_; rintro e wq ⟨rfl, hq⟩; subst wq)
    | (go_at_call 6; with_reducible refine (awake6 _).mono ?_; rintro e wq ⟨rfl, hq⟩; replace HB : Below w.heap.size w wq := bt2 hq HB)))
  all_goals (go_ret; exact ⟨rfl, HB⟩)
set_option maxRecDepth 100000 in
set_option maxHeartbeats 1000000 in
theorem ord_19 (a b : Nat) (X : Bool) (w : World) (ha : a < 4294967296) (hb : b < 4294967296) (hX : hoV 19 a b = X) :
    Calls Try.prog 3 #[.int .u8 19, .int .u32 a, .int .u32 b] w fun e w' => e = .returned (.bool true) ∧ Below w.heap.size w w' := by
  have d0 : ∀ w, Calls Try.prog 5 #[.int .u8 19, .int .u32 a, .int .u32 b] w fun e w' => e = .returned (.tuple #[.bool X, .int .i64 0]) ∧ w' = w := fun w => by
    have := ho_any 19 a b w ha hb
    rw [hX] at this
    exact this
  have d1 : ∀ w, Calls Try.prog 7 #[.int .u8 19] w fun e w' => e = .returned (.tuple #[.int .u8 21, .int .i64 0]) ∧ w' = w := fun w => sw_any 19 w
  have d2 : Is 21 b a X := is_is 21 b a X hb ha (by rw [hs_19 a b, hX])
  have d3 : ∀ w, Calls Try.prog 7 #[.int .u8 21] w fun e w' => e = .returned (.tuple #[.int .u8 19, .int .i64 0]) ∧ w' = w := fun w => sw_any 21 w
  have d4 : ∀ w, Calls Try.prog 9 #[.int .u8 19] w fun e w' => e = .returned (.tuple #[.int .u8 22, .int .i64 0]) ∧ w' = w := fun w => op_any 19 w
  have d5 : ∀ w, Calls Try.prog 9 #[.int .u8 22] w fun e w' => e = .returned (.tuple #[.int .u8 19, .int .i64 0]) ∧ w' = w := fun w => op_any 22 w
  have d6 : Is 22 a b (!X) := is_is 22 a b (!X) ha hb (by rw [hp_19 a b, hX])
  have HB : Below w.heap.size w w := Below.refl _ _
  clear hX
  cases X
  all_goals (go_enter Try.func3, Try.ntmps3)
  all_goals (go_wp2_with (first
    | (go_at_call 5; with_reducible refine (d0 _).mono ?_; rintro e wq ⟨rfl, hq⟩; subst wq)
    | (go_at_call 7; with_reducible refine (d1 _).mono ?_; rintro e wq ⟨rfl, hq⟩; subst wq)
    | (go_at_call 8; with_reducible refine (d2 _).mono ?_; rintro e wq ⟨rfl, hq⟩; subst wq)
    | (go_at_call 7; with_reducible refine (d3 _).mono ?_; rintro e wq ⟨rfl, hq⟩; subst wq)
    | (go_at_call 9; with_reducible refine (d4 _).mono ?_; rintro e wq ⟨rfl, hq⟩; subst wq)
    | (go_at_call 9; with_reducible refine (d5 _).mono ?_; rintro e wq ⟨rfl, hq⟩; subst wq)
    | (go_at_call 8; with_reducible refine (d6 _).mono ?_; rintro e wq ⟨rfl, hq⟩; subst wq)
    | (go_at_call 6; with_reducible refine (awake6 _).mono ?_; rintro e wq ⟨rfl, hq⟩; replace HB : Below w.heap.size w wq := bt2 hq HB)))
  all_goals (go_ret; exact ⟨rfl, HB⟩)
set_option maxRecDepth 100000 in
set_option maxHeartbeats 1000000 in
theorem ord_20 (a b : Nat) (X : Bool) (w : World) (ha : a < 4294967296) (hb : b < 4294967296) (hX : hoV 20 a b = X) :
    Calls Try.prog 3 #[.int .u8 20, .int .u32 a, .int .u32 b] w fun e w' => e = .returned (.bool true) ∧ Below w.heap.size w w' := by
  have d0 : ∀ w, Calls Try.prog 5 #[.int .u8 20, .int .u32 a, .int .u32 b] w fun e w' => e = .returned (.tuple #[.bool X, .int .i64 0]) ∧ w' = w := fun w => by
    have := ho_any 20 a b w ha hb
    rw [hX] at this
    exact this
  have d1 : ∀ w, Calls Try.prog 7 #[.int .u8 20] w fun e w' => e = .returned (.tuple #[.int .u8 22, .int .i64 0]) ∧ w' = w := fun w => sw_any 20 w
  have d2 : Is 22 b a X := is_is 22 b a X hb ha (by rw [hs_20 a b, hX])
  have d3 : ∀ w, Calls Try.prog 7 #[.int .u8 22] w fun e w' => e = .returned (.tuple #[.int .u8 20, .int .i64 0]) ∧ w' = w := fun w => sw_any 22 w
  have d4 : ∀ w, Calls Try.prog 9 #[.int .u8 20] w fun e w' => e = .returned (.tuple #[.int .u8 21, .int .i64 0]) ∧ w' = w := fun w => op_any 20 w
  have d5 : ∀ w, Calls Try.prog 9 #[.int .u8 21] w fun e w' => e = .returned (.tuple #[.int .u8 20, .int .i64 0]) ∧ w' = w := fun w => op_any 21 w
  have d6 : Is 21 a b (!X) := is_is 21 a b (!X) ha hb (by rw [hp_20 a b, hX])
  have HB : Below w.heap.size w w := Below.refl _ _
  clear hX
  cases X
  all_goals (go_enter Try.func3, Try.ntmps3)
  all_goals (go_wp2_with (first
    | (go_at_call 5; with_reducible refine (d0 _).mono ?_; rintro e wq ⟨rfl, hq⟩; subst wq)
    | (go_at_call 7; with_reducible refine (d1 _).mono ?_; rintro e wq ⟨rfl, hq⟩; subst wq)
    | (go_at_call 8; with_reducible refine (d2 _).mono ?_; rintro e wq ⟨rfl, hq⟩; subst wq)
    | (go_at_call 7; with_reducible refine (d3 _).mono ?_; rintro e wq ⟨rfl, hq⟩; subst wq)
    | (go_at_call 9; with_reducible refine (d4 _).mono ?_; rintro e wq ⟨rfl, hq⟩; subst wq)
    | (go_at_call 9; with_reducible refine (d5 _).mono ?_; rintro e wq ⟨rfl, hq⟩; subst wq)
    | (go_at_call 8; with_reducible refine (d6 _).mono ?_; rintro e wq ⟨rfl, hq⟩; subst wq)
    | (go_at_call 6; with_reducible refine (awake6 _).mono ?_; rintro e wq ⟨rfl, hq⟩; replace HB : Below w.heap.size w wq := bt2 hq HB)))
  all_goals (go_ret; exact ⟨rfl, HB⟩)
set_option maxRecDepth 100000 in
set_option maxHeartbeats 1000000 in
theorem ord_21 (a b : Nat) (X : Bool) (w : World) (ha : a < 4294967296) (hb : b < 4294967296) (hX : hoV 21 a b = X) :
    Calls Try.prog 3 #[.int .u8 21, .int .u32 a, .int .u32 b] w fun e w' => e = .returned (.bool true) ∧ Below w.heap.size w w' := by
  have d0 : ∀ w, Calls Try.prog 5 #[.int .u8 21, .int .u32 a, .int .u32 b] w fun e w' => e = .returned (.tuple #[.bool X, .int .i64 0]) ∧ w' = w := fun w => by
    have := ho_any 21 a b w ha hb
    rw [hX] at this
    exact this
  have d1 : ∀ w, Calls Try.prog 7 #[.int .u8 21] w fun e w' => e = .returned (.tuple #[.int .u8 19, .int .i64 0]) ∧ w' = w := fun w => sw_any 21 w
  have d2 : Is 19 b a X := is_is 19 b a X hb ha (by rw [hs_21 a b, hX])
  have d3 : ∀ w, Calls Try.prog 7 #[.int .u8 19] w fun e w' => e = .returned (.tuple #[.int .u8 21, .int .i64 0]) ∧ w' = w := fun w => sw_any 19 w
  have d4 : ∀ w, Calls Try.prog 9 #[.int .u8 21] w fun e w' => e = .returned (.tuple #[.int .u8 20, .int .i64 0]) ∧ w' = w := fun w => op_any 21 w
  have d5 : ∀ w, Calls Try.prog 9 #[.int .u8 20] w fun e w' => e = .returned (.tuple #[.int .u8 21, .int .i64 0]) ∧ w' = w := fun w => op_any 20 w
  have d6 : Is 20 a b (!X) := is_is 20 a b (!X) ha hb (by rw [hp_21 a b, hX])
  have HB : Below w.heap.size w w := Below.refl _ _
  clear hX
  cases X
  all_goals (go_enter Try.func3, Try.ntmps3)
  all_goals (go_wp2_with (first
    | (go_at_call 5; with_reducible refine (d0 _).mono ?_; rintro e wq ⟨rfl, hq⟩; subst wq)
    | (go_at_call 7; with_reducible refine (d1 _).mono ?_; rintro e wq ⟨rfl, hq⟩; subst wq)
    | (go_at_call 8; with_reducible refine (d2 _).mono ?_; rintro e wq ⟨rfl, hq⟩; subst wq)
    | (go_at_call 7; with_reducible refine (d3 _).mono ?_; rintro e wq ⟨rfl, hq⟩; subst wq)
    | (go_at_call 9; with_reducible refine (d4 _).mono ?_; rintro e wq ⟨rfl, hq⟩; subst wq)
    | (go_at_call 9; with_reducible refine (d5 _).mono ?_; rintro e wq ⟨rfl, hq⟩; subst wq)
    | (go_at_call 8; with_reducible refine (d6 _).mono ?_; rintro e wq ⟨rfl, hq⟩; subst wq)
    | (go_at_call 6; with_reducible refine (awake6 _).mono ?_; rintro e wq ⟨rfl, hq⟩; replace HB : Below w.heap.size w wq := bt2 hq HB)))
  all_goals (go_ret; exact ⟨rfl, HB⟩)
set_option maxRecDepth 100000 in
set_option maxHeartbeats 1000000 in
theorem ord_22 (a b : Nat) (X : Bool) (w : World) (ha : a < 4294967296) (hb : b < 4294967296) (hX : hoV 22 a b = X) :
    Calls Try.prog 3 #[.int .u8 22, .int .u32 a, .int .u32 b] w fun e w' => e = .returned (.bool true) ∧ Below w.heap.size w w' := by
  have d0 : ∀ w, Calls Try.prog 5 #[.int .u8 22, .int .u32 a, .int .u32 b] w fun e w' => e = .returned (.tuple #[.bool X, .int .i64 0]) ∧ w' = w := fun w => by
    have := ho_any 22 a b w ha hb
    rw [hX] at this
    exact this
  have d1 : ∀ w, Calls Try.prog 7 #[.int .u8 22] w fun e w' => e = .returned (.tuple #[.int .u8 20, .int .i64 0]) ∧ w' = w := fun w => sw_any 22 w
  have d2 : Is 20 b a X := is_is 20 b a X hb ha (by rw [hs_22 a b, hX])
  have d3 : ∀ w, Calls Try.prog 7 #[.int .u8 20] w fun e w' => e = .returned (.tuple #[.int .u8 22, .int .i64 0]) ∧ w' = w := fun w => sw_any 20 w
  have d4 : ∀ w, Calls Try.prog 9 #[.int .u8 22] w fun e w' => e = .returned (.tuple #[.int .u8 19, .int .i64 0]) ∧ w' = w := fun w => op_any 22 w
  have d5 : ∀ w, Calls Try.prog 9 #[.int .u8 19] w fun e w' => e = .returned (.tuple #[.int .u8 22, .int .i64 0]) ∧ w' = w := fun w => op_any 19 w
  have d6 : Is 19 a b (!X) := is_is 19 a b (!X) ha hb (by rw [hp_22 a b, hX])
  have HB : Below w.heap.size w w := Below.refl _ _
  clear hX
  cases X
  all_goals (go_enter Try.func3, Try.ntmps3)
  all_goals (go_wp2_with (first
    | (go_at_call 5; with_reducible refine (d0 _).mono ?_; rintro e wq ⟨rfl, hq⟩; subst wq)
    | (go_at_call 7; with_reducible refine (d1 _).mono ?_; rintro e wq ⟨rfl, hq⟩; subst wq)
    | (go_at_call 8; with_reducible refine (d2 _).mono ?_; rintro e wq ⟨rfl, hq⟩; subst wq)
    | (go_at_call 7; with_reducible refine (d3 _).mono ?_; rintro e wq ⟨rfl, hq⟩; subst wq)
    | (go_at_call 9; with_reducible refine (d4 _).mono ?_; rintro e wq ⟨rfl, hq⟩; subst wq)
    | (go_at_call 9; with_reducible refine (d5 _).mono ?_; rintro e wq ⟨rfl, hq⟩; subst wq)
    | (go_at_call 8; with_reducible refine (d6 _).mono ?_; rintro e wq ⟨rfl, hq⟩; subst wq)
    | (go_at_call 6; with_reducible refine (awake6 _).mono ?_; rintro e wq ⟨rfl, hq⟩; replace HB : Below w.heap.size w wq := bt2 hq HB)))
  all_goals (go_ret; exact ⟨rfl, HB⟩)
set_option maxRecDepth 100000 in
set_option maxHeartbeats 1000000 in
theorem ord_23 (a b : Nat) (X : Bool) (w : World) (ha : a < 4294967296) (hb : b < 4294967296) (hX : hoV 23 a b = X) :
    Calls Try.prog 3 #[.int .u8 23, .int .u32 a, .int .u32 b] w fun e w' => e = .returned (.bool true) ∧ Below w.heap.size w w' := by
  have d0 : ∀ w, Calls Try.prog 5 #[.int .u8 23, .int .u32 a, .int .u32 b] w fun e w' => e = .returned (.tuple #[.bool X, .int .i64 0]) ∧ w' = w := fun w => by
    have := ho_any 23 a b w ha hb
    rw [hX] at this
    exact this
  have d1 : ∀ w, Calls Try.prog 7 #[.int .u8 23] w fun e w' => e = .returned (.tuple #[.int .u8 23, .int .i64 0]) ∧ w' = w := fun w => sw_any 23 w
  have d2 : Is 23 b a X := is_is 23 b a X hb ha (by rw [hs_23 a b ha hb, hX])
  have d3 : ∀ w, Calls Try.prog 7 #[.int .u8 23] w fun e w' => e = .returned (.tuple #[.int .u8 23, .int .i64 0]) ∧ w' = w := fun w => sw_any 23 w
  have d4 : ∀ w, Calls Try.prog 9 #[.int .u8 23] w fun e w' => e = .returned (.tuple #[.int .u8 24, .int .i64 0]) ∧ w' = w := fun w => op_any 23 w
  have d5 : ∀ w, Calls Try.prog 9 #[.int .u8 24] w fun e w' => e = .returned (.tuple #[.int .u8 23, .int .i64 0]) ∧ w' = w := fun w => op_any 24 w
  have d6 : Is 24 a b (!X) := is_is 24 a b (!X) ha hb (by rw [hp_23 a b, hX])
  have HB : Below w.heap.size w w := Below.refl _ _
  clear hX
  cases X
  all_goals (go_enter Try.func3, Try.ntmps3)
  all_goals (go_wp2_with (first
    | (go_at_call 5; with_reducible refine (d0 _).mono ?_; rintro e wq ⟨rfl, hq⟩; subst wq)
    | (go_at_call 7; with_reducible refine (d1 _).mono ?_; rintro e wq ⟨rfl, hq⟩; subst wq)
    | (go_at_call 8; with_reducible refine (d2 _).mono ?_; rintro e wq ⟨rfl, hq⟩; subst wq)
    | (go_at_call 7; with_reducible refine (d3 _).mono ?_; rintro e wq ⟨rfl, hq⟩; subst wq)
    | (go_at_call 9; with_reducible refine (d4 _).mono ?_; rintro e wq ⟨rfl, hq⟩; subst wq)
    | (go_at_call 9; with_reducible refine (d5 _).mono ?_; rintro e wq ⟨rfl, hq⟩; subst wq)
    | (go_at_call 8; with_reducible refine (d6 _).mono ?_; rintro e wq ⟨rfl, hq⟩; subst wq)
    | (go_at_call 6; with_reducible refine (awake6 _).mono ?_; rintro e wq ⟨rfl, hq⟩; replace HB : Below w.heap.size w wq := bt2 hq HB)))
  all_goals (go_ret; exact ⟨rfl, HB⟩)
set_option maxRecDepth 100000 in
set_option maxHeartbeats 1000000 in
theorem ord_24 (a b : Nat) (X : Bool) (w : World) (ha : a < 4294967296) (hb : b < 4294967296) (hX : hoV 24 a b = X) :
    Calls Try.prog 3 #[.int .u8 24, .int .u32 a, .int .u32 b] w fun e w' => e = .returned (.bool true) ∧ Below w.heap.size w w' := by
  have d0 : ∀ w, Calls Try.prog 5 #[.int .u8 24, .int .u32 a, .int .u32 b] w fun e w' => e = .returned (.tuple #[.bool X, .int .i64 0]) ∧ w' = w := fun w => by
    have := ho_any 24 a b w ha hb
    rw [hX] at this
    exact this
  have d1 : ∀ w, Calls Try.prog 7 #[.int .u8 24] w fun e w' => e = .returned (.tuple #[.int .u8 24, .int .i64 0]) ∧ w' = w := fun w => sw_any 24 w
  have d2 : Is 24 b a X := is_is 24 b a X hb ha (by rw [hs_24 a b ha hb, hX])
  have d3 : ∀ w, Calls Try.prog 7 #[.int .u8 24] w fun e w' => e = .returned (.tuple #[.int .u8 24, .int .i64 0]) ∧ w' = w := fun w => sw_any 24 w
  have d4 : ∀ w, Calls Try.prog 9 #[.int .u8 24] w fun e w' => e = .returned (.tuple #[.int .u8 23, .int .i64 0]) ∧ w' = w := fun w => op_any 24 w
  have d5 : ∀ w, Calls Try.prog 9 #[.int .u8 23] w fun e w' => e = .returned (.tuple #[.int .u8 24, .int .i64 0]) ∧ w' = w := fun w => op_any 23 w
  have d6 : Is 23 a b (!X) := is_is 23 a b (!X) ha hb (by rw [hp_24 a b, hX])
  have HB : Below w.heap.size w w := Below.refl _ _
  clear hX
  cases X
  all_goals (go_enter Try.func3, Try.ntmps3)
  all_goals (go_wp2_with (first
    | (go_at_call 5; with_reducible refine (d0 _).mono ?_; rintro e wq ⟨rfl, hq⟩; subst wq)
    | (go_at_call 7; with_reducible refine (d1 _).mono ?_; rintro e wq ⟨rfl, hq⟩; subst wq)
    | (go_at_call 8; with_reducible refine (d2 _).mono ?_; rintro e wq ⟨rfl, hq⟩; subst wq)
    | (go_at_call 7; with_reducible refine (d3 _).mono ?_; rintro e wq ⟨rfl, hq⟩; subst wq)
    | (go_at_call 9; with_reducible refine (d4 _).mono ?_; rintro e wq ⟨rfl, hq⟩; subst wq)
    | (go_at_call 9; with_reducible refine (d5 _).mono ?_; rintro e wq ⟨rfl, hq⟩; subst wq)
    | (go_at_call 8; with_reducible refine (d6 _).mono ?_; rintro e wq ⟨rfl, hq⟩; subst wq)
    | (go_at_call 6; with_reducible refine (awake6 _).mono ?_; rintro e wq ⟨rfl, hq⟩; replace HB : Below w.heap.size w wq := bt2 hq HB)))
  all_goals (go_ret; exact ⟨rfl, HB⟩)
set_option maxRecDepth 100000 in
set_option maxHeartbeats 1000000 in
theorem ord_25 (a b : Nat) (X : Bool) (w : World) (ha : a < 4294967296) (hb : b < 4294967296) (hX : hoV 25 a b = X) :
    Calls Try.prog 3 #[.int .u8 25, .int .u32 a, .int .u32 b] w fun e w' => e = .returned (.bool true) ∧ Below w.heap.size w w' := by
  have d0 : ∀ w, Calls Try.prog 5 #[.int .u8 25, .int .u32 a, .int .u32 b] w fun e w' => e = .returned (.tuple #[.bool X, .int .i64 0]) ∧ w' = w := fun w => by
    have := ho_any 25 a b w ha hb
    rw [hX] at this
    exact this
  have d1 : ∀ w, Calls Try.prog 7 #[.int .u8 25] w fun e w' => e = .returned (.tuple #[.int .u8 27, .int .i64 0]) ∧ w' = w := fun w => sw_any 25 w
  have d2 : Is 27 b a X := is_is 27 b a X hb ha (by rw [hs_25 a b ha hb, hX])
  have d3 : ∀ w, Calls Try.prog 7 #[.int .u8 27] w fun e w' => e = .returned (.tuple #[.int .u8 25, .int .i64 0]) ∧ w' = w := fun w => sw_any 27 w
  have d4 : ∀ w, Calls Try.prog 9 #[.int .u8 25] w fun e w' => e = .returned (.tuple #[.int .u8 0, .int .i64 62]) ∧ w' = w := fun w => op_any 25 w
  have HB : Below w.heap.size w w := Below.refl _ _
  clear hX
  cases X
  all_goals (go_enter Try.func3, Try.ntmps3)
  all_goals (go_wp2_with (first
    | (go_at_call 5; with_reducible refine (d0 _).mono ?_; rintro e wq ⟨rfl, hq⟩; subst wq)
    | (go_at_call 7; with_reducible refine (d1 _).mono ?_; rintro e wq ⟨rfl, hq⟩; subst wq)
    | (go_at_call 8; with_reducible refine (d2 _).mono ?_; rintro e wq ⟨rfl, hq⟩; subst wq)
    | (go_at_call 7; with_reducible refine (d3 _).mono ?_; rintro e wq ⟨rfl, hq⟩; subst wq)
    | (go_at_call 9; with_reducible refine (d4 _).mono ?_; rintro e wq ⟨rfl, hq⟩; subst wq)
    | (go_at_call 6; with_reducible refine (awake6 _).mono ?_; rintro e wq ⟨rfl, hq⟩; replace HB : Below w.heap.size w wq := bt2 hq HB)))
  all_goals (go_ret; exact ⟨rfl, HB⟩)
set_option maxRecDepth 100000 in
set_option maxHeartbeats 1000000 in
theorem ord_26 (a b : Nat) (X : Bool) (w : World) (ha : a < 4294967296) (hb : b < 4294967296) (hX : hoV 26 a b = X) :
    Calls Try.prog 3 #[.int .u8 26, .int .u32 a, .int .u32 b] w fun e w' => e = .returned (.bool true) ∧ Below w.heap.size w w' := by
  have d0 : ∀ w, Calls Try.prog 5 #[.int .u8 26, .int .u32 a, .int .u32 b] w fun e w' => e = .returned (.tuple #[.bool X, .int .i64 0]) ∧ w' = w := fun w => by
    have := ho_any 26 a b w ha hb
    rw [hX] at this
    exact this
  have d1 : ∀ w, Calls Try.prog 7 #[.int .u8 26] w fun e w' => e = .returned (.tuple #[.int .u8 28, .int .i64 0]) ∧ w' = w := fun w => sw_any 26 w
  have d2 : Is 28 b a X := is_is 28 b a X hb ha (by rw [hs_26 a b ha hb, hX])
  have d3 : ∀ w, Calls Try.prog 7 #[.int .u8 28] w fun e w' => e = .returned (.tuple #[.int .u8 26, .int .i64 0]) ∧ w' = w := fun w => sw_any 28 w
  have d4 : ∀ w, Calls Try.prog 9 #[.int .u8 26] w fun e w' => e = .returned (.tuple #[.int .u8 0, .int .i64 62]) ∧ w' = w := fun w => op_any 26 w
  have HB : Below w.heap.size w w := Below.refl _ _
  clear hX
  cases X
  all_goals (go_enter Try.func3, Try.ntmps3)
  all_goals (go_wp2_with (first
    | (go_at_call 5; with_reducible refine (d0 _).mono ?_; rintro e wq ⟨rfl, hq⟩; subst wq)
    | (go_at_call 7; with_reducible refine (d1 _).mono ?_; rintro e wq ⟨rfl, hq⟩; subst wq)
    | (go_at_call 8; with_reducible refine (d2 _).mono ?_; rintro e wq ⟨rfl, hq⟩; subst wq)
    | (go_at_call 7; with_reducible refine (d3 _).mono ?_; rintro e wq ⟨rfl, hq⟩; subst wq)
    | (go_at_call 9; with_reducible refine (d4 _).mono ?_; rintro e wq ⟨rfl, hq⟩; subst wq)
    | (go_at_call 6; with_reducible refine (awake6 _).mono ?_; rintro e wq ⟨rfl, hq⟩; replace HB : Below w.heap.size w wq := bt2 hq HB)))
  all_goals (go_ret; exact ⟨rfl, HB⟩)
set_option maxRecDepth 100000 in
set_option maxHeartbeats 1000000 in
theorem ord_27 (a b : Nat) (X : Bool) (w : World) (ha : a < 4294967296) (hb : b < 4294967296) (hX : hoV 27 a b = X) :
    Calls Try.prog 3 #[.int .u8 27, .int .u32 a, .int .u32 b] w fun e w' => e = .returned (.bool true) ∧ Below w.heap.size w w' := by
  have d0 : ∀ w, Calls Try.prog 5 #[.int .u8 27, .int .u32 a, .int .u32 b] w fun e w' => e = .returned (.tuple #[.bool X, .int .i64 0]) ∧ w' = w := fun w => by
    have := ho_any 27 a b w ha hb
    rw [hX] at this
    exact this
  have d1 : ∀ w, Calls Try.prog 7 #[.int .u8 27] w fun e w' => e = .returned (.tuple #[.int .u8 25, .int .i64 0]) ∧ w' = w := fun w => sw_any 27 w
  have d2 : Is 25 b a X := is_is 25 b a X hb ha (by rw [hs_27 a b ha hb, hX])
  have d3 : ∀ w, Calls Try.prog 7 #[.int .u8 25] w fun e w' => e = .returned (.tuple #[.int .u8 27, .int .i64 0]) ∧ w' = w := fun w => sw_any 25 w
  have d4 : ∀ w, Calls Try.prog 9 #[.int .u8 27] w fun e w' => e = .returned (.tuple #[.int .u8 0, .int .i64 62]) ∧ w' = w := fun w => op_any 27 w
  have HB : Below w.heap.size w w := Below.refl _ _
  clear hX
  cases X
  all_goals (go_enter Try.func3, Try.ntmps3)
  all_goals (go_wp2_with (first
    | (go_at_call 5; with_reducible refine (d0 _).mono ?_; rintro e wq ⟨rfl, hq⟩; subst wq)
    | (go_at_call 7; with_reducible refine (d1 _).mono ?_; rintro e wq ⟨rfl, hq⟩; subst wq)
    | (go_at_call 8; with_reducible refine (d2 _).mono ?_; rintro e wq ⟨rfl, hq⟩; subst wq)
    | (go_at_call 7; with_reducible refine (d3 _).mono ?_; rintro e wq ⟨rfl, hq⟩; subst wq)
    | (go_at_call 9; with_reducible refine (d4 _).mono ?_; rintro e wq ⟨rfl, hq⟩; subst wq)
    | (go_at_call 6; with_reducible refine (awake6 _).mono ?_; rintro e wq ⟨rfl, hq⟩; replace HB : Below w.heap.size w wq := bt2 hq HB)))
  all_goals (go_ret; exact ⟨rfl, HB⟩)
set_option maxRecDepth 100000 in
set_option maxHeartbeats 1000000 in
theorem ord_28 (a b : Nat) (X : Bool) (w : World) (ha : a < 4294967296) (hb : b < 4294967296) (hX : hoV 28 a b = X) :
    Calls Try.prog 3 #[.int .u8 28, .int .u32 a, .int .u32 b] w fun e w' => e = .returned (.bool true) ∧ Below w.heap.size w w' := by
  have d0 : ∀ w, Calls Try.prog 5 #[.int .u8 28, .int .u32 a, .int .u32 b] w fun e w' => e = .returned (.tuple #[.bool X, .int .i64 0]) ∧ w' = w := fun w => by
    have := ho_any 28 a b w ha hb
    rw [hX] at this
    exact this
  have d1 : ∀ w, Calls Try.prog 7 #[.int .u8 28] w fun e w' => e = .returned (.tuple #[.int .u8 26, .int .i64 0]) ∧ w' = w := fun w => sw_any 28 w
  have d2 : Is 26 b a X := is_is 26 b a X hb ha (by rw [hs_28 a b ha hb, hX])
  have d3 : ∀ w, Calls Try.prog 7 #[.int .u8 26] w fun e w' => e = .returned (.tuple #[.int .u8 28, .int .i64 0]) ∧ w' = w := fun w => sw_any 26 w
  have d4 : ∀ w, Calls Try.prog 9 #[.int .u8 28] w fun e w' => e = .returned (.tuple #[.int .u8 0, .int .i64 62]) ∧ w' = w := fun w => op_any 28 w
  have HB : Below w.heap.size w w := Below.refl _ _
  clear hX
  cases X
  all_goals (go_enter Try.func3, Try.ntmps3)
  all_goals (go_wp2_with (first
    | (go_at_call 5; with_reducible refine (d0 _).mono ?_; rintro e wq ⟨rfl, hq⟩; subst wq)
    | (go_at_call 7; with_reducible refine (d1 _).mono ?_; rintro e wq ⟨rfl, hq⟩; subst wq)
    | (go_at_call 8; with_reducible refine (d2 _).mono ?_; rintro e wq ⟨rfl, hq⟩; subst wq)
    | (go_at_call 7; with_reducible refine (d3 _).mono ?_; rintro e wq ⟨rfl, hq⟩; subst wq)
    | (go_at_call 9; with_reducible refine (d4 _).mono ?_; rintro e wq ⟨rfl, hq⟩; subst wq)
    | (go_at_call 6; with_reducible refine (awake6 _).mono ?_; rintro e wq ⟨rfl, hq⟩; replace HB : Below w.heap.size w wq := bt2 hq HB)))
  all_goals (go_ret; exact ⟨rfl, HB⟩)
set_option maxRecDepth 100000 in
set_option maxHeartbeats 1000000 in
theorem ord_lo (op a b : Nat) (w : World) (ha : a < 4294967296) (hb : b < 4294967296) (h0 : (op : Int) < 13) :
    Calls Try.prog 3 #[.int .u8 op, .int .u32 a, .int .u32 b] w fun e w' => e = .returned (.bool true) ∧ Below w.heap.size w w' := by
  have d0 : ∀ w, Calls Try.prog 5 #[.int .u8 op, .int .u32 a, .int .u32 b] w fun e w' => e = .returned (.tuple #[.bool false, .int .i64 61]) ∧ w' = w := fun w => by
    have ec : hoE op = 61 := by unfold hoE; rw [if_neg (by omega)]
    have := ho_any op a b w ha hb
    rw [ec, hoV_none ec] at this
    exact this
  have HB : Below w.heap.size w w := Below.refl _ _
  go_enter Try.func3, Try.ntmps3
  go_wp2_with (first
    | (go_at_call 5; with_reducible refine (d0 _).mono ?_; rintro e wq ⟨rfl, hq⟩; subst wq)
    | (go_at_call 6; with_reducible refine (awake6 _).mono ?_; rintro e wq ⟨rfl, hq⟩; replace HB : Below w.heap.size w wq := bt2 hq HB))
  go_ret
  exact ⟨rfl, HB⟩
set_option maxRecDepth 100000 in
set_option maxHeartbeats 1000000 in
theorem ord_hi (op a b : Nat) (w : World) (ha : a < 4294967296) (hb : b < 4294967296) (h0 : (28 : Int) < op) :
    Calls Try.prog 3 #[.int .u8 op, .int .u32 a, .int .u32 b] w fun e w' => e = .returned (.bool true) ∧ Below w.heap.size w w' := by
  have d0 : ∀ w, Calls Try.prog 5 #[.int .u8 op, .int .u32 a, .int .u32 b] w fun e w' => e = .returned (.tuple #[.bool false, .int .i64 61]) ∧ w' = w := fun w => by
    have ec : hoE op = 61 := by unfold hoE; rw [if_neg (by omega)]
    have := ho_any op a b w ha hb
    rw [ec, hoV_none ec] at this
    exact this
  have HB : Below w.heap.size w w := Below.refl _ _
  have h1 : ¬ (op : Int) < 13 := by omega
  have h2 : (13 : Int) ≤ op := by omega
  go_enter Try.func3, Try.ntmps3
  go_wp2_with (first
    | (go_at_call 5; with_reducible refine (d0 _).mono ?_; rintro e wq ⟨rfl, hq⟩; subst wq)
    | (go_at_call 6; with_reducible refine (awake6 _).mono ?_; rintro e wq ⟨rfl, hq⟩; replace HB : Below w.heap.size w wq := bt2 hq HB))
  go_ret
  exact ⟨rfl, HB⟩
theorem alu_order (op a b : Nat) (w : World) (ha : a < 4294967296) (hb : b < 4294967296) :
    Calls Try.prog 3 #[.int .u8 op, .int .u32 a, .int .u32 b] w fun e w' => e = .returned (.bool true) ∧ Below w.heap.size w w' := by
  by_cases h0 : op < 13
  · exact ord_lo op a b w ha hb (by omega)
  by_cases h1 : 28 < op
  · exact ord_hi op a b w ha hb (by omega)
  by_cases h13 : op = 13
  · subst h13; exact ord_13 a b _ w ha hb rfl
  by_cases h14 : op = 14
  · subst h14; exact ord_14 a b _ w ha hb rfl
  by_cases h15 : op = 15
  · subst h15; exact ord_15 a b _ w ha hb rfl
  by_cases h16 : op = 16
  · subst h16; exact ord_16 a b _ w ha hb rfl
  by_cases h17 : op = 17
  · subst h17; exact ord_17 a b _ w ha hb rfl
  by_cases h18 : op = 18
  · subst h18; exact ord_18 a b _ w ha hb rfl
  by_cases h19 : op = 19
  · subst h19; exact ord_19 a b _ w ha hb rfl
  by_cases h20 : op = 20
  · subst h20; exact ord_20 a b _ w ha hb rfl
  by_cases h21 : op = 21
  · subst h21; exact ord_21 a b _ w ha hb rfl
  by_cases h22 : op = 22
  · subst h22; exact ord_22 a b _ w ha hb rfl
  by_cases h23 : op = 23
  · subst h23; exact ord_23 a b _ w ha hb rfl
  by_cases h24 : op = 24
  · subst h24; exact ord_24 a b _ w ha hb rfl
  by_cases h25 : op = 25
  · subst h25; exact ord_25 a b _ w ha hb rfl
  by_cases h26 : op = 26
  · subst h26; exact ord_26 a b _ w ha hb rfl
  by_cases h27 : op = 27
  · subst h27; exact ord_27 a b _ w ha hb rfl
  by_cases h28 : op = 28
  · subst h28; exact ord_28 a b _ w ha hb rfl
  omega
end Go.Proofs.Ytadjdccjhaejfab
