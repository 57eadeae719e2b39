import Derived.Test.YtigiecodobgenaaAR6
import Derived.Test.YtigiecodobgenaaAHoB
import Derived.Test.YtigiecodobgenaaSStE
namespace Go.Proofs.Ytigiecodobgenaa
open Go.RowKit
theorem btw {a W w1 : World} (h : Below W.heap.size W w1) (h' : Below a.heap.size a W) : Below a.heap.size a w1 := h'.trans (h.mono h'.size)
theorem rh_eq (a b : Nat) (x y : Int) (w : World) (s0 : ∀ w, Calls Try.prog 21 #[.int .u32 a] w fun e w' => e = .returned (.int .i64 x) ∧ w' = w) (s1 : ∀ w, Calls Try.prog 21 #[.int .u32 b] w fun e w' => e = .returned (.int .i64 y) ∧ w' = w) :
    Calls Try.prog 9 #[.int .u8 13, .int .u32 a, .int .u32 b] w fun e w' => e = .returned (.tuple #[.bool (decide (a = b)), .int .i64 0]) ∧ w' = w := by
  go_enter Try.func9, Try.ntmps9
  go_wp2_with (first
    | (go_at_call 21; with_reducible refine (s0 _).mono ?_; rintro e wq ⟨rfl, hq⟩; subst wq)
    | (go_at_call 21; with_reducible refine (s1 _).mono ?_; rintro e wq ⟨rfl, hq⟩; subst wq))
  simp [bodyPost, results, Try.results9]
  exact beq_cast a b
theorem rh_ne (a b : Nat) (x y : Int) (w : World) (s0 : ∀ w, Calls Try.prog 21 #[.int .u32 a] w fun e w' => e = .returned (.int .i64 x) ∧ w' = w) (s1 : ∀ w, Calls Try.prog 21 #[.int .u32 b] w fun e w' => e = .returned (.int .i64 y) ∧ w' = w) :
    Calls Try.prog 9 #[.int .u8 14, .int .u32 a, .int .u32 b] w fun e w' => e = .returned (.tuple #[.bool (decide (a ≠ b)), .int .i64 0]) ∧ w' = w := by
  go_enter Try.func9, Try.ntmps9
  go_wp2_with (first
    | (go_at_call 21; with_reducible refine (s0 _).mono ?_; rintro e wq ⟨rfl, hq⟩; subst wq)
    | (go_at_call 21; with_reducible refine (s1 _).mono ?_; rintro e wq ⟨rfl, hq⟩; subst wq))
  simp [bodyPost, results, Try.results9]
  rw [bne, beq_cast]
theorem rh_lti (a b : Nat) (x y : Int) (w : World) (s0 : ∀ w, Calls Try.prog 21 #[.int .u32 a] w fun e w' => e = .returned (.int .i64 x) ∧ w' = w) (s1 : ∀ w, Calls Try.prog 21 #[.int .u32 b] w fun e w' => e = .returned (.int .i64 y) ∧ w' = w) :
    Calls Try.prog 9 #[.int .u8 15, .int .u32 a, .int .u32 b] w fun e w' => e = .returned (.tuple #[.bool (decide (x < y)), .int .i64 0]) ∧ w' = w := by
  go_enter Try.func9, Try.ntmps9
  go_wp2_with (first
    | (go_at_call 21; with_reducible refine (s0 _).mono ?_; rintro e wq ⟨rfl, hq⟩; subst wq)
    | (go_at_call 21; with_reducible refine (s1 _).mono ?_; rintro e wq ⟨rfl, hq⟩; subst wq))
  simp [bodyPost, results, Try.results9]
theorem rh_lei (a b : Nat) (x y : Int) (w : World) (s0 : ∀ w, Calls Try.prog 21 #[.int .u32 a] w fun e w' => e = .returned (.int .i64 x) ∧ w' = w) (s1 : ∀ w, Calls Try.prog 21 #[.int .u32 b] w fun e w' => e = .returned (.int .i64 y) ∧ w' = w) :
    Calls Try.prog 9 #[.int .u8 16, .int .u32 a, .int .u32 b] w fun e w' => e = .returned (.tuple #[.bool (decide (x ≤ y)), .int .i64 0]) ∧ w' = w := by
  go_enter Try.func9, Try.ntmps9
  go_wp2_with (first
    | (go_at_call 21; with_reducible refine (s0 _).mono ?_; rintro e wq ⟨rfl, hq⟩; subst wq)
    | (go_at_call 21; with_reducible refine (s1 _).mono ?_; rintro e wq ⟨rfl, hq⟩; subst wq))
  simp [bodyPost, results, Try.results9]
theorem rh_gti (a b : Nat) (x y : Int) (w : World) (s0 : ∀ w, Calls Try.prog 21 #[.int .u32 a] w fun e w' => e = .returned (.int .i64 x) ∧ w' = w) (s1 : ∀ w, Calls Try.prog 21 #[.int .u32 b] w fun e w' => e = .returned (.int .i64 y) ∧ w' = w) :
    Calls Try.prog 9 #[.int .u8 17, .int .u32 a, .int .u32 b] w fun e w' => e = .returned (.tuple #[.bool (decide (y < x)), .int .i64 0]) ∧ w' = w := by
  go_enter Try.func9, Try.ntmps9
  go_wp2_with (first
    | (go_at_call 21; with_reducible refine (s0 _).mono ?_; rintro e wq ⟨rfl, hq⟩; subst wq)
    | (go_at_call 21; with_reducible refine (s1 _).mono ?_; rintro e wq ⟨rfl, hq⟩; subst wq))
  simp [bodyPost, results, Try.results9]
theorem rh_gei (a b : Nat) (x y : Int) (w : World) (s0 : ∀ w, Calls Try.prog 21 #[.int .u32 a] w fun e w' => e = .returned (.int .i64 x) ∧ w' = w) (s1 : ∀ w, Calls Try.prog 21 #[.int .u32 b] w fun e w' => e = .returned (.int .i64 y) ∧ w' = w) :
    Calls Try.prog 9 #[.int .u8 18, .int .u32 a, .int .u32 b] w fun e w' => e = .returned (.tuple #[.bool (decide (y ≤ x)), .int .i64 0]) ∧ w' = w := by
  go_enter Try.func9, Try.ntmps9
  go_wp2_with (first
    | (go_at_call 21; with_reducible refine (s0 _).mono ?_; rintro e wq ⟨rfl, hq⟩; subst wq)
    | (go_at_call 21; with_reducible refine (s1 _).mono ?_; rintro e wq ⟨rfl, hq⟩; subst wq))
  simp [bodyPost, results, Try.results9]
theorem rh_ltu (a b : Nat) (x y : Int) (w : World) (s0 : ∀ w, Calls Try.prog 21 #[.int .u32 a] w fun e w' => e = .returned (.int .i64 x) ∧ w' = w) (s1 : ∀ w, Calls Try.prog 21 #[.int .u32 b] w fun e w' => e = .returned (.int .i64 y) ∧ w' = w) :
    Calls Try.prog 9 #[.int .u8 19, .int .u32 a, .int .u32 b] w fun e w' => e = .returned (.tuple #[.bool (decide (a < b)), .int .i64 0]) ∧ w' = w := by
  go_enter Try.func9, Try.ntmps9
  go_wp2_with (first
    | (go_at_call 21; with_reducible refine (s0 _).mono ?_; rintro e wq ⟨rfl, hq⟩; subst wq)
    | (go_at_call 21; with_reducible refine (s1 _).mono ?_; rintro e wq ⟨rfl, hq⟩; subst wq))
  simp [bodyPost, results, Try.results9]
theorem rh_leu (a b : Nat) (x y : Int) (w : World) (s0 : ∀ w, Calls Try.prog 21 #[.int .u32 a] w fun e w' => e = .returned (.int .i64 x) ∧ w' = w) (s1 : ∀ w, Calls Try.prog 21 #[.int .u32 b] w fun e w' => e = .returned (.int .i64 y) ∧ w' = w) :
    Calls Try.prog 9 #[.int .u8 20, .int .u32 a, .int .u32 b] w fun e w' => e = .returned (.tuple #[.bool (decide (a ≤ b)), .int .i64 0]) ∧ w' = w := by
  go_enter Try.func9, Try.ntmps9
  go_wp2_with (first
    | (go_at_call 21; with_reducible refine (s0 _).mono ?_; rintro e wq ⟨rfl, hq⟩; subst wq)
    | (go_at_call 21; with_reducible refine (s1 _).mono ?_; rintro e wq ⟨rfl, hq⟩; subst wq))
  simp [bodyPost, results, Try.results9]
theorem rh_gtu (a b : Nat) (x y : Int) (w : World) (s0 : ∀ w, Calls Try.prog 21 #[.int .u32 a] w fun e w' => e = .returned (.int .i64 x) ∧ w' = w) (s1 : ∀ w, Calls Try.prog 21 #[.int .u32 b] w fun e w' => e = .returned (.int .i64 y) ∧ w' = w) :
    Calls Try.prog 9 #[.int .u8 21, .int .u32 a, .int .u32 b] w fun e w' => e = .returned (.tuple #[.bool (decide (b < a)), .int .i64 0]) ∧ w' = w := by
  go_enter Try.func9, Try.ntmps9
  go_wp2_with (first
    | (go_at_call 21; with_reducible refine (s0 _).mono ?_; rintro e wq ⟨rfl, hq⟩; subst wq)
    | (go_at_call 21; with_reducible refine (s1 _).mono ?_; rintro e wq ⟨rfl, hq⟩; subst wq))
  simp [bodyPost, results, Try.results9]
theorem rh_geu (a b : Nat) (x y : Int) (w : World) (s0 : ∀ w, Calls Try.prog 21 #[.int .u32 a] w fun e w' => e = .returned (.int .i64 x) ∧ w' = w) (s1 : ∀ w, Calls Try.prog 21 #[.int .u32 b] w fun e w' => e = .returned (.int .i64 y) ∧ w' = w) :
    Calls Try.prog 9 #[.int .u8 22, .int .u32 a, .int .u32 b] w fun e w' => e = .returned (.tuple #[.bool (decide (b ≤ a)), .int .i64 0]) ∧ w' = w := by
  go_enter Try.func9, Try.ntmps9
  go_wp2_with (first
    | (go_at_call 21; with_reducible refine (s0 _).mono ?_; rintro e wq ⟨rfl, hq⟩; subst wq)
    | (go_at_call 21; with_reducible refine (s1 _).mono ?_; rintro e wq ⟨rfl, hq⟩; subst wq))
  simp [bodyPost, results, Try.results9]
theorem beq_lit (s k : Nat) : ((s : Int) == (k : Int)) = decide (s = k) := beq_cast s k
theorem rhs_eqf (s : Nat) (w : World) (hs : s = 1 ∨ s = 2 ∨ s = 3 ∨ s = 4) :
    Calls Try.prog 24 #[.int .u8 23, .int .u8 s] w fun e w' => e = .returned (.tuple #[.bool (decide (s = 3)), .int .i64 0]) ∧ w' = w := by
  rcases hs with rfl | rfl | rfl | rfl
  all_goals (go_enter Try.func24, Try.ntmps24)
  all_goals go_wp2
  all_goals simp [bodyPost, results, Try.results24]
theorem rhs_nef (s : Nat) (w : World) (hs : s = 1 ∨ s = 2 ∨ s = 3 ∨ s = 4) :
    Calls Try.prog 24 #[.int .u8 24, .int .u8 s] w fun e w' => e = .returned (.tuple #[.bool (!decide (s = 3)), .int .i64 0]) ∧ w' = w := by
  rcases hs with rfl | rfl | rfl | rfl
  all_goals (go_enter Try.func24, Try.ntmps24)
  all_goals go_wp2
  all_goals simp [bodyPost, results, Try.results24]
theorem rhs_ltf (s : Nat) (w : World) (hs : s = 1 ∨ s = 2 ∨ s = 3 ∨ s = 4) :
    Calls Try.prog 24 #[.int .u8 25, .int .u8 s] w fun e w' => e = .returned (.tuple #[.bool (decide (s = 2)), .int .i64 0]) ∧ w' = w := by
  rcases hs with rfl | rfl | rfl | rfl
  all_goals (go_enter Try.func24, Try.ntmps24)
  all_goals go_wp2
  all_goals simp [bodyPost, results, Try.results24]
theorem rhs_lef (s : Nat) (w : World) (hs : s = 1 ∨ s = 2 ∨ s = 3 ∨ s = 4) :
    Calls Try.prog 24 #[.int .u8 26, .int .u8 s] w fun e w' => e = .returned (.tuple #[.bool ((decide (s = 2) || decide (s = 3))), .int .i64 0]) ∧ w' = w := by
  rcases hs with rfl | rfl | rfl | rfl
  all_goals (go_enter Try.func24, Try.ntmps24)
  all_goals go_wp2
  all_goals simp [bodyPost, results, Try.results24]
theorem rhs_gtf (s : Nat) (w : World) (hs : s = 1 ∨ s = 2 ∨ s = 3 ∨ s = 4) :
    Calls Try.prog 24 #[.int .u8 27, .int .u8 s] w fun e w' => e = .returned (.tuple #[.bool (decide (s = 4)), .int .i64 0]) ∧ w' = w := by
  rcases hs with rfl | rfl | rfl | rfl
  all_goals (go_enter Try.func24, Try.ntmps24)
  all_goals go_wp2
  all_goals simp [bodyPost, results, Try.results24]
theorem rhs_gef (s : Nat) (w : World) (hs : s = 1 ∨ s = 2 ∨ s = 3 ∨ s = 4) :
    Calls Try.prog 24 #[.int .u8 28, .int .u8 s] w fun e w' => e = .returned (.tuple #[.bool ((decide (s = 4) || decide (s = 3))), .int .i64 0]) ∧ w' = w := by
  rcases hs with rfl | rfl | rfl | rfl
  all_goals (go_enter Try.func24, Try.ntmps24)
  all_goals go_wp2
  all_goals simp [bodyPost, results, Try.results24]
theorem rhs_none (op : Nat) (s : Nat) (w : World) (h23 : ¬ (op : Int) = 23) (h24 : ¬ (op : Int) = 24) (h25 : ¬ (op : Int) = 25) (h26 : ¬ (op : Int) = 26) (h27 : ¬ (op : Int) = 27) (h28 : ¬ (op : Int) = 28) :
    Calls Try.prog 24 #[.int .u8 op, .int .u8 s] w fun e w' => e = .returned (.tuple #[.bool false, .int .i64 61]) ∧ w' = w := by
  go_enter Try.func24, Try.ntmps24
  go_wp2
  simp [bodyPost, results, Try.results24]
theorem rh_float (op a b s : Nat) (x y : Int) (X : Bool) (E : Int) (w : World) (h13 : ¬ (op : Int) = 13) (h14 : ¬ (op : Int) = 14) (h15 : ¬ (op : Int) = 15) (h16 : ¬ (op : Int) = 16) (h17 : ¬ (op : Int) = 17) (h18 : ¬ (op : Int) = 18) (h19 : ¬ (op : Int) = 19) (h20 : ¬ (op : Int) = 20) (h21 : ¬ (op : Int) = 21) (h22 : ¬ (op : Int) = 22) (s0 : ∀ w, Calls Try.prog 21 #[.int .u32 a] w fun e w' => e = .returned (.int .i64 x) ∧ w' = w) (s1 : ∀ w, Calls Try.prog 21 #[.int .u32 b] w fun e w' => e = .returned (.int .i64 y) ∧ w' = w)
    (s2 : ∀ w, Calls Try.prog 25 #[.int .u32 a, .int .u32 b] w fun e w' => e = .returned (.int .u8 s) ∧ Below w.heap.size w w')
    (s3 : ∀ w, Calls Try.prog 24 #[.int .u8 op, .int .u8 s] w fun e w' => e = .returned (.tuple #[.bool X, .int .i64 E]) ∧ w' = w) :
    Calls Try.prog 9 #[.int .u8 op, .int .u32 a, .int .u32 b] w fun e w' => e = .returned (.tuple #[.bool X, .int .i64 E]) ∧ Below w.heap.size w w' := by
  have HB : Below w.heap.size w w := Below.refl _ _
  go_enter Try.func9, Try.ntmps9
  go_wp2_with (first
    | (go_at_call 21; with_reducible refine (s0 _).mono ?_; rintro e wq ⟨rfl, hq⟩; subst wq)
    | (go_at_call 21; with_reducible refine (s1 _).mono ?_; rintro e wq ⟨rfl, hq⟩; subst wq)
    | (go_at_call 25; with_reducible refine (s2 _).mono ?_; rintro e wq ⟨rfl, hq⟩; replace HB : Below w.heap.size w wq := btw hq HB)
    | (go_at_call 24; with_reducible refine (s3 _).mono ?_; rintro e wq ⟨rfl, hq⟩; subst wq))
  simp [bodyPost, results, Try.results9]
  exact HB
theorem fstand_cases (a b : Nat) : (fstand a b = 1 ∨ fstand a b = 2 ∨ fstand a b = 3 ∨ fstand a b = 4) := by
  unfold fstand
  cases Ieee.single.order a b with
  | none => exact Or.inl rfl
  | some c => cases c <;> simp
theorem rh_any (op a b : Nat) (w : World) (ha : a < 4294967296) (hb : b < 4294967296) :
    Calls Try.prog 9 #[.int .u8 op, .int .u32 a, .int .u32 b] w fun e w' => e = .returned (.tuple #[.bool (hoV op a b), .int .i64 (hoE op)]) ∧ Below w.heap.size w w' := by
  have s0 := fun w => rsig_any a w ha
  have s1 := fun w => rsig_any b w hb
  have s2 := fun w => stands_any a b w ha hb
  by_cases h13 : op = 13
  · subst h13
    rw [hoV_13, show hoE 13 = 0 from rfl]
    exact (rh_eq a b _ _ w s0 s1).mono fun e w' ⟨h1, h2⟩ => ⟨h1, h2 ▸ Below.refl _ _⟩
  by_cases h14 : op = 14
  · subst h14
    rw [hoV_14, show hoE 14 = 0 from rfl]
    exact (rh_ne a b _ _ w s0 s1).mono fun e w' ⟨h1, h2⟩ => ⟨h1, h2 ▸ Below.refl _ _⟩
  by_cases h15 : op = 15
  · subst h15
    rw [hoV_15, show hoE 15 = 0 from rfl]
    exact (rh_lti a b _ _ w s0 s1).mono fun e w' ⟨h1, h2⟩ => ⟨h1, h2 ▸ Below.refl _ _⟩
  by_cases h16 : op = 16
  · subst h16
    rw [hoV_16, show hoE 16 = 0 from rfl]
    exact (rh_lei a b _ _ w s0 s1).mono fun e w' ⟨h1, h2⟩ => ⟨h1, h2 ▸ Below.refl _ _⟩
  by_cases h17 : op = 17
  · subst h17
    rw [hoV_17, show hoE 17 = 0 from rfl]
    exact (rh_gti a b _ _ w s0 s1).mono fun e w' ⟨h1, h2⟩ => ⟨h1, h2 ▸ Below.refl _ _⟩
  by_cases h18 : op = 18
  · subst h18
    rw [hoV_18, show hoE 18 = 0 from rfl]
    exact (rh_gei a b _ _ w s0 s1).mono fun e w' ⟨h1, h2⟩ => ⟨h1, h2 ▸ Below.refl _ _⟩
  by_cases h19 : op = 19
  · subst h19
    rw [hoV_19, show hoE 19 = 0 from rfl]
    exact (rh_ltu a b _ _ w s0 s1).mono fun e w' ⟨h1, h2⟩ => ⟨h1, h2 ▸ Below.refl _ _⟩
  by_cases h20 : op = 20
  · subst h20
    rw [hoV_20, show hoE 20 = 0 from rfl]
    exact (rh_leu a b _ _ w s0 s1).mono fun e w' ⟨h1, h2⟩ => ⟨h1, h2 ▸ Below.refl _ _⟩
  by_cases h21 : op = 21
  · subst h21
    rw [hoV_21, show hoE 21 = 0 from rfl]
    exact (rh_gtu a b _ _ w s0 s1).mono fun e w' ⟨h1, h2⟩ => ⟨h1, h2 ▸ Below.refl _ _⟩
  by_cases h22 : op = 22
  · subst h22
    rw [hoV_22, show hoE 22 = 0 from rfl]
    exact (rh_geu a b _ _ w s0 s1).mono fun e w' ⟨h1, h2⟩ => ⟨h1, h2 ▸ Below.refl _ _⟩
  by_cases h23 : op = 23
  · subst h23
    rw [hoV_23, show hoE 23 = 0 from rfl]
    exact rh_float 23 a b _ _ _ _ _ w (by omega) (by omega) (by omega) (by omega) (by omega) (by omega) (by omega) (by omega) (by omega) (by omega) s0 s1 s2 (fun w => rhs_eqf _ w (fstand_cases a b))
  by_cases h24 : op = 24
  · subst h24
    rw [hoV_24, show hoE 24 = 0 from rfl]
    exact rh_float 24 a b _ _ _ _ _ w (by omega) (by omega) (by omega) (by omega) (by omega) (by omega) (by omega) (by omega) (by omega) (by omega) s0 s1 s2 (fun w => rhs_nef _ w (fstand_cases a b))
  by_cases h25 : op = 25
  · subst h25
    rw [hoV_25, show hoE 25 = 0 from rfl]
    exact rh_float 25 a b _ _ _ _ _ w (by omega) (by omega) (by omega) (by omega) (by omega) (by omega) (by omega) (by omega) (by omega) (by omega) s0 s1 s2 (fun w => rhs_ltf _ w (fstand_cases a b))
  by_cases h26 : op = 26
  · subst h26
    rw [hoV_26, show hoE 26 = 0 from rfl]
    exact rh_float 26 a b _ _ _ _ _ w (by omega) (by omega) (by omega) (by omega) (by omega) (by omega) (by omega) (by omega) (by omega) (by omega) s0 s1 s2 (fun w => rhs_lef _ w (fstand_cases a b))
  by_cases h27 : op = 27
  · subst h27
    rw [hoV_27, show hoE 27 = 0 from rfl]
    exact rh_float 27 a b _ _ _ _ _ w (by omega) (by omega) (by omega) (by omega) (by omega) (by omega) (by omega) (by omega) (by omega) (by omega) s0 s1 s2 (fun w => rhs_gtf _ w (fstand_cases a b))
  by_cases h28 : op = 28
  · subst h28
    rw [hoV_28, show hoE 28 = 0 from rfl]
    exact rh_float 28 a b _ _ _ _ _ w (by omega) (by omega) (by omega) (by omega) (by omega) (by omega) (by omega) (by omega) (by omega) (by omega) s0 s1 s2 (fun w => rhs_gef _ w (fstand_cases a b))
  have h0 : hoV op a b = false := by unfold hoV; simp only [if_neg h13, if_neg h14, if_neg h15, if_neg h16, if_neg h17, if_neg h18, if_neg h19, if_neg h20, if_neg h21, if_neg h22, if_neg h23, if_neg h24, if_neg h25, if_neg h26, if_neg h27, if_neg h28]
  have h1 : hoE op = 61 := by unfold hoE; rw [if_neg (by omega)]
  rw [h0, h1]
  exact rh_float op a b _ _ _ _ _ w (by omega) (by omega) (by omega) (by omega) (by omega) (by omega) (by omega) (by omega) (by omega) (by omega) s0 s1 s2 (fun w => rhs_none op _ w (by omega) (by omega) (by omega) (by omega) (by omega) (by omega))
theorem alu_holds (op a b : Nat) (w : World) (ha : a < 4294967296) (hb : b < 4294967296) :
    Calls Try.prog 4 #[.int .u8 op, .int .u32 a, .int .u32 b] w fun e w' => e = .returned (.bool true) ∧ Below w.heap.size w w' := by
  have d0 := fun w => ho_any op a b w ha hb
  have d1 := fun w => rh_any op a b w ha hb
  obtain ⟨U, hU⟩ : ∃ U, hoV op a b = U := ⟨_, rfl⟩
  obtain ⟨E, hE⟩ : ∃ E, hoE op = E := ⟨_, rfl⟩
  rw [hU, hE] at d0 d1
  clear hU hE
  have HB : Below w.heap.size w w := Below.refl _ _
  cases U
  all_goals (go_enter Try.func4, Try.ntmps4)
  all_goals (go_wp2_with (first
    | (go_at_call 8; with_reducible refine (d0 _).mono ?_; rintro e wq ⟨rfl, hq⟩; subst wq)
    | (go_at_call 9; with_reducible refine (d1 _).mono ?_; rintro e wq ⟨rfl, hq⟩; replace HB : Below w.heap.size w wq := btw hq HB)))
  all_goals (go_ret; exact ⟨rfl, HB⟩)
end Go.Proofs.Ytigiecodobgenaa
