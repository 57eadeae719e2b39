import Derived.Test.YthfncfmfcbhpfaaJNum
namespace Go.Proofs.Ythfncfmfcbhpfaa
open Go.RowKit
set_option maxRecDepth 100000
theorem gate_number (x : Nat) (w : World) (h : x < 4294967296) :
    Calls Try.prog 3 #[.int .u32 x] w fun e w' => e = .returned (.bool true) ∧ Below w.heap.size w w' := by
  by_cases hx : x < 2147483648
  · have c1 := fun w => number_lo x w hx
    have c2 := fun w => rnumber_lo x w hx
    clear h hx
    go_enter Try.func3, Try.ntmps3
    go_wp2_with (first
      | (go_at_call 6; with_reducible refine (c1 _).mono ?_; rintro e wq ⟨rfl, hq⟩; subst wq)
      | (go_at_call 7; with_reducible refine (c2 _).mono ?_; rintro e wq ⟨rfl, hq⟩; subst wq))
    go_ret
    exact ⟨rfl, Below.refl _ _⟩
  · have c1 := fun w => number_hi x w hx h
    have c2 := fun w => rnumber_hi x w hx h
    generalize ((4294967295 - x : Nat) : Int) = y at c1 c2
    clear h hx
    go_enter Try.func3, Try.ntmps3
    go_wp2_with (first
      | (go_at_call 6; with_reducible refine (c1 _).mono ?_; rintro e wq ⟨rfl, hq⟩; subst wq)
      | (go_at_call 7; with_reducible refine (c2 _).mono ?_; rintro e wq ⟨rfl, hq⟩; subst wq))
    go_ret
    exact ⟨rfl, Below.refl _ _⟩
theorem number_top (w : World) :
    Calls Try.prog 6 #[.int .u32 4294967295] w fun e w' => e = .returned (.tuple #[.int .u32 0, .bool true]) ∧ w' = w :=
  number_hi 4294967295 w (by decide) (by decide)
theorem gate_turn (x : Nat) (w : World) (h : x < 4294967296) :
    Calls Try.prog 5 #[.int .u32 x] w fun e w' => e = .returned (.bool true) ∧ Below w.heap.size w w' := by
  by_cases hx : x < 2147483648
  · have c1 := fun w => number_lo x w hx
    have c2 := fun w => number_top w
    have e1 : wrap32 (x : Int) = x := by unfold wrap32; omega
    have e3 : decide ((x : Int) < 0) = false := by simp
    clear h
    go_enter Try.func5, Try.ntmps5
    go_wp2_with (first
      | (go_at_call 6; with_reducible refine (c1 _).mono ?_; rintro e wq ⟨rfl, hq⟩; subst wq)
      | (go_at_call 6; with_reducible refine (c2 _).mono ?_; rintro e wq ⟨rfl, hq⟩; subst wq))
    go_ret
    exact ⟨rfl, Below.refl _ _⟩
  · have e1 := w32_hi hx h
    have hz : wrap32 (x : Int) < 0 := by rw [e1]; omega
    have hzd : decide (wrap32 (x : Int) < 0) = true := by simp; omega
    have c1 : ∀ w, Calls Try.prog 6 #[.int .u32 x] w fun e w' => e = .returned (.tuple #[.int .u32 (-1 - wrap32 (x : Int)), .bool true]) ∧ w' = w := fun w => by
      have := number_hi x w hx h
      have e : ((4294967295 - x : Nat) : Int) = -1 - wrap32 (x : Int) := by rw [e1]; omega
      rw [e] at this; exact this
    have c2 : ∀ w, Calls Try.prog 6 #[.int .u32 (4294967295 - (-1 - wrap32 (x : Int)))] w fun e w' => e = .returned (.tuple #[.int .u32 (-1 - wrap32 (x : Int)), .bool true]) ∧ w' = w := fun w => by
      have e : 4294967295 - (-1 - wrap32 (x : Int)) = x := by rw [e1]; omega
      rw [e]; exact c1 w
    have hlo : -2147483648 ≤ wrap32 (x : Int) := by rw [e1]; omega
    obtain ⟨n, hn⟩ : ∃ n, wrap32 (x : Int) = -1 - n := ⟨-1 - wrap32 (x : Int), by omega⟩
    have e4 : -1 - (-1 - n) = n := by omega
    rw [hn, e4] at c1 c2
    rw [hn] at hz hzd hlo
    have hn0 : 0 ≤ n := by omega
    have hn1 : n ≤ 2147483647 := by omega
    have hw : wrap64 (-1 - n) = -1 - n := by unfold wrap64; omega
    clear e1 hx h e4
    go_enter Try.func5, Try.ntmps5
    go_wp2_with (first
      | (go_at_call 6; with_reducible refine (c1 _).mono ?_; rintro e wq ⟨rfl, hq⟩; subst wq)
      | (go_at_call 6; with_reducible refine (c2 _).mono ?_; rintro e wq ⟨rfl, hq⟩; subst wq))
    go_ret
    exact ⟨rfl, Below.refl _ _⟩
end Go.Proofs.Ythfncfmfcbhpfaa
