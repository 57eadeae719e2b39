import Derived.Test.YtadjdccjhaejfaaABase
namespace Go.Proofs.Ytadjdccjhaejfaa
open Go.RowKit
set_option maxRecDepth 100000 in
set_option maxHeartbeats 1000000 in
theorem alu_names (w : World) : Calls Try.prog 3 #[] w fun e w' => e = .returned (.bool true) ∧ Below w.heap.size w w' := by
  have HB : Below w.heap.size w w := Below.refl _ _
  have c0 : One 37 32768 4294934528 := one_is 37 (32768) (4294934528) (by decide) (by decide +kernel)
  have c1 : One 38 2147483648 2147483648 := one_is 38 (2147483648) (2147483648) (by decide) (by decide +kernel)
  have c2 : One 49 0 4294967295 := one_is 49 (0) (4294967295) (by decide) (by decide +kernel)
  have c3 : One 58 4294967295 3212836864 := one_is 58 (4294967295) (3212836864) (by decide) (by decide +kernel)
  have c4 : One 59 2143289344 0 := one_is 59 (2143289344) (0) (by decide) (by decide +kernel)
  have c5 : Two 40 2 5 4294967293 := two_is 40 (2) (5) (4294967293) (by decide) (by decide) (by decide +kernel)
  have c6 : Two 42 4294967289 2 4294967293 := two_is 42 (4294967289) (2) (4294967293) (by decide) (by decide) (by decide +kernel)
  have c7 : Two 44 4294967289 2 4294967295 := two_is 44 (4294967289) (2) (4294967295) (by decide) (by decide) (by decide +kernel)
  have c8 : Two 43 4294967289 2 2147483644 := two_is 43 (4294967289) (2) (2147483644) (by decide) (by decide) (by decide +kernel)
  have c9 : Two 42 2147483648 4294967295 2147483648 := two_is 42 (2147483648) (4294967295) (2147483648) (by decide) (by decide) (by decide +kernel)
  have c10 : Two 44 2147483648 4294967295 0 := two_is 44 (2147483648) (4294967295) (0) (by decide) (by decide) (by decide +kernel)
  have c11 : Two 51 2147483648 31 4294967295 := two_is 51 (2147483648) (31) (4294967295) (by decide) (by decide) (by decide +kernel)
  have c12 : Two 52 2147483648 31 1 := two_is 52 (2147483648) (31) (1) (by decide) (by decide) (by decide +kernel)
  have c13 : Two 57 1065353216 0 2139095040 := two_is 57 (1065353216) (0) (2139095040) (by decide) (by decide) (by decide +kernel)
  have c14 : Is 19 4294967295 0 (false) := is_is 19 (4294967295) (0) (false) (by decide) (by decide) (by decide +kernel)
  have c15 : Is 13 2147483648 0 (false) := is_is 13 (2147483648) (0) (false) (by decide) (by decide) (by decide +kernel)
  have c16 : Is 23 2147483648 0 (true) := is_is 23 (2147483648) (0) (true) (by decide) (by decide) (by decide +kernel)
  have c17 : Is 26 2143289344 2143289344 (false) := is_is 26 (2143289344) (2143289344) (false) (by decide) (by decide) (by decide +kernel)
  have d0 : ∀ w, Calls Try.prog 13 #[.int .u8 39, .int .u32 1] w fun e w' => e = .returned (.tuple #[.int .u32 0, .int .i64 61]) ∧ w' = w := fun w => un_any 39 1 w (by decide)
  have d1 : ∀ w, Calls Try.prog 14 #[.int .u8 26] w fun e w' => e = .returned (.tuple #[.int .u8 28, .int .i64 0]) ∧ w' = w := fun w => sw_any 26 w
  have d2 : ∀ w, Calls Try.prog 15 #[.int .u8 16] w fun e w' => e = .returned (.tuple #[.int .u8 17, .int .i64 0]) ∧ w' = w := fun w => op_any 16 w
  have d3 : ∀ w, Calls Try.prog 15 #[.int .u8 26] w fun e w' => e = .returned (.tuple #[.int .u8 0, .int .i64 62]) ∧ w' = w := fun w => op_any 26 w
  go_enter Try.func3, Try.ntmps3
  go_wp2_with (first
    | (go_at_call 10; with_reducible refine (c0 _).mono ?_; rintro e wq ⟨rfl, hq⟩; subst wq)
    | (go_at_call 10; with_reducible refine (c1 _).mono ?_; rintro e wq ⟨rfl, hq⟩; subst wq)
    | (go_at_call 10; with_reducible refine (c2 _).mono ?_; rintro e wq ⟨rfl, hq⟩; subst wq)
    | (go_at_call 10; with_reducible refine (c3 _).mono ?_; rintro e wq ⟨rfl, hq⟩; subst wq)
    | (go_at_call 10; with_reducible refine (c4 _).mono ?_; rintro e wq ⟨rfl, hq⟩; subst wq)
    | (go_at_call 11; with_reducible refine (c5 _).mono ?_; rintro e wq ⟨rfl, hq⟩; replace HB : Below w.heap.size w wq := bt2 hq HB)
    | (go_at_call 11; with_reducible refine (c6 _).mono ?_; rintro e wq ⟨rfl, hq⟩; replace HB : Below w.heap.size w wq := bt2 hq HB)
    | (go_at_call 11; with_reducible refine (c7 _).mono ?_; rintro e wq ⟨rfl, hq⟩; replace HB : Below w.heap.size w wq := bt2 hq HB)
    | (go_at_call 11; with_reducible refine (c8 _).mono ?_; rintro e wq ⟨rfl, hq⟩; replace HB : Below w.heap.size w wq := bt2 hq HB)
    | (go_at_call 11; with_reducible refine (c9 _).mono ?_; rintro e wq ⟨rfl, hq⟩; replace HB : Below w.heap.size w wq := bt2 hq HB)
    | (go_at_call 11; with_reducible refine (c10 _).mono ?_; rintro e wq ⟨rfl, hq⟩; replace HB : Below w.heap.size w wq := bt2 hq HB)
    | (go_at_call 11; with_reducible refine (c11 _).mono ?_; rintro e wq ⟨rfl, hq⟩; replace HB : Below w.heap.size w wq := bt2 hq HB)
    | (go_at_call 11; with_reducible refine (c12 _).mono ?_; rintro e wq ⟨rfl, hq⟩; replace HB : Below w.heap.size w wq := bt2 hq HB)
    | (go_at_call 11; with_reducible refine (c13 _).mono ?_; rintro e wq ⟨rfl, hq⟩; replace HB : Below w.heap.size w wq := bt2 hq HB)
    | (go_at_call 12; with_reducible refine (c14 _).mono ?_; rintro e wq ⟨rfl, hq⟩; subst wq)
    | (go_at_call 12; with_reducible refine (c15 _).mono ?_; rintro e wq ⟨rfl, hq⟩; subst wq)
    | (go_at_call 12; with_reducible refine (c16 _).mono ?_; rintro e wq ⟨rfl, hq⟩; subst wq)
    | (go_at_call 12; with_reducible refine (c17 _).mono ?_; rintro e wq ⟨rfl, hq⟩; subst wq)
    | (go_at_call 9; with_reducible refine (awake6 _).mono ?_; rintro e wq ⟨rfl, hq⟩; replace HB : Below w.heap.size w wq := bt2 hq HB)
    | (go_at_call 13; with_reducible refine (d0 _).mono ?_; rintro e wq ⟨rfl, hq⟩; subst wq)
    | (go_at_call 14; with_reducible refine (d1 _).mono ?_; rintro e wq ⟨rfl, hq⟩; subst wq)
    | (go_at_call 15; with_reducible refine (d2 _).mono ?_; rintro e wq ⟨rfl, hq⟩; subst wq)
    | (go_at_call 15; with_reducible refine (d3 _).mono ?_; rintro e wq ⟨rfl, hq⟩; subst wq))
  go_ret
  exact ⟨rfl, HB⟩
end Go.Proofs.Ytadjdccjhaejfaa
