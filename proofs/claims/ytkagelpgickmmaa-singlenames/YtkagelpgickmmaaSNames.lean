import Derived.Test.YtkagelpgickmmaaSNamA
namespace Go.Proofs.Ytkagelpgickmmaa
open Go.RowKit

theorem bel {a w : World} {o : Obj} (h : Below a.heap.size a w) : Below a.heap.size a (w.alloc o) := h.alloc h.size o
theorem bdn {a w : World} {n : Nat} (h : Below a.heap.size a w) : Below a.heap.size a (w.drewN n) := h.trans ⟨rfl, rfl, rfl, Nat.le_refl _, fun _ _ => rfl⟩
@[go_sem] theorem bP4 (s : Int) (m : Bool) (n p : Int) (w : World) : (Instr.build 26 #[(0, .int .u8 s), (1, .bool m), (2, .int .u32 n), (3, .int .i64 p)]).run Try.prog w = .ok (.agg #[.int .u8 s, .bool m, .int .u32 n, .int .i64 p]) w := run_build w 26 _ _ (by kernel_rfl)
set_option maxRecDepth 100000 in
theorem split_c (w : World) : Calls Try.prog 7 #[.int .u32 2147483649] w fun e w' => e = .returned (.agg #[.int .u8 3, .bool true, .int .u32 1, .int .i64 (-149)]) ∧ ∃ o, w' = w.alloc o := by
  have c : ∀ w, Calls Try.prog 25 #[.int .u32 2147483649] w fun e w' => e = .returned (.bool false) ∧ w' = w := fun w => none_any 2147483649 w (by decide)
  have h1 : bits .and .u32 2147483649 2147483648 = 2147483648 := by decide +kernel
  have h2 : bits .andNot .u32 2147483649 2147483648 = 1 := by decide +kernel
  have h3 : bits .and .u32 2147483649 8388607 = 1 := by decide +kernel
  go_enter Try.func7, Try.ntmps7
  go_wp2_with (go_at_call 25; refine (c _).mono ?_; rintro e wq ⟨rfl, hq⟩; subst wq)
  refine bodyPost_ret (v := .agg #[.int .u8 3, .bool true, .int .u32 1, .int .i64 (-149)]) (by simp [results, Try.f7, go_sem]) rfl ?_
  exact ⟨rfl, _, rfl⟩
set_option maxRecDepth 100000 in
set_option maxHeartbeats 2000000 in
theorem single_names (w : World) :
    Calls Try.prog 3 #[] w fun e w' => e = .returned (.bool true) ∧ Below w.heap.size w w' := by
  have z1 := fun w => awake_any w
  have c0 : ∀ w, Calls Try.prog 9 #[.int .u32 2139095039] w fun e w' => e = .returned (.int .u32 2139095040) ∧ w' = w := fun w => by
    have := above_any 2139095039 w (by decide)
    rwa [show fab 2139095039 = 2139095040 by decide +kernel] at this
  have c1 : ∀ w, Calls Try.prog 9 #[.int .u32 2147483649] w fun e w' => e = .returned (.int .u32 2147483648) ∧ w' = w := fun w => by
    have := above_any 2147483649 w (by decide)
    rwa [show fab 2147483649 = 2147483648 by decide +kernel] at this
  have c2 : ∀ w, Calls Try.prog 10 #[.int .u32 0] w fun e w' => e = .returned (.int .u32 2147483649) ∧ w' = w := fun w => by
    have := below_any 0 w (by decide)
    rwa [show fbe 0 = 2147483649 by decide +kernel] at this
  have c3 : ∀ w, Calls Try.prog 11 #[.int .u32 1036831949, .int .u32 1045220557] w fun e w' => e = .returned (.int .u32 1050253722) ∧ ∃ m, w' = w.drewN m := fun w => by
    have := sum_any 1036831949 1045220557 w
    rwa [show fsum 1036831949 1045220557 = 1050253722 by decide +kernel] at this
  have c4 : ∀ w, Calls Try.prog 11 #[.int .u32 2139095040, .int .u32 4286578688] w fun e w' => e = .returned (.int .u32 2143289344) ∧ ∃ m, w' = w.drewN m := fun w => by
    have := sum_any 2139095040 4286578688 w
    rwa [show fsum 2139095040 4286578688 = 2143289344 by decide +kernel] at this
  have c5 : ∀ w, Calls Try.prog 11 #[.int .u32 1065353216, .int .u32 3212836864] w fun e w' => e = .returned (.int .u32 0) ∧ ∃ m, w' = w.drewN m := fun w => by
    have := sum_any 1065353216 3212836864 w
    rwa [show fsum 1065353216 3212836864 = 0 by decide +kernel] at this
  have c6 : ∀ w, Calls Try.prog 11 #[.int .u32 2147483648, .int .u32 2147483648] w fun e w' => e = .returned (.int .u32 2147483648) ∧ ∃ m, w' = w.drewN m := fun w => by
    have := sum_any 2147483648 2147483648 w
    rwa [show fsum 2147483648 2147483648 = 2147483648 by decide +kernel] at this
  have c7 : ∀ w, Calls Try.prog 12 #[.int .u32 3, .int .u32 1056964608] w fun e w' => e = .returned (.int .u32 2) ∧ ∃ m, w' = w.drewN m := fun w => by
    have := prod_any 3 1056964608 w
    rwa [show fmul 3 1056964608 = 2 by decide +kernel] at this
  have c8 : ∀ w, Calls Try.prog 13 #[.int .u32 1065353216, .int .u32 2147483648] w fun e w' => e = .returned (.int .u32 4286578688) ∧ ∃ m, w' = w.drewN m := fun w => by
    have := ratio_any 1065353216 2147483648 w
    rwa [show fdiv 1065353216 2147483648 = 4286578688 by decide +kernel] at this
  have c9 : ∀ w, Calls Try.prog 14 #[.int .u32 1073741824] w fun e w' => e = .returned (.int .u32 1068827891) ∧ ∃ m, w' = w.drewN m := fun w => by
    have := root_any 1073741824 w (by decide +kernel)
    rwa [show froot 1073741824 = 1068827891 by decide +kernel] at this
  have c10 : ∀ w, Calls Try.prog 15 #[.int .u32 3227516928] w fun e w' => e = .returned (.int .i32 (-3)) ∧ w' = w := fun w => toward_int 3227516928 (-3) w (by decide +kernel) (by decide +kernel) (by decide +kernel) (by decide +kernel)
  have c11 : ∀ w, Calls Try.prog 15 #[.int .u32 1325400064] w fun e w' => e = .returned (.int .i32 2147483647) ∧ w' = w := fun w => toward_max 1325400064 w (by decide +kernel) (Or.inr (by decide +kernel))
  have c12 : ∀ w, Calls Try.prog 15 #[.int .u32 2143289344] w fun e w' => e = .returned (.int .i32 0) ∧ w' = w := fun w => toward_nan 2143289344 w (by decide +kernel)
  have c13 : ∀ w, Calls Try.prog 16 #[.int .u64 4591870180066957722] w fun e w' => e = .returned (.int .u32 1036831949) ∧ w' = w := fun w => by
    have := narrow_any 4591870180066957722 w (by decide +kernel) (by decide +kernel)
    rwa [show narrow 4591870180066957722 = 1036831949 by decide +kernel] at this
  have c14 : ∀ w, Calls Try.prog 17 #[.int .u32 2147483648, .int .u32 0] w fun e w' => e = .returned (.int .u8 3) ∧ w' = w := fun w => by
    have := stand_any 2147483648 0 w
    rwa [show fstand 2147483648 0 = 3 by decide +kernel] at this
  go_enter Try.func3, Try.ntmps3
  go_wp2_with (first
    | (go_at_call 6; refine (z1 _).mono ?_; rintro e wq ⟨rfl, m, hq⟩; subst wq)
    | (go_at_call 7; refine (split_c _).mono ?_; rintro e wq ⟨rfl, o, hq⟩; subst wq)
    | (go_at_call 8; (first | with_reducible refine (round_A _).mono ?_ | with_reducible refine (round_B _).mono ?_ | with_reducible refine (round_C _).mono ?_ | with_reducible refine (round_D _).mono ?_ | with_reducible refine (round_E _).mono ?_); rintro e wq ⟨rfl, hq⟩; subst wq)
    | (go_at_call 9; (first | with_reducible refine (c0 _).mono ?_ | with_reducible refine (c1 _).mono ?_); rintro e wq ⟨rfl, hq⟩; subst wq)
    | (go_at_call 10; (first | with_reducible refine (c2 _).mono ?_); rintro e wq ⟨rfl, hq⟩; subst wq)
    | (go_at_call 11; (first | with_reducible refine (c3 _).mono ?_ | with_reducible refine (c4 _).mono ?_ | with_reducible refine (c5 _).mono ?_ | with_reducible refine (c6 _).mono ?_); rintro e wq ⟨rfl, m, hq⟩; subst wq)
    | (go_at_call 12; (first | with_reducible refine (c7 _).mono ?_); rintro e wq ⟨rfl, m, hq⟩; subst wq)
    | (go_at_call 13; (first | with_reducible refine (c8 _).mono ?_); rintro e wq ⟨rfl, m, hq⟩; subst wq)
    | (go_at_call 14; (first | with_reducible refine (c9 _).mono ?_); rintro e wq ⟨rfl, m, hq⟩; subst wq)
    | (go_at_call 15; (first | with_reducible refine (c10 _).mono ?_ | with_reducible refine (c11 _).mono ?_ | with_reducible refine (c12 _).mono ?_); rintro e wq ⟨rfl, hq⟩; subst wq)
    | (go_at_call 16; (first | with_reducible refine (c13 _).mono ?_); rintro e wq ⟨rfl, hq⟩; subst wq)
    | (go_at_call 17; (first | with_reducible refine (c14 _).mono ?_); rintro e wq ⟨rfl, hq⟩; subst wq))
  go_ret
  exact ⟨rfl, by repeat (first | exact Below.refl _ _ | refine bel ?_ | refine bdn ?_ | refine Below.drew ?_)⟩
end Go.Proofs.Ytkagelpgickmmaa
