import Derived.Test.YtkkflgiepfenpaaSConv
namespace Go.Proofs.Ytkkflgiepfenpaa
open Go.RowKit

/-- a whole number as a word -/
def fof (n : Int) : Nat := Ieee.single.write (.number (n < 0) n.natAbs 0)
theorem of_any (n : Int) (w : World) :
    Calls Try.prog 18 #[.int .i32 n] w fun e w' => e = .returned (.int .u32 (fof n)) ∧ w' = w := by
  have e1 : floatOfInt .f32 n = fof n := rfl
  have e2 : wd (fof n) = fof n := by simp [wd, fof, write_ok (.number (n < 0) n.natAbs 0) rfl]
  go_enter Try.func18, Try.ntmps18
  go_wp2_with (first
    | (go_at_call 21; refine (word_any _ _).mono ?_; (first | rw [e2] | rw [e1, e2]); rintro e wq ⟨rfl, hq⟩; subst wq))
  go_ret
  exact ⟨rfl, rfl⟩

theorem toward_nan (a : Nat) (w : World) (ho : ok a = false) :
    Calls Try.prog 19 #[.int .u32 a] w fun e w' => e = .returned (.int .i32 0) ∧ w' = w := by
  have h0 := order_self a
  rw [ho] at h0
  have h1 : (FloatKind.f32.format.order a a != some .eq) = true := by show (Ieee.single.order a a != some .eq) = true; rw [h0]; rfl
  go_enter Try.func19, Try.ntmps19
  go_wp2_with (go_at_call 22; refine (number_any _ _).mono ?_; rintro e wq ⟨rfl, hq⟩; subst wq)
  go_ret
  exact ⟨rfl, rfl⟩
theorem toward_max (a : Nat) (w : World) (ho : ok a = true) (hg : Ieee.single.order a 1325400064 = some .gt ∨ Ieee.single.order a 1325400064 = some .eq) :
    Calls Try.prog 19 #[.int .u32 a] w fun e w' => e = .returned (.int .i32 2147483647) ∧ w' = w := by
  have h0 := order_self a
  rw [ho] at h0
  have h1 : (FloatKind.f32.format.order a a != some .eq) = false := by show (Ieee.single.order a a != some .eq) = false; rw [h0]; rfl
  have h2 : (FloatKind.f32.format.order a 1325400064 == some .gt || FloatKind.f32.format.order a 1325400064 == some .eq) = true := by
    show (Ieee.single.order a 1325400064 == some .gt || Ieee.single.order a 1325400064 == some .eq) = true
    rcases hg with h | h <;> rw [h] <;> rfl
  go_enter Try.func19, Try.ntmps19
  go_wp2_with (go_at_call 22; refine (number_any _ _).mono ?_; rintro e wq ⟨rfl, hq⟩; subst wq)
  go_ret
  exact ⟨rfl, rfl⟩
theorem toward_min (a : Nat) (w : World) (ho : ok a = true) (hg : Ieee.single.order a 1325400064 = some .lt) (hl : Ieee.single.order a 3472883712 = some .lt ∨ Ieee.single.order a 3472883712 = some .eq) :
    Calls Try.prog 19 #[.int .u32 a] w fun e w' => e = .returned (.int .i32 (-2147483648)) ∧ w' = w := by
  have h0 := order_self a
  rw [ho] at h0
  have h1 : (FloatKind.f32.format.order a a != some .eq) = false := by show (Ieee.single.order a a != some .eq) = false; rw [h0]; rfl
  have h2 : (FloatKind.f32.format.order a 1325400064 == some .gt || FloatKind.f32.format.order a 1325400064 == some .eq) = false := by
    show (Ieee.single.order a 1325400064 == some .gt || Ieee.single.order a 1325400064 == some .eq) = false
    rw [hg]; rfl
  have h3 : (FloatKind.f32.format.order a 3472883712 == some .lt || FloatKind.f32.format.order a 3472883712 == some .eq) = true := by
    show (Ieee.single.order a 3472883712 == some .lt || Ieee.single.order a 3472883712 == some .eq) = true
    rcases hl with h | h <;> rw [h] <;> rfl
  go_enter Try.func19, Try.ntmps19
  go_wp2_with (go_at_call 22; refine (number_any _ _).mono ?_; rintro e wq ⟨rfl, hq⟩; subst wq)
  go_ret
  exact ⟨rfl, rfl⟩
theorem toward_int (a : Nat) (n : Int) (w : World) (ho : ok a = true) (hg : Ieee.single.order a 1325400064 = some .lt) (hl : Ieee.single.order a 3472883712 = some .gt) (hn : floatToIntVal .f32 a .i32 = some n) :
    Calls Try.prog 19 #[.int .u32 a] w fun e w' => e = .returned (.int .i32 n) ∧ w' = w := by
  have h0 := order_self a
  rw [ho] at h0
  have h1 : (FloatKind.f32.format.order a a != some .eq) = false := by show (Ieee.single.order a a != some .eq) = false; rw [h0]; rfl
  have h2 : (FloatKind.f32.format.order a 1325400064 == some .gt || FloatKind.f32.format.order a 1325400064 == some .eq) = false := by
    show (Ieee.single.order a 1325400064 == some .gt || Ieee.single.order a 1325400064 == some .eq) = false
    rw [hg]; rfl
  have h3 : (FloatKind.f32.format.order a 3472883712 == some .lt || FloatKind.f32.format.order a 3472883712 == some .eq) = false := by
    show (Ieee.single.order a 3472883712 == some .lt || Ieee.single.order a 3472883712 == some .eq) = false
    rw [hl]; rfl
  have hl := fun (w : World) => run_convert_float_int (P := Try.prog) w 43 21 .f32 .i32 a n (by kernel_rfl) (by kernel_rfl) hn
  go_enter Try.func19, Try.ntmps19
  go_wp2_with (go_at_call 22; refine (number_any _ _).mono ?_; rintro e wq ⟨rfl, hq⟩; subst wq)
  go_ret
  exact ⟨rfl, rfl⟩

/-! the few answers that are fixed -/
theorem awake_any (w : World) :
    Calls Try.prog 6 #[] w fun e w' => e = .returned (.bool true) ∧ ∃ m, w' = w.drewN m := by
  have c1 : ∀ w, Calls Try.prog 13 #[.int .u32 1065353216, .int .u32 1065353216] w fun e w' => e = .returned (.int .u32 1073741824) ∧ ∃ m, w' = w.drewN m := fun w => by
    have := sum_any 1065353216 1065353216 w
    rwa [show fsum 1065353216 1065353216 = 1073741824 by decide +kernel] at this
  have c2 : ∀ w, Calls Try.prog 8 #[.int .u32 1073741824, .int .u32 1077936128] w fun e w' => e = .returned (.int .u32 1086324736) ∧ ∃ m, w' = w.drewN m := fun w => by
    have := prod_any 1073741824 1077936128 w
    rwa [show fmul 1073741824 1077936128 = 1086324736 by decide +kernel] at this
  have c3 : ∀ w, Calls Try.prog 11 #[.int .u32 1065353216, .int .u32 1077936128] w fun e w' => e = .returned (.int .u32 1051372203) ∧ ∃ m, w' = w.drewN m := fun w => by
    have := ratio_any 1065353216 1077936128 w
    rwa [show fdiv 1065353216 1077936128 = 1051372203 by decide +kernel] at this
  have c4 : ∀ w, Calls Try.prog 12 #[.int .u32 1082130432] w fun e w' => e = .returned (.int .u32 1073741824) ∧ ∃ m, w' = w.drewN m := fun w => by
    have := root_any 1082130432 w (by decide +kernel)
    rwa [show froot 1082130432 = 1073741824 by decide +kernel] at this
  have c5 : ∀ w, Calls Try.prog 16 #[.int .u32 1065353216, .int .u32 1073741824] w fun e w' => e = .returned (.int .u8 2) ∧ w' = w := fun w => by
    have := stand_any 1065353216 1073741824 w
    rwa [show fstand 1065353216 1073741824 = 2 by decide +kernel] at this
  have c6 : ∀ w, Calls Try.prog 17 #[.int .u32 1065353216] w fun e w' => e = .returned (.int .u32 1065353217) ∧ w' = w := fun w => by
    have := above_any 1065353216 w (by decide)
    rwa [show fab 1065353216 = 1065353217 by decide +kernel] at this
  have c7 : ∀ w, Calls Try.prog 18 #[.int .i32 3] w fun e w' => e = .returned (.int .u32 1077936128) ∧ w' = w := fun w => by
    have := of_any 3 w
    rwa [show fof 3 = 1077936128 by decide +kernel] at this
  have c8 : ∀ w, Calls Try.prog 19 #[.int .u32 1077936128] w fun e w' => e = .returned (.int .i32 3) ∧ w' = w := fun w => toward_int 1077936128 3 w (by decide +kernel) (by decide +kernel) (by decide +kernel) (by decide +kernel)
  have c9 : ∀ w, Calls Try.prog 20 #[.int .u32 1065353216] w fun e w' => e = .returned (.int .u64 4607182418800017408) ∧ w' = w := fun w => by
    have := wide_any 1065353216 w (by decide) (by decide +kernel)
    rwa [show (if ok 1065353216 = true then wide 1065353216 else 9221120237041090560) = 4607182418800017408 by decide +kernel] at this
  go_enter Try.func6, Try.ntmps6
  go_wp2_with (first
    | (go_at_call 13; refine (c1 _).mono ?_; rintro e wq ⟨rfl, m, hq⟩; subst wq)
    | (go_at_call 8; refine (c2 _).mono ?_; rintro e wq ⟨rfl, m, hq⟩; subst wq)
    | (go_at_call 11; refine (c3 _).mono ?_; rintro e wq ⟨rfl, m, hq⟩; subst wq)
    | (go_at_call 12; refine (c4 _).mono ?_; rintro e wq ⟨rfl, m, hq⟩; subst wq)
    | (go_at_call 16; refine (c5 _).mono ?_; rintro e wq ⟨rfl, hq⟩; subst wq)
    | (go_at_call 17; refine (c6 _).mono ?_; rintro e wq ⟨rfl, hq⟩; subst wq)
    | (go_at_call 18; refine (c7 _).mono ?_; rintro e wq ⟨rfl, hq⟩; subst wq)
    | (go_at_call 19; refine (c8 _).mono ?_; rintro e wq ⟨rfl, hq⟩; subst wq)
    | (go_at_call 20; refine (c9 _).mono ?_; rintro e wq ⟨rfl, hq⟩; subst wq))
  go_ret
  exact ⟨rfl, _, rfl⟩
end Go.Proofs.Ytkkflgiepfenpaa
