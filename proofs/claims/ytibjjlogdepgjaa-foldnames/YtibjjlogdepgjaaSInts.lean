import Derived.Test.YtibjjlogdepgjaaSConv
namespace Go.Proofs.Ytibjjlogdepgjaa
open Go.RowKit
set_option maxRecDepth 100000

/-- a whole number as a word -/
def fof (n : Int) : Nat := Ieee.single.write (.number (n < 0) n.natAbs 0)
theorem of_any (n : Int) (w : World) :
    Calls Try.prog 43 #[.int .i32 n] w fun e w' => e = .returned (.int .u32 (fof n)) ∧ w' = w := by
  have e1 : floatOfInt .f32 n = fof n := rfl
  have e2 : wd (fof n) = fof n := by simp [wd, fof, write_ok (.number (n < 0) n.natAbs 0) rfl]
  go_enter Try.func43, Try.ntmps43
  go_wp2_with (first
    | (go_at_call 52; refine (sword_any _ _).mono ?_; (first | rw [e2] | rw [e1, e2]); rintro e wq ⟨rfl, hq⟩; subst wq))
  go_ret
  exact ⟨rfl, rfl⟩

theorem toward_nan (a : Nat) (w : World) (ho : ok a = false) :
    Calls Try.prog 44 #[.int .u32 a] w fun e w' => e = .returned (.int .i32 0) ∧ w' = w := by
  have h0 := order_self a
  rw [ho] at h0
  have h1 : (FloatKind.f32.format.order a a != some .eq) = true := by show (Ieee.single.order a a != some .eq) = true; rw [h0]; rfl
  go_enter Try.func44, Try.ntmps44
  go_wp2_with (go_at_call 51; refine (number_any _ _).mono ?_; rintro e wq ⟨rfl, hq⟩; subst wq)
  go_ret
  exact ⟨rfl, rfl⟩
theorem toward_max (a : Nat) (w : World) (ho : ok a = true) (hg : Ieee.single.order a 1325400064 = some .gt ∨ Ieee.single.order a 1325400064 = some .eq) :
    Calls Try.prog 44 #[.int .u32 a] w fun e w' => e = .returned (.int .i32 2147483647) ∧ w' = w := by
  have h0 := order_self a
  rw [ho] at h0
  have h1 : (FloatKind.f32.format.order a a != some .eq) = false := by show (Ieee.single.order a a != some .eq) = false; rw [h0]; rfl
  have h2 : (FloatKind.f32.format.order a 1325400064 == some .gt || FloatKind.f32.format.order a 1325400064 == some .eq) = true := by
    show (Ieee.single.order a 1325400064 == some .gt || Ieee.single.order a 1325400064 == some .eq) = true
    rcases hg with h | h <;> rw [h] <;> rfl
  go_enter Try.func44, Try.ntmps44
  go_wp2_with (go_at_call 51; refine (number_any _ _).mono ?_; rintro e wq ⟨rfl, hq⟩; subst wq)
  go_ret
  exact ⟨rfl, rfl⟩
theorem toward_min (a : Nat) (w : World) (ho : ok a = true) (hg : Ieee.single.order a 1325400064 = some .lt) (hl : Ieee.single.order a 3472883712 = some .lt ∨ Ieee.single.order a 3472883712 = some .eq) :
    Calls Try.prog 44 #[.int .u32 a] w fun e w' => e = .returned (.int .i32 (-2147483648)) ∧ w' = w := by
  have h0 := order_self a
  rw [ho] at h0
  have h1 : (FloatKind.f32.format.order a a != some .eq) = false := by show (Ieee.single.order a a != some .eq) = false; rw [h0]; rfl
  have h2 : (FloatKind.f32.format.order a 1325400064 == some .gt || FloatKind.f32.format.order a 1325400064 == some .eq) = false := by
    show (Ieee.single.order a 1325400064 == some .gt || Ieee.single.order a 1325400064 == some .eq) = false
    rw [hg]; rfl
  have h3 : (FloatKind.f32.format.order a 3472883712 == some .lt || FloatKind.f32.format.order a 3472883712 == some .eq) = true := by
    show (Ieee.single.order a 3472883712 == some .lt || Ieee.single.order a 3472883712 == some .eq) = true
    rcases hl with h | h <;> rw [h] <;> rfl
  go_enter Try.func44, Try.ntmps44
  go_wp2_with (go_at_call 51; refine (number_any _ _).mono ?_; rintro e wq ⟨rfl, hq⟩; subst wq)
  go_ret
  exact ⟨rfl, rfl⟩
theorem toward_int (a : Nat) (n : Int) (w : World) (ho : ok a = true) (hg : Ieee.single.order a 1325400064 = some .lt) (hl : Ieee.single.order a 3472883712 = some .gt) (hn : floatToIntVal .f32 a .i32 = some n) :
    Calls Try.prog 44 #[.int .u32 a] w fun e w' => e = .returned (.int .i32 n) ∧ w' = w := by
  have h0 := order_self a
  rw [ho] at h0
  have h1 : (FloatKind.f32.format.order a a != some .eq) = false := by show (Ieee.single.order a a != some .eq) = false; rw [h0]; rfl
  have h2 : (FloatKind.f32.format.order a 1325400064 == some .gt || FloatKind.f32.format.order a 1325400064 == some .eq) = false := by
    show (Ieee.single.order a 1325400064 == some .gt || Ieee.single.order a 1325400064 == some .eq) = false
    rw [hg]; rfl
  have h3 : (FloatKind.f32.format.order a 3472883712 == some .lt || FloatKind.f32.format.order a 3472883712 == some .eq) = false := by
    show (Ieee.single.order a 3472883712 == some .lt || Ieee.single.order a 3472883712 == some .eq) = false
    rw [hl]; rfl
  have hl := fun (w : World) => run_convert_float_int (P := Try.prog) w 111 21 .f32 .i32 a n (by kernel_rfl) (by kernel_rfl) hn
  go_enter Try.func44, Try.ntmps44
  go_wp2_with (go_at_call 51; refine (number_any _ _).mono ?_; rintro e wq ⟨rfl, hq⟩; subst wq)
  go_ret
  exact ⟨rfl, rfl⟩

/-! the few answers that are fixed -/
end Go.Proofs.Ytibjjlogdepgjaa
