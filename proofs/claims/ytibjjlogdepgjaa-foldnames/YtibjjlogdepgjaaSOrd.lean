import Derived.Test.YtibjjlogdepgjaaSOps
namespace Go.Proofs.Ytibjjlogdepgjaa
open Go.RowKit
set_option maxRecDepth 100000

def fstand (a b : Nat) : Nat := match Ieee.single.order a b with
  | some .lt => 2
  | some .eq => 3
  | some .gt => 4
  | none => 1
theorem stand_any (a b : Nat) (w : World) :
    Calls Try.prog 41 #[.int .u32 a, .int .u32 b] w fun e w' => e = .returned (.int .u8 (fstand a b)) ∧ w' = w := by
  have e0 : FloatKind.f32.format.order a b = Ieee.single.order a b := rfl
  unfold fstand
  cases h : Ieee.single.order a b with
  | none =>
    have h1 : (FloatKind.f32.format.order a b == some .lt) = false := by rw [e0, h]; rfl
    have h2 : (FloatKind.f32.format.order a b == some .eq) = false := by rw [e0, h]; rfl
    have h3 : (FloatKind.f32.format.order a b == some .gt) = false := by rw [e0, h]; rfl
    clear e0 h
    go_enter Try.func41, Try.ntmps41
    go_wp2_with (go_at_call 51; refine (number_any _ _).mono ?_; rintro e wq ⟨rfl, hq⟩; subst wq)
    go_ret
    exact ⟨rfl, rfl⟩
  | some o =>
    cases o with
    | lt =>
      have h1 : (FloatKind.f32.format.order a b == some .lt) = true := by rw [e0, h]; rfl
      clear e0 h
      go_enter Try.func41, Try.ntmps41
      go_wp2_with (go_at_call 51; refine (number_any _ _).mono ?_; rintro e wq ⟨rfl, hq⟩; subst wq)
      go_ret
      exact ⟨rfl, rfl⟩
    | eq =>
      have h1 : (FloatKind.f32.format.order a b == some .lt) = false := by rw [e0, h]; rfl
      have h2 : (FloatKind.f32.format.order a b == some .eq) = true := by rw [e0, h]; rfl
      clear e0 h
      go_enter Try.func41, Try.ntmps41
      go_wp2_with (go_at_call 51; refine (number_any _ _).mono ?_; rintro e wq ⟨rfl, hq⟩; subst wq)
      go_ret
      exact ⟨rfl, rfl⟩
    | gt =>
      have h1 : (FloatKind.f32.format.order a b == some .lt) = false := by rw [e0, h]; rfl
      have h2 : (FloatKind.f32.format.order a b == some .eq) = false := by rw [e0, h]; rfl
      have h3 : (FloatKind.f32.format.order a b == some .gt) = true := by rw [e0, h]; rfl
      clear e0 h
      go_enter Try.func41, Try.ntmps41
      go_wp2_with (go_at_call 51; refine (number_any _ _).mono ?_; rintro e wq ⟨rfl, hq⟩; subst wq)
      go_ret
      exact ⟨rfl, rfl⟩

/-- the next above -/
def fab (a : Nat) : Nat := if ok a = false then 2143289344 else if a % 2147483648 = 0 then 1 else if a = 2139095040 then 2139095040 else if 2147483648 ≤ a then a - 1 else a + 1
theorem fab_lt {a : Nat} (h : a < 4294967296) : fab a < 4294967296 := by
  unfold fab; split
  · omega
  · split
    · omega
    · split
      · omega
      · split <;> omega
def fbe (a : Nat) : Nat := if ok a = false then 2143289344 else tn (fab (tn a))
end Go.Proofs.Ytibjjlogdepgjaa
