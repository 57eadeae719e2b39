import Derived.Test.YtghhjebacnodcaaPTurns
namespace Go.Proofs.Ytghhjebacnodcaa
open Go.RowKit
theorem fv_of {op : BinOp} {x y r : Nat} (h : floatBits op .f64 x y = some r) (w : World) : fv op x y w = r := by
  simp only [fv, h, Option.getD_some]
/-- a product's parts -/
structure MulV (a b c d r i : Nat) : Prop where
  re : ∃ w0 w1 w2 : World, r = fv .sub (fv .mul a c w0) (fv .mul b d w1) w2
  im : ∃ w0 w1 w2 : World, i = fv .add (fv .mul a d w0) (fv .mul b c w1) w2
theorem mul_any (a b c d : Nat) (w : World) :
    Calls Try.prog 23 #[.complex .f64 a b, .complex .f64 c d] w fun e w' => ∃ r i m, e = .returned (.complex .f64 r i) ∧ w' = w.drewN m ∧ MulV a b c d r i := by
  go_enter Try.func23, Try.ntmps23
  go_wp2
  go_ret
  exact ⟨_, _, _, rfl, rfl, ⟨_, _, _, rfl⟩, ⟨_, _, _, rfl⟩⟩
def AddV (a b c d r i : Nat) : Prop := ∃ w0 w1 : World, r = fv .add a c w0 ∧ i = fv .add b d w1
theorem add_any (a b c d : Nat) (w : World) :
    Calls Try.prog 24 #[.complex .f64 a b, .complex .f64 c d] w fun e w' => ∃ r i m, e = .returned (.complex .f64 r i) ∧ w' = w.drewN m ∧ AddV a b c d r i := by
  go_enter Try.func24, Try.ntmps24
  go_wp2
  go_ret
  exact ⟨_, _, _, rfl, rfl, _, _, rfl, rfl⟩
def CrossV (a b c d u : Nat) : Prop := ∃ w0 w1 w2 : World, u = fv .sub (fv .mul a d w0) (fv .mul b c w1) w2
theorem cross_any (a b c d : Nat) (w : World) :
    Calls Try.prog 20 #[.complex .f64 a b, .complex .f64 c d] w fun e w' => ∃ u m, e = .returned (.float .f64 u) ∧ w' = w.drewN m ∧ CrossV a b c d u := by
  go_enter Try.func20, Try.ntmps20
  go_wp2
  go_ret
  exact ⟨_, _, rfl, rfl, _, _, _, rfl⟩
theorem lives_mul {r i : Nat} (h : MulV 4607182418800017408 4611686018427387904 4613937818241073152 13830554455654793216 r i) : r = 4617315517961601024 ∧ i = 4617315517961601024 := by
  obtain ⟨⟨w0, w1, w2, h1⟩, ⟨w3, w4, w5, h2⟩⟩ := h
  rw [fv_of (op := .mul) (x := 4607182418800017408) (y := 4613937818241073152) (r := 4613937818241073152) (by decide +kernel), fv_of (op := .mul) (x := 4611686018427387904) (y := 13830554455654793216) (r := 13835058055282163712) (by decide +kernel), fv_of (op := .sub) (r := 4617315517961601024) (by decide +kernel)] at h1
  rw [fv_of (op := .mul) (x := 4607182418800017408) (y := 13830554455654793216) (r := 13830554455654793216) (by decide +kernel), fv_of (op := .mul) (x := 4611686018427387904) (y := 4613937818241073152) (r := 4618441417868443648) (by decide +kernel), fv_of (op := .add) (r := 4617315517961601024) (by decide +kernel)] at h2
  exact ⟨h1, h2⟩
theorem plives_any (w : World) :
    Calls Try.prog 7 #[] w fun e w' => e = .returned (.bool true) ∧ ∃ m, w' = w.drewN m := by
  have ho : (FloatKind.f64.format.order 4617315517961601024 4617315517961601024 == some .eq) = true := by decide +kernel
  go_enter Try.func7, Try.ntmps7
  go_wp2_with (first
    | (go_at_call 23; refine (mul_any _ _ _ _ _).mono ?_; rintro e wq ⟨r, i, m, rfl, hq, hv⟩; obtain ⟨rfl, rfl⟩ := lives_mul hv; subst wq))
  go_ret
  exact ⟨rfl, _, rfl⟩
theorem lof_any (x y : Nat) (w : World) :
    Calls Try.prog 12 #[.agg #[.float .f64 x, .float .f64 y]] w fun e w' => e = .returned (.complex .f64 x y) ∧ ∃ o, w' = w.alloc o := by
  go_enter Try.func12, Try.ntmps12
  go_wp2
  go_ret
  exact ⟨rfl, _, rfl⟩
end Go.Proofs.Ytghhjebacnodcaa
