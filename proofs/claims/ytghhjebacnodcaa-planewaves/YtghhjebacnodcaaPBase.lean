import Derived.Test.YtghhjebacnodcaaSRootM
namespace Go.Proofs.Ytghhjebacnodcaa
open Go.RowKit

/-! binary64: what an operation gives, whatever its operands are -/
def nn (x : Nat) : Bool := (Ieee.double.read x).isNaN
def fv (op : BinOp) (x y : Nat) (w : World) : Nat := (floatBits op .f64 x y).getD (nanOf .f64 x y w)
def fc (op : BinOp) (x y : Nat) : Nat := if (floatBits op .f64 x y).isSome = true then 0 else 1
theorem run_fv {P : Program} (op : BinOp) (t : TypeId) (x y : Nat) (w : World) (ho : op = .add ∨ op = .sub ∨ op = .mul ∨ op = .quo) :
    (binOp op t (.float .f64 x) (.float .f64 y)).run P w = .ok (.float .f64 (fv op x y w)) (w.drewN (fc op x y)) := by
  unfold fv fc
  cases h : floatBits op .f64 x y with
  | some r => exact run_float_arith w op t .f64 x y r h
  | none => exact run_float_none op t .f64 x y w ho h
@[go_sem] theorem run_fv_add {P : Program} (t : TypeId) (x y : Nat) (w : World) : (binOp .add t (.float .f64 x) (.float .f64 y)).run P w = .ok (.float .f64 (fv .add x y w)) (w.drewN (fc .add x y)) := run_fv _ _ _ _ _ (by simp)
@[go_sem] theorem run_fv_sub {P : Program} (t : TypeId) (x y : Nat) (w : World) : (binOp .sub t (.float .f64 x) (.float .f64 y)).run P w = .ok (.float .f64 (fv .sub x y w)) (w.drewN (fc .sub x y)) := run_fv _ _ _ _ _ (by simp)
@[go_sem] theorem run_fv_mul {P : Program} (t : TypeId) (x y : Nat) (w : World) : (binOp .mul t (.float .f64 x) (.float .f64 y)).run P w = .ok (.float .f64 (fv .mul x y w)) (w.drewN (fc .mul x y)) := run_fv _ _ _ _ _ (by simp)
@[go_sem] theorem run_fv_quo {P : Program} (t : TypeId) (x y : Nat) (w : World) : (binOp .quo t (.float .f64 x) (.float .f64 y)).run P w = .ok (.float .f64 (fv .quo x y w)) (w.drewN (fc .quo x y)) := run_fv _ _ _ _ _ (by simp)
@[go_sem] theorem run_same64 (x : Nat) (w : World) : (convert 26 26 (.float .f64 x)).run Try.prog w = .ok (.float .f64 x) w :=
  run_convert_float_float (P := Try.prog) w 26 26 .f64 .f64 x x (by kernel_rfl) (by kernel_rfl) rfl
@[go_sem] theorem unary_neg_float (k : FloatKind) (x : Nat) {P : Program} (w : World) : (Op.unary .neg (.float k x)).run P w = .ok (.float k (Op.negFloat k x)) w := rfl

theorem order_self64 (x : Nat) : Ieee.double.order x x = if nn x = true then none else some .eq := by
  show (Ieee.double.read x).order (Ieee.double.read x) = _
  rw [order_refl]; rfl
theorem ne_self64 (x : Nat) : (FloatKind.f64.format.order x x != some .eq) = nn x := by
  show (Ieee.double.order x x != some .eq) = nn x
  rw [order_self64]; cases nn x <;> rfl
/-- the same bits, or no number -/
def sm (x y : Nat) : Bool := nn x && nn y || x == y
end Go.Proofs.Ytghhjebacnodcaa
