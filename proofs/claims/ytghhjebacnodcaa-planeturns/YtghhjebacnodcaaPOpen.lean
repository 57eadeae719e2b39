import Derived.Test.YtghhjebacnodcaaSOpen
import Derived.Lib.SmallJoins
import Derived.WalkLawsBesides
namespace Go.Proofs.Ytghhjebacnodcaa
open Go.ChangeShapes Go.WideShapes Go.ChangeAt Go.RowKit Go.Joins

theorem Try.cellsPt : Try.prog.cellsOf 28 = 2 := by kernel_rfl
theorem trod_float {H : Type} {enc : TypeId × Value → H} {P : Program} {w : World} {base : Nat} {spare : Nat → Bool} {held : Bool} {fuel : Nat} {t : TypeId} {cs : List Value} {x : DataW H × List MemPlace} {k : FloatKind} (ht : P.underlying t = some (.float k)) (h : DataW.trod enc P w base spare held fuel t cs = some x) : ∃ n, cs = [.float k n] ∧ x = (.lit (.float k n), []) ∧ (Lit.float k n).wf = true := by
  cases fuel with
  | zero => simp [DataW.trod] at h
  | succ n =>
    unfold DataW.trod at h
    rw [ht] at h
    split at h <;> simp_all
theorem float_wf {n : Nat} (h : (Lit.float .f64 n).wf = true) : n < 18446744073709551616 := by
  have := h
  simp only [Lit.wf, decide_eq_true_eq] at this
  exact this
theorem point_open {H : Type} {enc : TypeId × Value → H} {W : World} {r : Reach} {b0 : Nat} {v : Value} {d : DataW H} {p : List MemPlace}
    (hv : Value.okWide Try.prog W r b0 28 v) (h : DataW.Trod enc Try.prog W 0 (fun _ => true) true 28 v d p) :
    ∃ x y : Nat, v = .agg #[.float .f64 x, .float .f64 y] ∧ p = [] ∧ x < 18446744073709551616 ∧ y < 18446744073709551616 ∧ ∀ (W' : World) (sp : Nat → Bool), DataW.Trod enc Try.prog W' 0 sp true 28 v d [] := by
  obtain ⟨v0, v1, y0, y1, k, rfl, rfl, rfl, t0, t1⟩ := open_agg2 Try.underlying28 (by kernel_rfl) Try.cellsPt hv h
  obtain ⟨x, e0, rfl, w0⟩ := trod_float Try.underlying26 t0
  obtain ⟨y, e1, rfl, w1⟩ := trod_float Try.underlying26 t1
  simp at e0 e1
  subst e0 e1
  refine ⟨x, y, rfl, rfl, float_wf w0, float_wf w1, fun W' sp => ?_⟩
  exact shut_agg2 (y0 := (.lit (.float .f64 x), [])) (y1 := (.lit (.float .f64 y), [])) Try.underlying28 (by kernel_rfl) Try.cellsPt
    ⟨1, by simp [DataW.trod, Try.underlying26, w0]⟩ ⟨1, by simp [DataW.trod, Try.underlying26, w1]⟩
end Go.Proofs.Ytghhjebacnodcaa
