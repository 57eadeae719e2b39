import Derived.Test.YtiopabplhneoeaaSOpen
import Derived.Lib.SmallJoins
namespace Go.Proofs.Ytiopabplhneoeaa
open Go.ChangeShapes Go.WideShapes Go.ChangeAt Go.RowKit Go.Joins

theorem eint_wf {z : Int} (h : (Lit.int .i64 z).wf = true) : -9223372036854775808 ≤ z ∧ z ≤ 9223372036854775807 := by
  have h1 : IntKind.i64.min = -9223372036854775808 := rfl
  have h2 : IntKind.i64.max = 9223372036854775807 := rfl
  simp only [Lit.wf, Bool.and_eq_true, decide_eq_true_eq] at h
  omega
theorem Try.cellsE : Try.prog.cellsOf 24 = 4 := by kernel_rfl
theorem exact_open {H : Type} {enc : TypeId × Value → H} {W : World} {r : Reach} {b0 : Nat} {v : Value} {d : DataW H} {p : List MemPlace}
    (hv : Value.okWide Try.prog W r b0 24 v) (h : DataW.Trod enc Try.prog W 0 (fun _ => true) true 24 v d p) :
    ∃ (m : Bool) (x : Nat) (q : Int) (mo : Bool), v = .agg #[.bool m, .int .u64 x, .int .i64 q, .bool mo] ∧ p = [] ∧ x < 18446744073709551616 ∧ -9223372036854775808 ≤ q ∧ q ≤ 9223372036854775807 ∧ ∀ (W' : World) (sp : Nat → Bool), DataW.Trod enc Try.prog W' 0 sp true 24 v d [] := by
  obtain ⟨v0, v1, v2, v3, y0, y1, y2, y3, k, rfl, rfl, rfl, t0, t1, t2, t3⟩ := open_agg4 Try.underlying24 (by kernel_rfl) Try.cellsE hv h
  obtain ⟨m, e0, rfl⟩ := DataW.trod_bool Try.underlying4 t0
  obtain ⟨n, e1, rfl, w1⟩ := DataW.trod_int Try.underlying22 t1
  obtain ⟨q, e2, rfl, w2⟩ := DataW.trod_int Try.underlying3 t2
  obtain ⟨mo, e3, rfl⟩ := DataW.trod_bool Try.underlying4 t3
  simp at e0 e1 e2 e3
  subst e0 e1 e2 e3
  obtain ⟨n', rfl, hn⟩ := quad_wf w1
  have w2' := w2
  refine ⟨m, n', q, mo, rfl, rfl, hn, ?_, ?_, fun W' sp => ?_⟩
  · exact (eint_wf w2).1
  · exact (eint_wf w2).2
  · exact shut_agg4 (y0 := (.lit (.bool m), [])) (y1 := (.lit (.int .u64 n'), [])) (y2 := (.lit (.int .i64 q), [])) (y3 := (.lit (.bool mo), [])) Try.underlying24 (by kernel_rfl) Try.cellsE
      ⟨1, by simp [DataW.trod, Try.underlying4]⟩ ⟨1, by simp [DataW.trod, Try.underlying22, w1]⟩ ⟨1, by simp [DataW.trod, Try.underlying3, w2']⟩ ⟨1, by simp [DataW.trod, Try.underlying4]⟩
end Go.Proofs.Ytiopabplhneoeaa
