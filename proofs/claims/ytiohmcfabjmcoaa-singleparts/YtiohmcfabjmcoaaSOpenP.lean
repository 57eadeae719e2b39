import Derived.Test.YtiohmcfabjmcoaaSOpen
import Derived.Test.YtiohmcfabjmcoaaSPart
import Derived.Lib.SmallJoins
namespace Go.Proofs.Ytiohmcfabjmcoaa
open Go.ChangeShapes Go.WideShapes Go.ChangeAt Go.RowKit Go.Joins

theorem Try.cellsP : Try.prog.cellsOf 25 = 4 := by kernel_rfl
theorem parts_open {H : Type} {enc : TypeId × Value → H} {W : World} {r : Reach} {b0 : Nat} {v : Value} {d : DataW H} {p : List MemPlace}
    (hv : Value.okWide Try.prog W r b0 25 v) (h : DataW.Trod enc Try.prog W 0 (fun _ => true) true 25 v d p) :
    ∃ (s : Int) (m : Bool) (n : Nat) (q : Int), v = pv (s, m, n, q) ∧ p = [] ∧ n < 4294967296 ∧ ∀ (W' : World) (sp : Nat → Bool), DataW.Trod enc Try.prog W' 0 sp true 25 v d [] := by
  obtain ⟨v0, v1, v2, v3, y0, y1, y2, y3, k, rfl, rfl, rfl, t0, t1, t2, t3⟩ := open_agg4 Try.underlying25 (by kernel_rfl) Try.cellsP hv h
  obtain ⟨s, e0, rfl, w0⟩ := DataW.trod_int Try.underlying23 t0
  obtain ⟨m, e1, rfl⟩ := DataW.trod_bool Try.underlying4 t1
  obtain ⟨n, e2, rfl, w2⟩ := DataW.trod_int Try.underlying22 t2
  obtain ⟨q, e3, rfl, w3⟩ := DataW.trod_int Try.underlying3 t3
  simp at e0 e1 e2 e3
  subst e0 e1 e2 e3
  obtain ⟨n', rfl, hn⟩ := word_wf w2
  refine ⟨s, m, n', q, rfl, rfl, hn, fun W' sp => ?_⟩
  exact shut_agg4 (y0 := (.lit (.int .u8 s), [])) (y1 := (.lit (.bool m), [])) (y2 := (.lit (.int .u32 n'), [])) (y3 := (.lit (.int .i64 q), [])) Try.underlying25 (by kernel_rfl) Try.cellsP
    ⟨1, by simp [DataW.trod, Try.underlying23, w0]⟩ ⟨1, by simp [DataW.trod, Try.underlying4]⟩ ⟨1, by simp [DataW.trod, Try.underlying22, w2]⟩ ⟨1, by simp [DataW.trod, Try.underlying3, w3]⟩
end Go.Proofs.Ytiohmcfabjmcoaa
