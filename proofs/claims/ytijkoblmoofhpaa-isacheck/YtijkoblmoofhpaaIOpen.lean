import Derived.Test.YtijkoblmoofhpaaAOpen
import Derived.Lib.SmallJoins
import Derived.ChangeMaps5
namespace Go.Proofs.Ytijkoblmoofhpaa
open Go.ChangeShapes Go.WideShapes Go.ChangeAt Go.RowKit Go.Joins

theorem byte_lt {z : Int} (h : (Lit.int .u8 z).wf = true) : ∃ n : Nat, z = n ∧ n < 256 := by
  have h' : 0 ≤ z ∧ z ≤ 255 := by simpa [Lit.wf, IntKind.min, IntKind.max, IntKind.signed, IntKind.bits] using h
  obtain ⟨n, rfl⟩ := Int.eq_ofNat_of_zero_le h'.1
  exact ⟨n, rfl, by omega⟩
theorem Try.cellsI : Try.prog.cellsOf 34 = 2 := by kernel_rfl
theorem instr_open {H : Type} {enc : TypeId × Value → H} {W : World} {r : Reach} {b0 : Nat} {v : Value} {d : DataW H} {p : List MemPlace}
    (hv : Value.okWide Try.prog W r b0 34 v) (h : DataW.Trod enc Try.prog W 0 (fun _ => true) true 34 v d p) :
    ∃ (o n : Nat), v = .agg #[.int .u8 o, .int .u32 n] ∧ p = [] ∧ o < 256 ∧ n < 4294967296 ∧ ∀ (W' : World) (sp : Nat → Bool), DataW.Trod enc Try.prog W' 0 sp true 34 v d [] := by
  obtain ⟨v0, v1, y0, y1, k, rfl, rfl, rfl, t0, t1⟩ := open_agg2 Try.underlying34 (by kernel_rfl) Try.cellsI hv h
  obtain ⟨s, e0, rfl, w0⟩ := DataW.trod_int Try.underlying28 t0
  obtain ⟨n, e2, rfl, w2⟩ := DataW.trod_int Try.underlying22 t1
  simp at e0 e2
  subst e0 e2
  obtain ⟨n', rfl, hn⟩ := word_wf w2
  obtain ⟨s', rfl, hs⟩ := byte_lt w0
  refine ⟨s', n', rfl, rfl, hs, hn, fun W' sp => ?_⟩
  exact shut_agg2 (y0 := (.lit (.int .u8 s'), [])) (y1 := (.lit (.int .u32 n'), [])) Try.underlying34 (by kernel_rfl) Try.cellsI
    ⟨1, by simp [DataW.trod, Try.underlying28, w0]⟩ ⟨1, by simp [DataW.trod, Try.underlying22, w2]⟩
end Go.Proofs.Ytijkoblmoofhpaa
