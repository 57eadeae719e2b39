import Derived.Test.YtcmfephbhbgoiaaDoorLOpen
import Derived.Lib.SmallJoins
namespace Go.Proofs.YtcmfephbhbgoiaaDoor
open Go.ChangeShapes Go.WideShapes Go.ChangeAt Go.RowKit Go.Joins
set_option maxRecDepth 100000
theorem Tryd.cellsR2 : Tryd.prog.cellsOf 27 = 2 := by kernel_rfl
/-- a reply that is handed in, and is not looked into -/
theorem reply_form {H : Type} {enc : TypeId × Value → H} {W : World} {base : Nat} {v : Value} {d : DataW H} {p : List MemPlace}
    (hv : Value.okWide Tryd.prog W .any base 27 v) (h : DataW.Trod enc Tryd.prog W 0 (fun _ => true) true 27 v d p) :
    ∃ (n : Int) (ao : Option Addr) (l c : Nat), v = .agg #[.int .u32 n, .slice ao l c] := by
  obtain ⟨c0, c1, y0, y1, m, rfl, _, _, hy0, hy1⟩ := open_agg2 Tryd.underlying27 (by kernel_rfl) Tryd.cellsR2 hv h
  obtain ⟨n, e0, _, _⟩ := DataW.trod_int Tryd.underlying23 hy0
  obtain ⟨ao, l, c, e1⟩ := slice_form Tryd.underlying25 hy1
  simp only [List.cons.injEq, and_true] at e0 e1
  subst e0 e1
  exact ⟨n, ao, l, c, rfl⟩
end Go.Proofs.YtcmfephbhbgoiaaDoor
