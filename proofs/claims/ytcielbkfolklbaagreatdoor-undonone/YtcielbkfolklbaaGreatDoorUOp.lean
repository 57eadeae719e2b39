import Derived.Test.YtcielbkfolklbaaGreatDoorUNw
import Derived.Test.YtcielbkfolklbaaGreatDoorLOpen
import Derived.Lib.SmallJoins
import Derived.ChangeMaps5
import Derived.Deep.Slices
namespace Go.Proofs.YtcielbkfolklbaaGreatDoor
open Go.ChangeShapes Go.WideShapes Go.ChangeAt Go.RowKit Go.Joins Go.Deep
set_option maxRecDepth 100000
theorem list6 {α : Type} {l : List α} (h : l.length = 6) : ∃ a b c d e f, l = [a, b, c, d, e, f] := by
  match l, h with
  | [a, b, c, d, e, f], _ => exact ⟨a, b, c, d, e, f, rfl⟩
theorem sl_form {H : Type} {enc : TypeId × Value → H} {W : World} {fuel : Nat} {t e : TypeId} {c : Value} {y : DataW H × List MemPlace} (ht : Tryz.prog.underlying t = some (.slice e))
    (h : DataW.trod enc Tryz.prog W 0 (fun _ => true) true fuel t [c] = some y) : ∃ ao n cap, c = .slice ao n cap := by
  rcases open_slice ht h with ⟨hcs, _⟩ | ⟨a, len', cap', m, n, D, Pl, hcs, _⟩
  · simp only [List.cons.injEq, and_true] at hcs
    exact ⟨_, _, _, hcs⟩
  · simp only [List.cons.injEq, and_true] at hcs
    exact ⟨_, _, _, hcs⟩
theorem in_form {H : Type} {enc : TypeId × Value → H} {W : World} {fuel : Nat} {t : TypeId} {k : IntKind} {c : Value} {y : DataW H × List MemPlace} (ht : Tryz.prog.underlying t = some (.int k))
    (h : DataW.trod enc Tryz.prog W 0 (fun _ => true) true fuel t [c] = some y) : ∃ z, c = .int k z := by
  obtain ⟨z, e, _, _⟩ := DataW.trod_int ht h
  simp only [List.cons.injEq, and_true] at e
  exact ⟨z, e⟩
theorem some_at {α : Type} {xs : List α} {i n : Nat} {o : Option α} (hn : xs.length = n) (hi : i < n) (h : o = xs[i]?) : ∃ y, o = some y := ⟨xs[i], h.trans (List.getElem?_eq_getElem (by omega))⟩
/-- an Act that is handed in -/
theorem actU_form {H : Type} {enc : TypeId × Value → H} {W : World} {r : Reach} {b0 : Nat} {v : Value} {d : DataW H} {p : List MemPlace}
    (hv : Value.okWide Tryz.prog W r b0 26 v) (h : DataW.Trod enc Tryz.prog W 0 (fun _ => true) true 26 v d p) :
    ∃ on ki fu at_ a1 n1 c1 a2 n2 c2, v = .agg (actU on ki fu at_ a1 n1 c1 a2 n2 c2) := by
  obtain ⟨cs, rfl, hsz⟩ := okWide_struct Tryz.underlying26 hv
  have hsz2 : cs.toList.length = 6 := by rw [Array.length_toList]; exact hsz.trans (by kernel_rfl)
  obtain ⟨x0, x1, x2, x3, x4, x5, hx⟩ := list6 hsz2
  obtain rfl : cs = #[x0, x1, x2, x3, x4, x5] := by cases cs; simp_all
  clear hsz hsz2 hx
  obtain ⟨fuel, hf⟩ := h
  obtain ⟨xs, n, _, _, hl, hlen, hfld⟩ := DataW.trod_struct Tryz.underlying26 hf
  have k0 : Tryz.prog.cellsOf 3 = 1 := by kernel_rfl
  have k1 : Tryz.prog.cellsOf 22 = 1 := by kernel_rfl
  have k2 : Tryz.prog.cellsOf 23 = 1 := by kernel_rfl
  have k3 : Tryz.prog.cellsOf 24 = 1 := by kernel_rfl
  have hn : xs.length = 6 := hlen
  obtain ⟨y0, h0⟩ : ∃ y, DataW.trod enc Tryz.prog W 0 (fun _ => true) true n 3 [x0] = some y := some_at hn (by omega : 0 < 6) (by have := hfld 0 _ rfl; simpa [k0, Value.cells] using this)
  obtain ⟨y1, h1⟩ : ∃ y, DataW.trod enc Tryz.prog W 0 (fun _ => true) true n 3 [x1] = some y := some_at hn (by omega : 1 < 6) (by have := hfld 1 _ rfl; simpa [k0, Value.cells] using this)
  obtain ⟨y2, h2⟩ : ∃ y, DataW.trod enc Tryz.prog W 0 (fun _ => true) true n 3 [x2] = some y := some_at hn (by omega : 2 < 6) (by have := hfld 2 _ rfl; simpa [k0, Value.cells] using this)
  obtain ⟨y3, h3⟩ : ∃ y, DataW.trod enc Tryz.prog W 0 (fun _ => true) true n 22 [x3] = some y := some_at hn (by omega : 3 < 6) (by have := hfld 3 _ rfl; simpa [k1, Value.cells] using this)
  obtain ⟨y4, h4⟩ : ∃ y, DataW.trod enc Tryz.prog W 0 (fun _ => true) true n 23 [x4] = some y := some_at hn (by omega : 4 < 6) (by have := hfld 4 _ rfl; simpa [k2, Value.cells] using this)
  obtain ⟨y5, h5⟩ : ∃ y, DataW.trod enc Tryz.prog W 0 (fun _ => true) true n 24 [x5] = some y := some_at hn (by omega : 5 < 6) (by have := hfld 5 _ rfl; simpa [k3, Value.cells] using this)
  obtain ⟨on, rfl⟩ := in_form Tryz.underlying3 h0
  obtain ⟨ki, rfl⟩ := in_form Tryz.underlying3 h1
  obtain ⟨fu, rfl⟩ := in_form Tryz.underlying3 h2
  obtain ⟨at_, rfl⟩ := in_form Tryz.underlying22 h3
  obtain ⟨a1, n1, c1, rfl⟩ := sl_form Tryz.underlying23 h4
  obtain ⟨a2, n2, c2, rfl⟩ := sl_form Tryz.underlying24 h5
  exact ⟨on, ki, fu, at_, a1, n1, c1, a2, n2, c2, rfl⟩
end Go.Proofs.YtcielbkfolklbaaGreatDoor
