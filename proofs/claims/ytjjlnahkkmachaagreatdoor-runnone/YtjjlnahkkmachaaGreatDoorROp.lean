import Derived.Test.YtjjlnahkkmachaaGreatDoorRNw
import Derived.Test.YtjjlnahkkmachaaGreatDoorLOpen
import Derived.Lib.SmallJoins
import Derived.ChangeMaps5
import Derived.Deep.Slices
namespace Go.Proofs.YtjjlnahkkmachaaGreatDoor
open Go.ChangeShapes Go.WideShapes Go.ChangeAt Go.RowKit Go.Joins Go.Deep
set_option maxRecDepth 100000
theorem list14 {α : Type} {l : List α} (h : l.length = 14) : ∃ a b c d e f g i j k m n o p, l = [a, b, c, d, e, f, g, i, j, k, m, n, o, p] := by
  match l, h with
  | [a, b, c, d, e, f, g, i, j, k, m, n, o, p], _ => exact ⟨a, b, c, d, e, f, g, i, j, k, m, n, o, p, rfl⟩
theorem sl_form {H : Type} {enc : TypeId × Value → H} {W : World} {fuel : Nat} {t e : TypeId} {c : Value} {y : DataW H × List MemPlace} (ht : Tryz.prog.underlying t = some (.slice e))
    (h : DataW.trod enc Tryz.prog W 0 (fun _ => true) true fuel t [c] = some y) : ∃ ao n cap, c = .slice ao n cap := by
  rcases open_slice ht h with ⟨hcs, _⟩ | ⟨a, len', cap', m, n, D, Pl, hcs, _⟩
  · simp only [List.cons.injEq, and_true] at hcs
    exact ⟨_, _, _, hcs⟩
  · simp only [List.cons.injEq, and_true] at hcs
    exact ⟨_, _, _, hcs⟩
theorem in_form {H : Type} {enc : TypeId × Value → H} {W : World} {fuel : Nat} {t : TypeId} {k : IntKind} {c : Value} {y : DataW H × List MemPlace} (ht : Tryz.prog.underlying t = some (.int k))
    (h : DataW.trod enc Tryz.prog W 0 (fun _ => true) true fuel t [c] = some y) : ∃ z, c = .int k z := by
  obtain ⟨z, e, _, _⟩ := DataW.trod_int ht h
  simp only [List.cons.injEq, and_true] at e
  exact ⟨z, e⟩
theorem some_at {α : Type} {xs : List α} {i n : Nat} {o : Option α} (hn : xs.length = n) (hi : i < n) (h : o = xs[i]?) : ∃ y, o = some y := ⟨xs[i], h.trans (List.getElem?_eq_getElem (by omega))⟩
/-- a state that is handed in -/
theorem st_form {H : Type} {enc : TypeId × Value → H} {W : World} {fuel : Nat} {a b c d e f g : Value} {y : DataW H × List MemPlace} (h : DataW.trod enc Tryz.prog W 0 (fun _ => true) true fuel 29 [a, b, c, d, e, f, g] = some y) :
    ∃ li pc sp a3 n3 c3 a4 n4 c4 va fl, a = .int .u8 li ∧ b = .int .u32 pc ∧ c = .int .u32 sp ∧ d = .slice a3 n3 c3 ∧ e = .slice a4 n4 c4 ∧ f = .int .u32 va ∧ g = .int .u8 fl := by
  obtain ⟨xs, n, _, _, hl, hlen, hfld⟩ := DataW.trod_struct Tryz.underlying29 h
  have k0 : Tryz.prog.cellsOf 25 = 1 := by kernel_rfl
  have k1 : Tryz.prog.cellsOf 22 = 1 := by kernel_rfl
  have k2 : Tryz.prog.cellsOf 23 = 1 := by kernel_rfl
  have k3 : Tryz.prog.cellsOf 26 = 1 := by kernel_rfl
  have k4 : Tryz.prog.cellsOf 27 = 1 := by kernel_rfl
  have hn : xs.length = 7 := hlen
  obtain ⟨y0, h0⟩ : ∃ y, DataW.trod enc Tryz.prog W 0 (fun _ => true) true n 25 [a] = some y := some_at hn (by omega : 0 < 7) (by have := hfld 0 _ rfl; simpa [k0] using this)
  obtain ⟨y1, h1⟩ : ∃ y, DataW.trod enc Tryz.prog W 0 (fun _ => true) true n 22 [b] = some y := some_at hn (by omega : 1 < 7) (by have := hfld 1 _ rfl; simpa [k1] using this)
  obtain ⟨y2, h2⟩ : ∃ y, DataW.trod enc Tryz.prog W 0 (fun _ => true) true n 22 [c] = some y := some_at hn (by omega : 2 < 7) (by have := hfld 2 _ rfl; simpa [k1] using this)
  obtain ⟨y3, h3⟩ : ∃ y, DataW.trod enc Tryz.prog W 0 (fun _ => true) true n 23 [d] = some y := some_at hn (by omega : 3 < 7) (by have := hfld 3 _ rfl; simpa [k2] using this)
  obtain ⟨y4, h4⟩ : ∃ y, DataW.trod enc Tryz.prog W 0 (fun _ => true) true n 26 [e] = some y := some_at hn (by omega : 4 < 7) (by have := hfld 4 _ rfl; simpa [k3] using this)
  obtain ⟨y5, h5⟩ : ∃ y, DataW.trod enc Tryz.prog W 0 (fun _ => true) true n 22 [f] = some y := some_at hn (by omega : 5 < 7) (by have := hfld 5 _ rfl; simpa [k1] using this)
  obtain ⟨y6, h6⟩ : ∃ y, DataW.trod enc Tryz.prog W 0 (fun _ => true) true n 27 [g] = some y := some_at hn (by omega : 6 < 7) (by have := hfld 6 _ rfl; simpa [k4] using this)
  obtain ⟨li, e0⟩ := in_form Tryz.underlying25 h0
  obtain ⟨pc, e1⟩ := in_form Tryz.underlying22 h1
  obtain ⟨sp, e2⟩ := in_form Tryz.underlying22 h2
  obtain ⟨a3, n3, c3, e3⟩ := sl_form Tryz.underlying23 h3
  obtain ⟨a4, n4, c4, e4⟩ := sl_form Tryz.underlying26 h4
  obtain ⟨va, e5⟩ := in_form Tryz.underlying22 h5
  obtain ⟨fl, e6⟩ := in_form Tryz.underlying27 h6
  exact ⟨li, pc, sp, a3, n3, c3, a4, n4, c4, va, fl, e0, e1, e2, e3, e4, e5, e6⟩
/-- an Act that is handed in -/
theorem act_form {H : Type} {enc : TypeId × Value → H} {W : World} {r : Reach} {b0 : Nat} {v : Value} {d : DataW H} {p : List MemPlace}
    (hv : Value.okWide Tryz.prog W r b0 31 v) (h : DataW.Trod enc Tryz.prog W 0 (fun _ => true) true 31 v d p) :
    ∃ on ki fu ke at_ a1 n1 c1 a2 n2 c2 li pc sp a3 n3 c3 a4 n4 c4 va fl, v = .agg (actC on ki fu ke at_ a1 n1 c1 a2 n2 c2 li pc sp a3 n3 c3 a4 n4 c4 va fl) := by
  obtain ⟨cs, rfl, hsz⟩ := okWide_struct Tryz.underlying31 hv
  have hsz2 : cs.toList.length = 14 := by rw [Array.length_toList]; exact hsz.trans (by kernel_rfl)
  obtain ⟨x0, x1, x2, x3, x4, x5, x6, x7, x8, x9, x10, x11, x12, x13, hx⟩ := list14 hsz2
  obtain rfl : cs = #[x0, x1, x2, x3, x4, x5, x6, x7, x8, x9, x10, x11, x12, x13] := by cases cs; simp_all
  clear hsz hsz2 hx
  obtain ⟨fuel, hf⟩ := h
  obtain ⟨xs, n, _, _, hl, hlen, hfld⟩ := DataW.trod_struct Tryz.underlying31 hf
  have k0 : Tryz.prog.cellsOf 3 = 1 := by kernel_rfl
  have k1 : Tryz.prog.cellsOf 22 = 1 := by kernel_rfl
  have k2 : Tryz.prog.cellsOf 23 = 1 := by kernel_rfl
  have k3 : Tryz.prog.cellsOf 24 = 1 := by kernel_rfl
  have k4 : Tryz.prog.cellsOf 29 = 7 := by kernel_rfl
  have hn : xs.length = 8 := hlen
  obtain ⟨y0, h0⟩ : ∃ y, DataW.trod enc Tryz.prog W 0 (fun _ => true) true n 3 [x0] = some y := some_at hn (by omega : 0 < 8) (by have := hfld 0 _ rfl; simpa [k0, Value.cells] using this)
  obtain ⟨y1, h1⟩ : ∃ y, DataW.trod enc Tryz.prog W 0 (fun _ => true) true n 3 [x1] = some y := some_at hn (by omega : 1 < 8) (by have := hfld 1 _ rfl; simpa [k0, Value.cells] using this)
  obtain ⟨y2, h2⟩ : ∃ y, DataW.trod enc Tryz.prog W 0 (fun _ => true) true n 3 [x2] = some y := some_at hn (by omega : 2 < 8) (by have := hfld 2 _ rfl; simpa [k0, Value.cells] using this)
  obtain ⟨y3, h3⟩ : ∃ y, DataW.trod enc Tryz.prog W 0 (fun _ => true) true n 3 [x3] = some y := some_at hn (by omega : 3 < 8) (by have := hfld 3 _ rfl; simpa [k0, Value.cells] using this)
  obtain ⟨y4, h4⟩ : ∃ y, DataW.trod enc Tryz.prog W 0 (fun _ => true) true n 22 [x4] = some y := some_at hn (by omega : 4 < 8) (by have := hfld 4 _ rfl; simpa [k1, Value.cells] using this)
  obtain ⟨y5, h5⟩ : ∃ y, DataW.trod enc Tryz.prog W 0 (fun _ => true) true n 23 [x5] = some y := some_at hn (by omega : 5 < 8) (by have := hfld 5 _ rfl; simpa [k2, Value.cells] using this)
  obtain ⟨y6, h6⟩ : ∃ y, DataW.trod enc Tryz.prog W 0 (fun _ => true) true n 24 [x6] = some y := some_at hn (by omega : 6 < 8) (by have := hfld 6 _ rfl; simpa [k3, Value.cells] using this)
  obtain ⟨y7, h7⟩ : ∃ y, DataW.trod enc Tryz.prog W 0 (fun _ => true) true n 29 [x7, x8, x9, x10, x11, x12, x13] = some y := some_at hn (by omega : 7 < 8) (by have := hfld 7 _ rfl; simpa [k4, Value.cells] using this)
  obtain ⟨on, rfl⟩ := in_form Tryz.underlying3 h0
  obtain ⟨ki, rfl⟩ := in_form Tryz.underlying3 h1
  obtain ⟨fu, rfl⟩ := in_form Tryz.underlying3 h2
  obtain ⟨ke, rfl⟩ := in_form Tryz.underlying3 h3
  obtain ⟨at_, rfl⟩ := in_form Tryz.underlying22 h4
  obtain ⟨a1, n1, c1, rfl⟩ := sl_form Tryz.underlying23 h5
  obtain ⟨a2, n2, c2, rfl⟩ := sl_form Tryz.underlying24 h6
  obtain ⟨li, pc, sp, a3, n3, c3, a4, n4, c4, va, fl, rfl, rfl, rfl, rfl, rfl, rfl, rfl⟩ := st_form h7
  exact ⟨on, ki, fu, ke, at_, a1, n1, c1, a2, n2, c2, li, pc, sp, a3, n3, c3, a4, n4, c4, va, fl, rfl⟩
end Go.Proofs.YtjjlnahkkmachaaGreatDoor
