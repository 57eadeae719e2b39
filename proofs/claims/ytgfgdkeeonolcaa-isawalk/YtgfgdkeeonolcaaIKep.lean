import Derived.Test.YtgfgdkeeonolcaaILen
namespace Go.Proofs.Ytgfgdkeeonolcaa
open Go.RowKit
set_option maxRecDepth 100000

theorem gC {w W : World} {b o : Nat} {v0 v1 : Value} (hb : b < w.heap.size) (h0 : w.cell? ⟨b, o, none⟩ = some v0) (h1 : w.cell? ⟨b, o + 1, none⟩ = some v1) (h : Below w.heap.size w W) : W.cell? ⟨b, o, none⟩ = some v0 ∧ W.cell? ⟨b, o + 1, none⟩ = some v1 :=
  ⟨(h.cell (p := ⟨b, o, none⟩) hb).trans h0, (h.cell (p := ⟨b, o + 1, none⟩) hb).trans h1⟩
theorem getD_app_left {L M : List (Nat × Nat)} {k : Nat} (h : k < L.length) : (L ++ M).getD k (0, 0) = L.getD k (0, 0) := by
  simp [List.getD, List.getElem?_append_left h]
theorem getD_app_right {L M : List (Nat × Nat)} {j : Nat} : (L ++ M).getD (L.length + j) (0, 0) = M.getD j (0, 0) := by
  simp only [List.getD]
  rw [List.getElem?_append_right (by omega), Nat.add_sub_cancel_left]
theorem mksC_get {j : Nat} (h : j < 64) : (mksC 64).getD j (0, 0) = (200, 1000003 + j) := by
  simp [mksC, mk0, List.getD, h]
end Go.Proofs.Ytgfgdkeeonolcaa
