import Derived.Test.YtgfgdkeeonolcaaISam
namespace Go.Proofs.Ytgfgdkeeonolcaa
open Go.RowKit
set_option maxRecDepth 100000

theorem encF_take (L : List (Nat × Nat)) (k : Nat) (h : k < L.length) : (encF (L.take (k + 1))).length = (encF (L.take k)).length + (1 + opWi (L.getD k (0, 0)).1) := by
  rw [ptake (0, 0) L k h, encF_append, List.length_append]; simp [encF, enc1_len]
/-- what lies behind the code that is made: sizes, Decode, SameCode -/
theorem getD_ok {L : List (Nat × Nat)} (h : allOk L = true) {k : Nat} (hk : k < L.length) : okI (L.getD k (0, 0)) = true := by
  rw [allOk, List.all_eq_true] at h
  apply h
  rw [List.getD_eq_getElem?_getD, List.getElem?_eq_getElem hk]
  exact List.getElem_mem hk
theorem crd_drop {w : World} {g : Nat} {L : List (Nat × Nat)} {B : Nat} (h : CRd w (some ⟨g, 0, none⟩) L B) (hl : 1 < L.length) : CRd w (some ⟨g, 2, none⟩) (L.drop 1) B := by
  intro _
  obtain ⟨b, off, e, hlt, hc⟩ := h (by omega)
  simp only [Option.some.injEq, Addr.mk.injEq] at e
  obtain ⟨rfl, rfl, _⟩ := e
  refine ⟨g, 2, rfl, hlt, fun j hj => ?_⟩
  rw [List.length_drop] at hj
  have := hc (j + 1) (by omega)
  have e : (L.drop 1).getD j (0, 0) = L.getD (j + 1) (0, 0) := by simp [List.getD]
  rw [e, show 2 + j * 2 = 0 + (j + 1) * 2 by omega]
  exact this
theorem encF_pos {L : List (Nat × Nat)} (h : L ≠ []) : 0 < (encF L).length := by
  cases L with
  | nil => exact absurd rfl h
  | cons p L => rw [show encF (p :: L) = enc1 p ++ encF L from rfl, List.length_append, enc1_len]; omega
end Go.Proofs.Ytgfgdkeeonolcaa
