import Derived.Test.YtgfgdkeeonolcaaIKep
import Derived.Test.YtgfgdkeeonolcaaIREn
namespace Go.Proofs.Ytgfgdkeeonolcaa
open Go.RowKit
set_option maxRecDepth 100000

theorem crd_take {w : World} {ao : Option Addr} {L M : List (Nat × Nat)} {B : Nat} (h : CRd w ao (L ++ M) B) : CRd w ao L B := by
  intro hp
  obtain ⟨b, off, e, hb, hc⟩ := h (by rw [List.length_append]; omega)
  refine ⟨b, off, e, hb, fun j hj => ?_⟩
  have := hc j (by rw [List.length_append]; omega)
  rw [getD_app_left hj] at this
  exact this
end Go.Proofs.Ytgfgdkeeonolcaa
