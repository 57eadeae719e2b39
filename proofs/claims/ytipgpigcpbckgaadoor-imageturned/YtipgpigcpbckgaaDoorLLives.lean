import Derived.Test.YtipgpigcpbckgaaDoorLSame
import Derived.Test.YtipgpigcpbckgaaDoorLWd16
import Derived.Test.YtipgpigcpbckgaaDoorLWd32
namespace Go.Proofs.YtipgpigcpbckgaaDoor
open Go.RowKit
set_option maxRecDepth 100000

theorem own_readsK {w : World} {B e : Nat} {k : IntKind} {v : Value} {zs : List Int} (h : w.ownsRow B e 1 v zs.length (bk k zs)) : ∃ ao cap, v = .slice ao zs.length cap ∧ zs.length ≤ cap ∧ ReadsK w k ao zs w.heap.size := by
  have h' := h
  have hlt := h.lt
  rcases h.2 with ⟨rfl, hz⟩ | ⟨g, cap, cur, rfl, _, _, hc, _⟩
  · have hl : zs.length = 0 := by simpa using hz
    exact ⟨none, 0, by rw [hl], by omega, fun hp => by omega⟩
  · refine ⟨_, cap, rfl, hc, fun _ => ⟨g, 0, rfl, (hlt g rfl).2, fun j hj => ?_⟩⟩
    have := h'.cells (g := g) rfl j (.int k (zs.getD j 0)) (by simp [bk, List.getD, List.getElem?_eq_getElem hj])
    have hadd : (⟨g, 0, none⟩ : Addr).add j = ⟨g, 0 + j, none⟩ := by unfold Addr.add; split <;> simp_all
    rw [← hadd]; exact this
end Go.Proofs.YtipgpigcpbckgaaDoor
