import Derived.Test.YtldeodnlppjbcaaLOpen
import Derived.Test.YtldeodnlppjbcaaKMb
import Derived.SliceStrings
import Derived.ShutString
namespace Go.Proofs.Ytldeodnlppjbcaa
open Go.ChangeShapes Go.WideShapes Go.ChangeAt Go.RowKit

theorem Try.cells9 : Try.prog.cellsOf 9 = 1 := by kernel_rfl
/-- a slice of strings that is handed in -/
theorem strs_open {H : Type} {enc : TypeId × Value → H} {W : World} {a0 : Option Addr} {len cap : Nat} {d : DataW H} {p : List MemPlace}
    (h : DataW.Trod enc Try.prog W 0 (fun _ => true) true 22 (.slice a0 len cap) d p) (hlt : ∀ x ∈ p, x.block < W.heap.size) :
    ∃ G : List ByteArray, G.length = len ∧ G.length ≤ cap ∧ G.length ≤ 9223372036854775807 ∧ (∀ x ∈ G, x.size ≤ 9223372036854775807) ∧ GRd W a0 G W.heap.size ∧ (d = .nil ∧ G = [] ∨ ∃ sp, d = .slice (strs G) (strs sp)) := by
  obtain ⟨fuel, hf⟩ := h
  rcases open_strings Try.underlying22 Try.underlying9 Try.cells9 hf with ⟨hcs, hx⟩ | ⟨a, len', cap', ss, hcs, _, hl, hm, hz, hx, hcell, hsz⟩
  · simp only [Prod.mk.injEq] at hx
    simp [Value.cells] at hcs
    obtain ⟨rfl, rfl, rfl⟩ := hcs
    exact ⟨[], rfl, by simp, by simp, by simp, fun hp => by simp at hp, .inl ⟨hx.1, rfl⟩⟩
  · simp only [Prod.mk.injEq] at hx
    obtain ⟨rfl, rfl⟩ := hx
    simp [Value.cells] at hcs
    obtain ⟨rfl, rfl, rfl⟩ := hcs
    simp only [if_true] at hz
    unfold maxLen at hm hsz
    have hlz : (ss.take len).length = len := by simp; omega
    refine ⟨ss.take len, hlz, by rw [hlz]; exact hl, by rw [hlz]; omega, fun x hx => hsz x (List.mem_of_mem_take hx), fun hpos => ?_, .inr ⟨_, rfl⟩⟩
    obtain ⟨b, off, spot⟩ := a
    have hspot : spot = none := by simpa [Addr.add] using World.cell?_spot (hcell 0 (by omega))
    subst hspot
    have hbW : b < W.heap.size := hlt (.cell b off) (MemPlace.mem_row.2 ⟨0, by omega, by simp⟩)
    refine ⟨b, off, rfl, hbW, fun j hj => ?_⟩
    rw [hlz] at hj
    rw [← add_plain, hcell j (by omega)]
    simp [hj]
end Go.Proofs.Ytldeodnlppjbcaa
