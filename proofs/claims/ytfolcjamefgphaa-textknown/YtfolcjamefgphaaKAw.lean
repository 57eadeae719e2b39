import Derived.Test.YtfolcjamefgphaaKTk
namespace Go.Proofs.Ytfolcjamefgphaa
open Go.RowKit
set_option maxRecDepth 100000

/-- the cells of tokens -/
theorem tv_at (s : ByteArray) : ∀ (L : List Tk) (i : Nat) (x : Tk), L[i]? = some x → (tv s L)[3 * i]? = some (.int .u8 x.1) ∧ (tv s L)[3 * i + 1]? = some (.int .i64 x.2.1) ∧ (tv s L)[3 * i + 2]? = some (.string (s.extract x.2.1 x.2.2))
  | [], i, x, h => by simp at h
  | y :: L, 0, x, h => by simp at h; subst h; exact ⟨rfl, rfl, rfl⟩
  | y :: L, i + 1, x, h => by
    have h' : L[i]? = some x := by simpa using h
    have := tv_at s L i x h'
    rw [show tv s (y :: L) = .int .u8 y.1 :: .int .i64 y.2.1 :: .string (s.extract y.2.1 y.2.2) :: tv s L from rfl]
    rw [show 3 * (i + 1) = 3 * i + 1 + 1 + 1 by omega]
    simpa using this
theorem tok_cells {W : World} {B : Nat} {v : Value} {s : ByteArray} {L : List Tk} (h : W.ownsRow B 30 3 v L.length (tv s L)) (hp : 0 < L.length) :
    ∃ g cap, v = .slice (some ⟨g, 0, none⟩) L.length cap ∧ g < W.heap.size ∧ L.length ≤ cap ∧ ∀ i x, L[i]? = some x → W.cell? ⟨g, 3 * i, none⟩ = some (.int .u8 x.1) ∧ W.cell? ⟨g, 3 * i + 1, none⟩ = some (.int .i64 x.2.1) ∧ W.cell? ⟨g, 3 * i + 2, none⟩ = some (.string (s.extract x.2.1 x.2.2)) := by
  have h' := h
  have hlt := h.lt
  rcases h.2 with ⟨rfl, hz⟩ | ⟨g, cap, cur, rfl, hrest⟩
  · omega
  · have hadd : ∀ i, (⟨g, 0, none⟩ : Addr).add i = ⟨g, i, none⟩ := fun i => by unfold Addr.add; split <;> simp_all
    refine ⟨g, cap, rfl, (hlt g rfl).2, ?_, fun i x hx => ?_⟩
    · exact hrest.2.2.1
    · obtain ⟨e1, e2, e3⟩ := tv_at s L i x hx
      have c1 := h'.cells (g := g) rfl (3 * i) _ e1
      have c2 := h'.cells (g := g) rfl (3 * i + 1) _ e2
      have c3 := h'.cells (g := g) rfl (3 * i + 2) _ e3
      rw [hadd] at c1 c2 c3
      exact ⟨c1, c2, c3⟩
theorem ex0 : (⟨#[97, 98, 32, 60, 61, 32, 55]⟩ : ByteArray).extract 0 2 = ⟨#[97, 98]⟩ := by kernel_rfl
theorem ex1 : (⟨#[97, 98, 32, 60, 61, 32, 55]⟩ : ByteArray).extract 3 5 = ⟨#[60, 61]⟩ := by kernel_rfl
theorem ex2 : (⟨#[97, 98, 32, 60, 61, 32, 55]⟩ : ByteArray).extract 6 7 = ⟨#[55]⟩ := by kernel_rfl
def aS : ByteArray := ⟨#[97, 98, 32, 60, 61, 32, 55]⟩
def aG : List ByteArray := [⟨#[60]⟩, ⟨#[60, 61]⟩]
theorem aV : toV aS aG = ([(1, 0, 2), (5, 3, 5), (2, 6, 7)], 0, 0) := by kernel_rfl
end Go.Proofs.Ytfolcjamefgphaa
