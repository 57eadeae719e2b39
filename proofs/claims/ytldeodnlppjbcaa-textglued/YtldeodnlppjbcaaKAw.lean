import Derived.Test.YtldeodnlppjbcaaKTk
namespace Go.Proofs.Ytldeodnlppjbcaa
open Go.RowKit
set_option maxRecDepth 100000

/-- the cells of tokens -/
theorem tv_at (s : ByteArray) : ∀ (L : List Tk) (i : Nat) (x : Tk), L[i]? = some x → (tv s L)[3 * i]? = some (.int .u8 x.1) ∧ (tv s L)[3 * i + 1]? = some (.int .i64 x.2.1) ∧ (tv s L)[3 * i + 2]? = some (.string (s.extract x.2.1 x.2.2))
  | [], i, x, h => by simp at h
  | y :: L, 0, x, h => by simp at h; subst h; exact ⟨rfl, rfl, rfl⟩
  | y :: L, i + 1, x, h => by
    have h' : L[i]? = some x := by simpa using h
    have := tv_at s L i x h'
    rw [show tv s (y :: L) = .int .u8 y.1 :: .int .i64 y.2.1 :: .string (s.extract y.2.1 y.2.2) :: tv s L from rfl]
    rw [show 3 * (i + 1) = 3 * i + 1 + 1 + 1 by omega]
    simpa using this
theorem tok_cells {W : World} {B : Nat} {v : Value} {s : ByteArray} {L : List Tk} (h : W.ownsRow B 36 3 v L.length (tv s L)) (hp : 0 < L.length) :
    ∃ g cap, v = .slice (some ⟨g, 0, none⟩) L.length cap ∧ g < W.heap.size ∧ L.length ≤ cap ∧ ∀ i x, L[i]? = some x → W.cell? ⟨g, 3 * i, none⟩ = some (.int .u8 x.1) ∧ W.cell? ⟨g, 3 * i + 1, none⟩ = some (.int .i64 x.2.1) ∧ W.cell? ⟨g, 3 * i + 2, none⟩ = some (.string (s.extract x.2.1 x.2.2)) := by
  have h' := h
  have hlt := h.lt
  rcases h.2 with ⟨rfl, hz⟩ | ⟨g, cap, cur, rfl, hrest⟩
  · omega
  · have hadd : ∀ i, (⟨g, 0, none⟩ : Addr).add i = ⟨g, i, none⟩ := fun i => by unfold Addr.add; split <;> simp_all
    refine ⟨g, cap, rfl, (hlt g rfl).2, ?_, fun i x hx => ?_⟩
    · exact hrest.2.2.1
    · obtain ⟨e1, e2, e3⟩ := tv_at s L i x hx
      have c1 := h'.cells (g := g) rfl (3 * i) _ e1
      have c2 := h'.cells (g := g) rfl (3 * i + 1) _ e2
      have c3 := h'.cells (g := g) rfl (3 * i + 2) _ e3
      rw [hadd] at c1 c2 c3
      exact ⟨c1, c2, c3⟩
theorem ex0 : (⟨#[97, 98, 32, 60, 61, 32, 55]⟩ : ByteArray).extract 0 2 = ⟨#[97, 98]⟩ := by kernel_rfl
theorem ex1 : (⟨#[97, 98, 32, 60, 61, 32, 55]⟩ : ByteArray).extract 3 5 = ⟨#[60, 61]⟩ := by kernel_rfl
theorem ex2 : (⟨#[97, 98, 32, 60, 61, 32, 55]⟩ : ByteArray).extract 6 7 = ⟨#[55]⟩ := by kernel_rfl
def aS : ByteArray := ⟨#[97, 98, 32, 60, 61, 32, 55]⟩
def aG : List ByteArray := [⟨#[60]⟩, ⟨#[60, 61]⟩]
theorem aV : toV aS aG = ([(1, 0, 2), (5, 3, 5), (2, 6, 7)], 0, 0) := by kernel_rfl
set_option maxHeartbeats 2000000 in
theorem awake_any (w : World) : Calls Try.prog 11 #[] w fun e w' => e = .returned (.bool true) ∧ Below w.heap.size w w' := by
  have hT : ∀ w1 : World, w1.cell? ⟨w.heap.size, 0, none⟩ = some (.string ⟨#[60]⟩) → w1.cell? ⟨w.heap.size, 1, none⟩ = some (.string ⟨#[60, 61]⟩) → w.heap.size < w1.heap.size →
      Calls Try.prog 7 #[.string ⟨#[97, 98, 32, 60, 61, 32, 55]⟩, .slice (some ⟨w.heap.size, 0, none⟩) 2 2] w1 fun e w' => ∃ v, e = .returned (.tuple #[v, .int .i64 0, .int .i64 0]) ∧ w'.ownsRow w1.heap.size 36 3 v 3 (tv aS [(1, 0, 2), (5, 3, 5), (2, 6, 7)]) ∧ Below w1.heap.size w1 w' := by
    intro w1 h0 h1 hlt
    have h := tokens_any aS (some ⟨w.heap.size, 0, none⟩) 2 aG w1 (by decide) (by decide) (by intro x hx; simp [aG] at hx; rcases hx with rfl | rfl <;> decide) (by decide) (fun _ => ⟨_, _, rfl, hlt, fun j hj => by
      have hj2 : j < 2 := hj
      match j, hj2 with
      | 0, _ => exact h0
      | 1, _ => exact h1⟩)
    rw [aV] at h
    exact h
  go_enter Try.func11, Try.ntmps11
  go_wp2_with (first
    | (go_at_call 7; refine (hT _ (by simp) (by simp) (by simp)).mono ?_; rintro e wq ⟨v, rfl, hown, hq⟩; obtain ⟨g, cap, rfl, hg, hcap, hcl⟩ := tok_cells (L := [(1, 0, 2), (5, 3, 5), (2, 6, 7)]) hown (by decide); have d0 : wq.cell? ⟨g, 0, none⟩ = some (.int .u8 1) := (hcl 0 _ rfl).1; have d1 : wq.cell? ⟨g, 1, none⟩ = some (.int .i64 0) := (hcl 0 _ rfl).2.1; have d2 : wq.cell? ⟨g, 2, none⟩ = some (.string ⟨#[97, 98]⟩) := ex0 ▸ (hcl 0 _ rfl).2.2; have d3 : wq.cell? ⟨g, 3, none⟩ = some (.int .u8 5) := (hcl 1 _ rfl).1; have d4 : wq.cell? ⟨g, 4, none⟩ = some (.int .i64 3) := (hcl 1 _ rfl).2.1; have d5 : wq.cell? ⟨g, 5, none⟩ = some (.string ⟨#[60, 61]⟩) := ex1 ▸ (hcl 1 _ rfl).2.2; have d6 : wq.cell? ⟨g, 6, none⟩ = some (.int .u8 2) := (hcl 2 _ rfl).1; have d7 : wq.cell? ⟨g, 7, none⟩ = some (.int .i64 6) := (hcl 2 _ rfl).2.1; have d8 : wq.cell? ⟨g, 8, none⟩ = some (.string ⟨#[55]⟩) := ex2 ▸ (hcl 2 _ rfl).2.2; clear hcl hown)
    | fail)
  go_ret
  exact ⟨rfl, ((Below.refl _ _).alloc (Nat.le_refl _) _).trans (hq.mono (by simp))⟩
end Go.Proofs.Ytldeodnlppjbcaa
