import Derived.Test.YtigiecodobgenaaSRnE
namespace Go.Proofs.Ytigiecodobgenaa
open Go.RowKit

abbrev oV (s : Int) (m : Bool) (n p : Int) : Obj := .cells #[.int .u8 s, .bool m, .int .u64 n, .int .i64 p] 56
theorem cin (w : World) (o : Obj) (p : Addr) (h : p.block < w.heap.size) : (w.alloc o).cell? p = w.cell? p := ((Below.refl w.heap.size w).alloc (Nat.le_refl _) o).cell h
theorem sz1 (w : World) (o : Obj) : (w.alloc o).heap.size = w.heap.size + 1 := by simp
theorem jF {w W : World} {sa : Int} {ma : Bool} {na pa : Int} {sb : Int} {mb : Bool} {nb pb : Int} (h : Below ((((w.alloc ob).alloc (oV sa ma na pa)).alloc (oV sb mb nb pb)).alloc oz).heap.size ((((w.alloc ob).alloc (oV sa ma na pa)).alloc (oV sb mb nb pb)).alloc oz) W) :
    W.cell? ⟨w.heap.size, 0, none⟩ = some (.int .i64 24) ∧ W.cell? ⟨w.heap.size, 1, none⟩ = some (.int .i64 (-149)) ∧ W.cell? ⟨w.heap.size, 2, none⟩ = some (.int .i64 104) ∧ W.cell? ⟨w.heap.size + 1, 0, none⟩ = some (.int .u8 sa) ∧ W.cell? ⟨w.heap.size + 1, 1, none⟩ = some (.bool ma) ∧ W.cell? ⟨w.heap.size + 1, 2, none⟩ = some (.int .u64 na) ∧ W.cell? ⟨w.heap.size + 1, 3, none⟩ = some (.int .i64 pa) ∧ W.cell? ⟨w.heap.size + 1 + 1, 0, none⟩ = some (.int .u8 sb) ∧ W.cell? ⟨w.heap.size + 1 + 1, 1, none⟩ = some (.bool mb) ∧ W.cell? ⟨w.heap.size + 1 + 1, 2, none⟩ = some (.int .u64 nb) ∧ W.cell? ⟨w.heap.size + 1 + 1, 3, none⟩ = some (.int .i64 pb) := by
  refine ⟨?_, ?_, ?_, ?_, ?_, ?_, ?_, ?_, ?_, ?_, ?_⟩
  · refine (h.cell (p := ⟨w.heap.size, 0, none⟩) (by simp only [sz1]; omega)).trans ?_
    rw [cin _ _ _ (by simp only [sz1]; omega), cin _ _ _ (by simp only [sz1]; omega), cin _ _ _ (by simp only [sz1]; omega)]
    exact World.cell?_alloc_new _ _ _ _
  · refine (h.cell (p := ⟨w.heap.size, 1, none⟩) (by simp only [sz1]; omega)).trans ?_
    rw [cin _ _ _ (by simp only [sz1]; omega), cin _ _ _ (by simp only [sz1]; omega), cin _ _ _ (by simp only [sz1]; omega)]
    exact World.cell?_alloc_new _ _ _ _
  · refine (h.cell (p := ⟨w.heap.size, 2, none⟩) (by simp only [sz1]; omega)).trans ?_
    rw [cin _ _ _ (by simp only [sz1]; omega), cin _ _ _ (by simp only [sz1]; omega), cin _ _ _ (by simp only [sz1]; omega)]
    exact World.cell?_alloc_new _ _ _ _
  · refine (h.cell (p := ⟨w.heap.size + 1, 0, none⟩) (by simp only [sz1]; omega)).trans ?_
    rw [cin _ _ _ (by simp only [sz1]; omega), cin _ _ _ (by simp only [sz1]; omega)]
    rw [show w.heap.size + 1 = (w.alloc ob).heap.size by simp only [sz1]]
    exact World.cell?_alloc_new _ _ _ _
  · refine (h.cell (p := ⟨w.heap.size + 1, 1, none⟩) (by simp only [sz1]; omega)).trans ?_
    rw [cin _ _ _ (by simp only [sz1]; omega), cin _ _ _ (by simp only [sz1]; omega)]
    rw [show w.heap.size + 1 = (w.alloc ob).heap.size by simp only [sz1]]
    exact World.cell?_alloc_new _ _ _ _
  · refine (h.cell (p := ⟨w.heap.size + 1, 2, none⟩) (by simp only [sz1]; omega)).trans ?_
    rw [cin _ _ _ (by simp only [sz1]; omega), cin _ _ _ (by simp only [sz1]; omega)]
    rw [show w.heap.size + 1 = (w.alloc ob).heap.size by simp only [sz1]]
    exact World.cell?_alloc_new _ _ _ _
  · refine (h.cell (p := ⟨w.heap.size + 1, 3, none⟩) (by simp only [sz1]; omega)).trans ?_
    rw [cin _ _ _ (by simp only [sz1]; omega), cin _ _ _ (by simp only [sz1]; omega)]
    rw [show w.heap.size + 1 = (w.alloc ob).heap.size by simp only [sz1]]
    exact World.cell?_alloc_new _ _ _ _
  · refine (h.cell (p := ⟨w.heap.size + 1 + 1, 0, none⟩) (by simp only [sz1]; omega)).trans ?_
    rw [cin _ _ _ (by simp only [sz1]; omega)]
    rw [show w.heap.size + 1 + 1 = ((w.alloc ob).alloc (oV sa ma na pa)).heap.size by simp only [sz1]]
    exact World.cell?_alloc_new _ _ _ _
  · refine (h.cell (p := ⟨w.heap.size + 1 + 1, 1, none⟩) (by simp only [sz1]; omega)).trans ?_
    rw [cin _ _ _ (by simp only [sz1]; omega)]
    rw [show w.heap.size + 1 + 1 = ((w.alloc ob).alloc (oV sa ma na pa)).heap.size by simp only [sz1]]
    exact World.cell?_alloc_new _ _ _ _
  · refine (h.cell (p := ⟨w.heap.size + 1 + 1, 2, none⟩) (by simp only [sz1]; omega)).trans ?_
    rw [cin _ _ _ (by simp only [sz1]; omega)]
    rw [show w.heap.size + 1 + 1 = ((w.alloc ob).alloc (oV sa ma na pa)).heap.size by simp only [sz1]]
    exact World.cell?_alloc_new _ _ _ _
  · refine (h.cell (p := ⟨w.heap.size + 1 + 1, 3, none⟩) (by simp only [sz1]; omega)).trans ?_
    rw [cin _ _ _ (by simp only [sz1]; omega)]
    rw [show w.heap.size + 1 + 1 = ((w.alloc ob).alloc (oV sa ma na pa)).heap.size by simp only [sz1]]
    exact World.cell?_alloc_new _ _ _ _
theorem jA {w W : World} {sa : Int} {ma : Bool} {na pa : Int} {sb : Int} {mb : Bool} {nb pb : Int} (h : Below ((((w.alloc ob).alloc (oV sa ma na pa)).alloc (oV sb mb nb pb)).alloc oz).heap.size ((((w.alloc ob).alloc (oV sa ma na pa)).alloc (oV sb mb nb pb)).alloc oz) W) :
    W.cell? ⟨w.heap.size + 1 + 1 + 1, 0, none⟩ = some (.int .u8 0) ∧ W.cell? ⟨w.heap.size + 1 + 1 + 1, 1, none⟩ = some (.bool false) ∧ W.cell? ⟨w.heap.size + 1 + 1 + 1, 2, none⟩ = some (.int .u64 0) ∧ W.cell? ⟨w.heap.size + 1 + 1 + 1, 3, none⟩ = some (.int .i64 0) ∧ W.frozen? ⟨w.heap.size + 1 + 1 + 1, 0, none⟩ = false ∧ W.frozen? ⟨w.heap.size + 1 + 1 + 1, 1, none⟩ = false ∧ W.frozen? ⟨w.heap.size + 1 + 1 + 1, 2, none⟩ = false ∧ W.frozen? ⟨w.heap.size + 1 + 1 + 1, 3, none⟩ = false := by
  refine ⟨?_, ?_, ?_, ?_, ?_, ?_, ?_, ?_⟩
  · refine (h.cell (p := ⟨w.heap.size + 1 + 1 + 1, 0, none⟩) (by simp only [sz1]; omega)).trans ?_
    rw [show w.heap.size + 1 + 1 + 1 = (((w.alloc ob).alloc (oV sa ma na pa)).alloc (oV sb mb nb pb)).heap.size by simp only [sz1]]
    exact World.cell?_alloc_new _ _ _ _
  · refine (h.cell (p := ⟨w.heap.size + 1 + 1 + 1, 1, none⟩) (by simp only [sz1]; omega)).trans ?_
    rw [show w.heap.size + 1 + 1 + 1 = (((w.alloc ob).alloc (oV sa ma na pa)).alloc (oV sb mb nb pb)).heap.size by simp only [sz1]]
    exact World.cell?_alloc_new _ _ _ _
  · refine (h.cell (p := ⟨w.heap.size + 1 + 1 + 1, 2, none⟩) (by simp only [sz1]; omega)).trans ?_
    rw [show w.heap.size + 1 + 1 + 1 = (((w.alloc ob).alloc (oV sa ma na pa)).alloc (oV sb mb nb pb)).heap.size by simp only [sz1]]
    exact World.cell?_alloc_new _ _ _ _
  · refine (h.cell (p := ⟨w.heap.size + 1 + 1 + 1, 3, none⟩) (by simp only [sz1]; omega)).trans ?_
    rw [show w.heap.size + 1 + 1 + 1 = (((w.alloc ob).alloc (oV sa ma na pa)).alloc (oV sb mb nb pb)).heap.size by simp only [sz1]]
    exact World.cell?_alloc_new _ _ _ _
  · refine (h.frozen (p := ⟨w.heap.size + 1 + 1 + 1, 0, none⟩) (by simp only [sz1]; omega)).trans ?_
    rw [show w.heap.size + 1 + 1 + 1 = (((w.alloc ob).alloc (oV sa ma na pa)).alloc (oV sb mb nb pb)).heap.size by simp only [sz1]]
    exact World.frozen?_alloc_new _ _ _ _
  · refine (h.frozen (p := ⟨w.heap.size + 1 + 1 + 1, 1, none⟩) (by simp only [sz1]; omega)).trans ?_
    rw [show w.heap.size + 1 + 1 + 1 = (((w.alloc ob).alloc (oV sa ma na pa)).alloc (oV sb mb nb pb)).heap.size by simp only [sz1]]
    exact World.frozen?_alloc_new _ _ _ _
  · refine (h.frozen (p := ⟨w.heap.size + 1 + 1 + 1, 2, none⟩) (by simp only [sz1]; omega)).trans ?_
    rw [show w.heap.size + 1 + 1 + 1 = (((w.alloc ob).alloc (oV sa ma na pa)).alloc (oV sb mb nb pb)).heap.size by simp only [sz1]]
    exact World.frozen?_alloc_new _ _ _ _
  · refine (h.frozen (p := ⟨w.heap.size + 1 + 1 + 1, 3, none⟩) (by simp only [sz1]; omega)).trans ?_
    rw [show w.heap.size + 1 + 1 + 1 = (((w.alloc ob).alloc (oV sa ma na pa)).alloc (oV sb mb nb pb)).heap.size by simp only [sz1]]
    exact World.frozen?_alloc_new _ _ _ _
theorem jS {w W : World} {sa : Int} {ma : Bool} {na pa : Int} {sb : Int} {mb : Bool} {nb pb : Int} {a b c d : Value} (h : Below ((((w.alloc ob).alloc (oV sa ma na pa)).alloc (oV sb mb nb pb)).alloc oz).heap.size ((((w.alloc ob).alloc (oV sa ma na pa)).alloc (oV sb mb nb pb)).alloc oz) W) :
    ((((W.setCell ⟨w.heap.size + 1 + 1 + 1, 0, none⟩ a).setCell ⟨w.heap.size + 1 + 1 + 1, 1, none⟩ b).setCell ⟨w.heap.size + 1 + 1 + 1, 2, none⟩ c).setCell ⟨w.heap.size + 1 + 1 + 1, 3, none⟩ d).cell? ⟨w.heap.size, 0, none⟩ = some (.int .i64 24) ∧ ((((W.setCell ⟨w.heap.size + 1 + 1 + 1, 0, none⟩ a).setCell ⟨w.heap.size + 1 + 1 + 1, 1, none⟩ b).setCell ⟨w.heap.size + 1 + 1 + 1, 2, none⟩ c).setCell ⟨w.heap.size + 1 + 1 + 1, 3, none⟩ d).cell? ⟨w.heap.size, 1, none⟩ = some (.int .i64 (-149)) ∧ ((((W.setCell ⟨w.heap.size + 1 + 1 + 1, 0, none⟩ a).setCell ⟨w.heap.size + 1 + 1 + 1, 1, none⟩ b).setCell ⟨w.heap.size + 1 + 1 + 1, 2, none⟩ c).setCell ⟨w.heap.size + 1 + 1 + 1, 3, none⟩ d).cell? ⟨w.heap.size, 2, none⟩ = some (.int .i64 104) ∧ ((((W.setCell ⟨w.heap.size + 1 + 1 + 1, 0, none⟩ a).setCell ⟨w.heap.size + 1 + 1 + 1, 1, none⟩ b).setCell ⟨w.heap.size + 1 + 1 + 1, 2, none⟩ c).setCell ⟨w.heap.size + 1 + 1 + 1, 3, none⟩ d).cell? ⟨w.heap.size + 1, 0, none⟩ = some (.int .u8 sa) ∧ ((((W.setCell ⟨w.heap.size + 1 + 1 + 1, 0, none⟩ a).setCell ⟨w.heap.size + 1 + 1 + 1, 1, none⟩ b).setCell ⟨w.heap.size + 1 + 1 + 1, 2, none⟩ c).setCell ⟨w.heap.size + 1 + 1 + 1, 3, none⟩ d).cell? ⟨w.heap.size + 1, 1, none⟩ = some (.bool ma) ∧ ((((W.setCell ⟨w.heap.size + 1 + 1 + 1, 0, none⟩ a).setCell ⟨w.heap.size + 1 + 1 + 1, 1, none⟩ b).setCell ⟨w.heap.size + 1 + 1 + 1, 2, none⟩ c).setCell ⟨w.heap.size + 1 + 1 + 1, 3, none⟩ d).cell? ⟨w.heap.size + 1, 2, none⟩ = some (.int .u64 na) ∧ ((((W.setCell ⟨w.heap.size + 1 + 1 + 1, 0, none⟩ a).setCell ⟨w.heap.size + 1 + 1 + 1, 1, none⟩ b).setCell ⟨w.heap.size + 1 + 1 + 1, 2, none⟩ c).setCell ⟨w.heap.size + 1 + 1 + 1, 3, none⟩ d).cell? ⟨w.heap.size + 1, 3, none⟩ = some (.int .i64 pa) ∧ ((((W.setCell ⟨w.heap.size + 1 + 1 + 1, 0, none⟩ a).setCell ⟨w.heap.size + 1 + 1 + 1, 1, none⟩ b).setCell ⟨w.heap.size + 1 + 1 + 1, 2, none⟩ c).setCell ⟨w.heap.size + 1 + 1 + 1, 3, none⟩ d).cell? ⟨w.heap.size + 1 + 1, 0, none⟩ = some (.int .u8 sb) ∧ ((((W.setCell ⟨w.heap.size + 1 + 1 + 1, 0, none⟩ a).setCell ⟨w.heap.size + 1 + 1 + 1, 1, none⟩ b).setCell ⟨w.heap.size + 1 + 1 + 1, 2, none⟩ c).setCell ⟨w.heap.size + 1 + 1 + 1, 3, none⟩ d).cell? ⟨w.heap.size + 1 + 1, 1, none⟩ = some (.bool mb) ∧ ((((W.setCell ⟨w.heap.size + 1 + 1 + 1, 0, none⟩ a).setCell ⟨w.heap.size + 1 + 1 + 1, 1, none⟩ b).setCell ⟨w.heap.size + 1 + 1 + 1, 2, none⟩ c).setCell ⟨w.heap.size + 1 + 1 + 1, 3, none⟩ d).cell? ⟨w.heap.size + 1 + 1, 2, none⟩ = some (.int .u64 nb) ∧ ((((W.setCell ⟨w.heap.size + 1 + 1 + 1, 0, none⟩ a).setCell ⟨w.heap.size + 1 + 1 + 1, 1, none⟩ b).setCell ⟨w.heap.size + 1 + 1 + 1, 2, none⟩ c).setCell ⟨w.heap.size + 1 + 1 + 1, 3, none⟩ d).cell? ⟨w.heap.size + 1 + 1, 3, none⟩ = some (.int .i64 pb) := by
  have h0 := jF h
  refine ⟨?_, ?_, ?_, ?_, ?_, ?_, ?_, ?_, ?_, ?_, ?_⟩
  all_goals rw [World.cell?_setCell_other _ _ _ _ (by simp <;> omega), World.cell?_setCell_other _ _ _ _ (by simp <;> omega), World.cell?_setCell_other _ _ _ _ (by simp <;> omega), World.cell?_setCell_other _ _ _ _ (by simp <;> omega)]
  · exact h0.1
  · exact h0.2.1
  · exact h0.2.2.1
  · exact h0.2.2.2.1
  · exact h0.2.2.2.2.1
  · exact h0.2.2.2.2.2.1
  · exact h0.2.2.2.2.2.2.1
  · exact h0.2.2.2.2.2.2.2.1
  · exact h0.2.2.2.2.2.2.2.2.1
  · exact h0.2.2.2.2.2.2.2.2.2.1
  · exact h0.2.2.2.2.2.2.2.2.2.2
theorem jB {w W : World} {sa : Int} {ma : Bool} {na pa : Int} {sb : Int} {mb : Bool} {nb pb : Int} {a b c d : Value} (h : Below ((((w.alloc ob).alloc (oV sa ma na pa)).alloc (oV sb mb nb pb)).alloc oz).heap.size ((((w.alloc ob).alloc (oV sa ma na pa)).alloc (oV sb mb nb pb)).alloc oz) W) :
    Below w.heap.size w ((((W.setCell ⟨w.heap.size + 1 + 1 + 1, 0, none⟩ a).setCell ⟨w.heap.size + 1 + 1 + 1, 1, none⟩ b).setCell ⟨w.heap.size + 1 + 1 + 1, 2, none⟩ c).setCell ⟨w.heap.size + 1 + 1 + 1, 3, none⟩ d) := by
  have h1 : Below w.heap.size w W := (bel (bel (bel (bel (Below.refl _ _))))).trans (h.mono (by simp; omega))
  exact (((h1.setCell (p := ⟨w.heap.size + 1 + 1 + 1, 0, none⟩) (by simp; omega) a).setCell (p := ⟨w.heap.size + 1 + 1 + 1, 1, none⟩) (by simp; omega) b).setCell (p := ⟨w.heap.size + 1 + 1 + 1, 2, none⟩) (by simp; omega) c).setCell (p := ⟨w.heap.size + 1 + 1 + 1, 3, none⟩) (by simp; omega) d
theorem len_pow {zs : List Nat} (hN : Norm zs) {x : Nat} (h : nv zs = x) (k : Nat) (hx : x < 2 ^ (32 * k)) : zs.length ≤ k := norm_len hN k (by rw [h, show (4294967296 : Nat) = 2 ^ 32 from rfl, ← Nat.pow_mul]; exact hx)
theorem up_pow (n X k : Nat) (hn : n < 16777216) (hX : X + 24 ≤ 32 * k) : n * 2 ^ X < 2 ^ (32 * k) := by
  have h1 : n * 2 ^ X < 2 ^ 24 * 2 ^ X := Nat.mul_lt_mul_of_pos_right hn (Nat.two_pow_pos _)
  rw [← Nat.pow_add] at h1
  exact Nat.lt_of_lt_of_le h1 (Nat.pow_le_pow_right (by decide) (by omega))
theorem sum_pow {x y k : Nat} (hx : x < 2 ^ (32 * k)) (hy : y < 2 ^ (32 * k)) : x + y < 2 ^ (32 * (k + 1)) := by
  have h : 2 * 2 ^ (32 * k) ≤ 2 ^ (32 * (k + 1)) := by
    rw [← Nat.pow_succ']; exact Nat.pow_le_pow_right (by decide) (by omega)
  generalize 2 ^ (32 * k) = a at *
  omega
end Go.Proofs.Ytigiecodobgenaa
