import Derived.Test.YtdkmbbnidhkdcaaSSmE
namespace Go.Proofs.Ytdkmbbnidhkdcaa
open Go.RowKit

theorem nv_nil (w : World) : NatV w (.slice none 0 0) 0 := ⟨none, 0, [], rfl, Nat.le_refl _, fun _ => rfl, rfl, Or.inl rfl, (fun z hz => by simp at hz), fun h => by simp at h⟩
theorem NatV.on {w W : World} {v : Value} {x : Nat} (h : NatV w v x) (hb : Below w.heap.size w W) : NatV W v x := h.below hb
theorem NatV.step {w W w' : World} {v : Value} {x : Nat} (h : NatV w v x) (h1 : Below w.heap.size w W) (hb : Below W.heap.size W w') : NatV w' v x := h.below (bt2 hb h1)
theorem up_nv (v : Value) (x n : Nat) (w : World) (h : NatV w v x) (hx : x < 18446744073709551616) (hn : n ≤ 10000) :
    Calls Try.prog 33 #[v, .int .i64 n] w fun e w' => (∃ v', e = .returned v' ∧ NatV w' v' (x * 2 ^ n)) ∧ Below w.heap.size w w' := by
  obtain ⟨ao, cap, zs, rfl, hc, hn', hval, hN, hW, hr⟩ := h
  have := up_any ao cap zs n w (by have := small_len hN hval hx; omega) hn hr hW
  rw [hval] at this
  exact this
theorem against_nv (v u : Value) (x y k : Nat) (w : World) (h : NatV w v x) (h' : NatV w u y) (hx : x < 2 ^ (32 * k)) (hy : y < 2 ^ (32 * k)) (hk : k ≤ 1000) :
    Calls Try.prog 37 #[v, u] w fun e w' => e = .returned (.int .i64 (ag x y)) ∧ ∃ m, w' = w.drewN m := by
  obtain ⟨ao, cap, zs, rfl, hc, hn', hval, hN, hW, hr⟩ := h
  obtain ⟨ao2, cap2, zs2, rfl, hc2, hn2, hval2, hN2, hW2, hr2⟩ := h'
  have := against_any ao ao2 cap cap2 zs zs2 w (by have := len_pow hN hval k hx; omega) (by have := len_pow hN2 hval2 k hy; omega) hr hr2 hW hW2 hN hN2
  rw [hval, hval2] at this
  exact this
theorem gF {w W : World} {sa : Int} {ma : Bool} {na pa : Int} {sb : Int} {mb : Bool} {nb pb : Int} (h : Below ((w.alloc (oV sa ma na pa)).alloc (oV sb mb nb pb)).heap.size ((w.alloc (oV sa ma na pa)).alloc (oV sb mb nb pb)) W) :
    W.cell? ⟨w.heap.size, 0, none⟩ = some (.int .u8 sa) ∧ W.cell? ⟨w.heap.size, 1, none⟩ = some (.bool ma) ∧ W.cell? ⟨w.heap.size, 2, none⟩ = some (.int .u64 na) ∧ W.cell? ⟨w.heap.size, 3, none⟩ = some (.int .i64 pa) ∧ W.cell? ⟨w.heap.size + 1, 0, none⟩ = some (.int .u8 sb) ∧ W.cell? ⟨w.heap.size + 1, 1, none⟩ = some (.bool mb) ∧ W.cell? ⟨w.heap.size + 1, 2, none⟩ = some (.int .u64 nb) ∧ W.cell? ⟨w.heap.size + 1, 3, none⟩ = some (.int .i64 pb) := by
  refine ⟨?_, ?_, ?_, ?_, ?_, ?_, ?_, ?_⟩
  · refine (h.cell (p := ⟨w.heap.size, 0, none⟩) (by simp only [sz1]; omega)).trans ?_
    rw [cin _ _ _ (by simp only [sz1]; omega)]
    exact World.cell?_alloc_new _ _ _ _
  · refine (h.cell (p := ⟨w.heap.size, 1, none⟩) (by simp only [sz1]; omega)).trans ?_
    rw [cin _ _ _ (by simp only [sz1]; omega)]
    exact World.cell?_alloc_new _ _ _ _
  · refine (h.cell (p := ⟨w.heap.size, 2, none⟩) (by simp only [sz1]; omega)).trans ?_
    rw [cin _ _ _ (by simp only [sz1]; omega)]
    exact World.cell?_alloc_new _ _ _ _
  · refine (h.cell (p := ⟨w.heap.size, 3, none⟩) (by simp only [sz1]; omega)).trans ?_
    rw [cin _ _ _ (by simp only [sz1]; omega)]
    exact World.cell?_alloc_new _ _ _ _
  · refine (h.cell (p := ⟨w.heap.size + 1, 0, none⟩) (by simp only [sz1]; omega)).trans ?_
    rw [show w.heap.size + 1 = (w.alloc (oV sa ma na pa)).heap.size by simp only [sz1]]
    exact World.cell?_alloc_new _ _ _ _
  · refine (h.cell (p := ⟨w.heap.size + 1, 1, none⟩) (by simp only [sz1]; omega)).trans ?_
    rw [show w.heap.size + 1 = (w.alloc (oV sa ma na pa)).heap.size by simp only [sz1]]
    exact World.cell?_alloc_new _ _ _ _
  · refine (h.cell (p := ⟨w.heap.size + 1, 2, none⟩) (by simp only [sz1]; omega)).trans ?_
    rw [show w.heap.size + 1 = (w.alloc (oV sa ma na pa)).heap.size by simp only [sz1]]
    exact World.cell?_alloc_new _ _ _ _
  · refine (h.cell (p := ⟨w.heap.size + 1, 3, none⟩) (by simp only [sz1]; omega)).trans ?_
    rw [show w.heap.size + 1 = (w.alloc (oV sa ma na pa)).heap.size by simp only [sz1]]
    exact World.cell?_alloc_new _ _ _ _
end Go.Proofs.Ytdkmbbnidhkdcaa
