import Derived.Test.YtgfgdkeeonolcaaIEnc
namespace Go.Proofs.Ytgfgdkeeonolcaa
open Go.RowKit
set_option maxRecDepth 100000

theorem opWd_ne : ∀ k, k < 60 → 1 ≤ k → ¬ (opWd k).toList = [] := by decide +kernel
theorem Try.infoC : (Try.prog.info? 37).map (fun i => (i.zero, i.size, i.bytes)) = some (some (.agg #[.int .u8 0, .int .u32 0]), 2, 8) := by kernel_rfl
def fit1 (p : Nat × Nat) : Nat × Nat := (1 + p.1 % 59, if opMo (1 + p.1 % 59) < 4294967295 then p.2 % (opMo (1 + p.1 % 59) + 1) else p.2)
def fitL (L : List (Nat × Nat)) : List (Nat × Nat) := (L.take 16384).map fit1
theorem fit_take (L : List (Nat × Nat)) (k : Nat) (h : k < L.length) : (L.take (k + 1)).map fit1 = (L.take k).map fit1 ++ [fit1 (L.getD k (0, 0))] := by
  rw [ptake (0, 0) L k h, List.map_append]; rfl
theorem fit_ok (p : Nat × Nat) (h : p.2 < 4294967296) : okI (fit1 p) = true := by
  have hI : isOp (1 + p.1 % 59) = true := decide_eq_true (by omega)
  have hM := opMo_lt (1 + p.1 % 59)
  unfold okI fit1 erV
  simp only [hI]
  rw [if_neg (by simp), if_neg]
  · rfl
  · split
    · have := Nat.mod_lt p.2 (show opMo (1 + p.1 % 59) + 1 > 0 by omega); omega
    · omega
theorem fitL_ok (L : List (Nat × Nat)) (h : Wfc L) : allOk (fitL L) = true := by
  rw [allOk, List.all_eq_true]
  intro p hp
  obtain ⟨q, hq, rfl⟩ := List.mem_map.1 hp
  exact fit_ok q (h q (List.mem_of_mem_take hq)).2
theorem fitL_len (L : List (Nat × Nat)) : (fitL L).length ≤ 16384 := by simp [fitL]; omega
theorem fit_wf (p : Nat × Nat) (h : p.2 < 4294967296) : (fit1 p).1 < 256 ∧ (fit1 p).2 < 4294967296 := by
  refine ⟨by simp only [fit1]; omega, ?_⟩
  simp only [fit1]
  split
  · exact Nat.lt_of_le_of_lt (Nat.mod_le _ _) h
  · exact h
theorem fitL_wf (L : List (Nat × Nat)) (h : Wfc L) : Wfc (fitL L) := by
  intro p hp
  obtain ⟨q, hq, rfl⟩ := List.mem_map.1 hp
  exact fit_wf q (h q (List.mem_of_mem_take hq)).2
theorem own_snocC {w1 : World} {B : Nat} {v' : Value} {L M : List (Nat × Nat)} {n : Nat} {p : Nat × Nat} (hM : M = L ++ [p]) (hn : n = L.length)
    (h : w1.ownsRow B 37 2 v' (n + 1) (cv L ++ [.int .u8 p.1, .int .u32 p.2])) : w1.ownsRow B 37 2 v' M.length (cv M) := by
  subst hM hn
  rw [cv_append, List.length_append]
  exact h
theorem cellE {w W : World} {b i : Nat} {v : Value} (h : Below w.heap.size w W) (hb : b < w.heap.size) (hc : w.cell? ⟨b, i, none⟩ = some v) (o : Obj) : (W.alloc o).cell? ⟨b, i, none⟩ = some v := by
  have := h.size
  rw [World.cell?_alloc_old _ _ _ (by show b ≠ W.heap.size; omega)]
  exact (h.cell (p := ⟨b, i, none⟩) hb).trans hc
end Go.Proofs.Ytgfgdkeeonolcaa
