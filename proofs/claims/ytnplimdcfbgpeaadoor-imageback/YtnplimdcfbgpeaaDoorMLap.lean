import Derived.Test.YtnplimdcfbgpeaaDoorMSp
namespace Go.Proofs.YtnplimdcfbgpeaaDoor
open Go.RowKit Go.WideShapes Go.Sort
set_option maxRecDepth 100000

set_option maxHeartbeats 1000000 in
theorem del_any (a b : Nat) (w : World) (hb : b < 4294967296) :
    Calls Tryd.prog 68 #[.agg #[.int .u32 a, .int .u32 b]] w fun e w' => e = .returned (.bool (decide (b = 0))) ∧ ∃ q os', w' = grow (w.drewN q) os' := by
  by_cases h : b = 0
  · subst h
    go_enter Tryd.func68, Tryd.ntmps68
    go_wp2
    go_ret
    exact ⟨rfl, 0, _, by rw [alloc_eq_grow]; rfl⟩
  · have hI : ((b : Int) == 0) = false := by simp; omega
    go_enter Tryd.func68, Tryd.ntmps68
    go_wp2
    go_ret
    exact ⟨by simp [h], 0, _, by rw [alloc_eq_grow]; rfl⟩
def cmpI (a b : Nat) : Int := if a < b then -1 else if b < a then 1 else 0
set_option maxHeartbeats 1000000 in
theorem cmp_any (a b : Nat) (w : World) :
    Calls Tryd.prog 71 #[.int .u32 a, .int .u32 b] w fun e w' => e = .returned (.int .i64 (cmpI a b)) ∧ w' = w := by
  unfold cmpI
  by_cases h1 : a < b
  · rw [if_pos h1]
    have hI : (a : Int) < (b : Int) := by omega
    go_enter Tryd.func71, Tryd.ntmps71
    go_wp2
    go_ret
    exact ⟨rfl, rfl⟩
  · rw [if_neg h1]
    have hI : ¬ (a : Int) < (b : Int) := by omega
    by_cases h2 : b < a
    · rw [if_pos h2]
      have hI2 : (b : Int) < (a : Int) := by omega
      go_enter Tryd.func71, Tryd.ntmps71
      go_wp2
      go_ret
      exact ⟨rfl, rfl⟩
    · rw [if_neg h2]
      have hI2 : ¬ (b : Int) < (a : Int) := by omega
      go_enter Tryd.func71, Tryd.ntmps71
      go_wp2
      go_ret
      exact ⟨rfl, rfl⟩
set_option maxHeartbeats 1000000 in
theorem by_any (a b : Nat × Nat) (w : World) :
    Calls Tryd.prog 70 #[.agg #[.int .u32 a.1, .int .u32 a.2], .agg #[.int .u32 b.1, .int .u32 b.2]] w fun e w' => e = .returned (.int .i64 (cmpI a.1 b.1)) ∧ ∃ q os', w' = grow (w.drewN q) os' := by
  have hC := cmp_any a.1 b.1
  generalize cmpI a.1 b.1 = c at hC ⊢
  generalize a.1 = a1 at *
  generalize a.2 = a2 at *
  generalize b.1 = b1 at *
  generalize b.2 = b2 at *
  go_enter Tryd.func70, Tryd.ntmps70
  go_wp2_with (go_at_call 71; with_reducible refine (hC _).mono ?_; rintro e wq ⟨rfl, hq⟩; subst wq)
  go_ret
  exact ⟨rfl, 0, _, by rw [alloc_eq_grow, alloc_eq_grow, grow_grow]; rfl⟩
theorem lapW {w W0 : World} {a1 a2 b1 b2 : Int} (h : (w.alloc (.cells #[.int .u32 a1, .int .u32 a2] 47)).alloc (.cells #[.int .u32 b1, .int .u32 b2] 47) = W0) :
    (∀ n os, (grow (W0.drewN n) os).cell? ⟨w.heap.size, 0, none⟩ = some (.int .u32 a1)) ∧ (∀ n os, (grow (W0.drewN n) os).cell? ⟨w.heap.size, 1, none⟩ = some (.int .u32 a2)) ∧ (∀ n os, (grow (W0.drewN n) os).cell? ⟨w.heap.size + 1, 0, none⟩ = some (.int .u32 b1)) ∧ (∀ n os, (grow (W0.drewN n) os).cell? ⟨w.heap.size + 1, 1, none⟩ = some (.int .u32 b2)) ∧
    ∀ n os, ∃ q os', grow (W0.drewN n) os = grow (w.drewN q) os' := by
  have hs : W0.heap.size = w.heap.size + 1 + 1 := by rw [← h]; simp
  have h1 : W0.heap[w.heap.size]? = some (.cells #[.int .u32 a1, .int .u32 a2] 47) := by
    rw [← h, Below.heap_alloc _ _ _ (by simp)]; exact heap_alloc_last w _
  have h2 : W0.heap[w.heap.size + 1]? = some (.cells #[.int .u32 b1, .int .u32 b2] 47) := by
    rw [← h]
    have := heap_alloc_last (w.alloc (.cells #[.int .u32 a1, .int .u32 a2] 47)) (.cells #[.int .u32 b1, .int .u32 b2] 47)
    rwa [show (w.alloc (.cells #[.int .u32 a1, .int .u32 a2] 47)).heap.size = w.heap.size + 1 by simp] at this
  have hc : ∀ (b i : Nat) (v : Value), b < W0.heap.size → W0.cell? ⟨b, i, none⟩ = some v → ∀ n os, (grow (W0.drewN n) os).cell? ⟨b, i, none⟩ = some v := fun b i v hb hv n os => cell_grown (a := ⟨b, i, none⟩) hb hv n os
  refine ⟨hc _ _ _ (by omega) ?_, hc _ _ _ (by omega) ?_, hc _ _ _ (by omega) ?_, hc _ _ _ (by omega) ?_, fun n os => ?_⟩
  · unfold World.cell?; simp only [h1]; rfl
  · unfold World.cell?; simp only [h1]; rfl
  · unfold World.cell?; simp only [h2]; rfl
  · unfold World.cell?; simp only [h2]; rfl
  · rw [← h, alloc_eq_grow, alloc_eq_grow, grow_grow]
    exact ⟨n, _, by show grow (grow (w.drewN n) _) os = _; rw [grow_grow]⟩
theorem lapB_int (a b : Nat × Nat) : lapB a b = (decide ((0 : Int) < (a.2 : Int)) && decide ((0 : Int) < (b.2 : Int)) && decide ((a.1 : Int) < (b.1 : Int) + (b.2 : Int)) && decide ((b.1 : Int) < (a.1 : Int) + (a.2 : Int))) := by
  unfold lapB
  congr 1
  · congr 1
    · congr 1 <;> (rw [decide_eq_decide]; omega)
    · rw [decide_eq_decide]; omega
  · rw [decide_eq_decide]; omega
set_option maxHeartbeats 2000000 in
theorem lap_any (a b : Nat × Nat) (w : World) (ha : a.1 < 4294967296 ∧ a.2 < 4294967296) (hb : b.1 < 4294967296 ∧ b.2 < 4294967296) :
    Calls Tryd.prog 56 #[.agg #[.int .u32 a.1, .int .u32 a.2], .agg #[.int .u32 b.1, .int .u32 b.2]] w fun e w' => e = .returned (.bool (lapB a b)) ∧ ∃ q os', w' = grow (w.drewN q) os' := by
  have hA := fun W => end_any a.1 a.2 W ha.1 ha.2
  have hB := fun W => end_any b.1 b.2 W hb.1 hb.2
  rw [lapB_int]
  have k1 : (0 : Int) ≤ (a.1 : Int) ∧ (a.1 : Int) < 4294967296 := by omega
  have k2 : (0 : Int) ≤ (a.2 : Int) ∧ (a.2 : Int) < 4294967296 := by omega
  have k3 : (0 : Int) ≤ (b.1 : Int) ∧ (b.1 : Int) < 4294967296 := by omega
  have k4 : (0 : Int) ≤ (b.2 : Int) ∧ (b.2 : Int) < 4294967296 := by omega
  clear ha hb
  generalize (a.1 : Int) = a1 at *
  generalize (a.2 : Int) = a2 at *
  generalize (b.1 : Int) = b1 at *
  generalize (b.2 : Int) = b2 at *
  obtain ⟨k1, k1'⟩ := k1
  obtain ⟨k2, k2'⟩ := k2
  obtain ⟨k3, k3'⟩ := k3
  obtain ⟨k4, k4'⟩ := k4
  have mixed : Tryd.prog.follows .mixedOrders = true := by kernel_rfl
  have q1 : IntKind.u64.wrap a1 = a1 := by rw [IntKind.wrap_u64]; omega
  have q2 : IntKind.u64.wrap b1 = b1 := by rw [IntKind.wrap_u64]; omega
  by_cases h1 : 0 < a2
  · by_cases h2 : 0 < b2
    · by_cases h3 : a1 < b1 + b2
      · have e : (decide (0 < a2) && decide (0 < b2) && decide (a1 < b1 + b2) && decide (b1 < a1 + a2)) = decide (b1 < a1 + a2) := by simp [h1, h2, h3]
        rw [e]
        clear e
        go_enter Tryd.func56, Tryd.ntmps56
        go_wp2_with fail
        obtain ⟨W0, hW0⟩ : ∃ W0, (w.alloc (.cells #[.int .u32 a1, .int .u32 a2] 47)).alloc (.cells #[.int .u32 b1, .int .u32 b2] 47) = W0 := ⟨_, rfl⟩
        rw [hW0]
        obtain ⟨c0, c1, c2, c3, hfin⟩ := lapW hW0
        have HF := hidS hfin
        clear hW0 hfin
        go_quiet_grown (first | (with_reducible refine Calls.grown_of (hA _)) | (with_reducible refine Calls.grown_of (hB _)))
        go_wp2_with fail
        go_ret
        exact ⟨rfl, HF.out _ _⟩
      · have e : (decide (0 < a2) && decide (0 < b2) && decide (a1 < b1 + b2) && decide (b1 < a1 + a2)) = false := by simp [h3]
        rw [e]
        clear e
        have d3 : decide (a1 < b1 + b2) = false := by simp [h3]
        go_enter Tryd.func56, Tryd.ntmps56
        go_wp2_with fail
        obtain ⟨W0, hW0⟩ : ∃ W0, (w.alloc (.cells #[.int .u32 a1, .int .u32 a2] 47)).alloc (.cells #[.int .u32 b1, .int .u32 b2] 47) = W0 := ⟨_, rfl⟩
        rw [hW0]
        obtain ⟨c0, c1, c2, c3, hfin⟩ := lapW hW0
        have HF := hidS hfin
        clear hW0 hfin
        go_quiet_grown (first | (with_reducible refine Calls.grown_of (hA _)) | (with_reducible refine Calls.grown_of (hB _)))
        go_wp2_with fail
        go_ret
        exact ⟨rfl, HF.out _ _⟩
    · have e : (decide (0 < a2) && decide (0 < b2) && decide (a1 < b1 + b2) && decide (b1 < a1 + a2)) = false := by simp [h2]
      rw [e]
      clear e
      have d3 : decide (0 < b2) = false := by simp [h2]
      go_enter Tryd.func56, Tryd.ntmps56
      go_wp2_with fail
      obtain ⟨W0, hW0⟩ : ∃ W0, (w.alloc (.cells #[.int .u32 a1, .int .u32 a2] 47)).alloc (.cells #[.int .u32 b1, .int .u32 b2] 47) = W0 := ⟨_, rfl⟩
      rw [hW0]
      obtain ⟨c0, c1, c2, c3, hfin⟩ := lapW hW0
      have HF := hidS hfin
      clear hW0 hfin
      go_quiet_grown (first | (with_reducible refine Calls.grown_of (hA _)) | (with_reducible refine Calls.grown_of (hB _)))
      go_wp2_with fail
      go_ret
      exact ⟨rfl, HF.out _ _⟩
  · have e : (decide (0 < a2) && decide (0 < b2) && decide (a1 < b1 + b2) && decide (b1 < a1 + a2)) = false := by simp [h1]
    rw [e]
    clear e
    have d3 : decide (0 < a2) = false := by simp [h1]
    go_enter Tryd.func56, Tryd.ntmps56
    go_wp2_with fail
    obtain ⟨W0, hW0⟩ : ∃ W0, (w.alloc (.cells #[.int .u32 a1, .int .u32 a2] 47)).alloc (.cells #[.int .u32 b1, .int .u32 b2] 47) = W0 := ⟨_, rfl⟩
    rw [hW0]
    obtain ⟨c0, c1, c2, c3, hfin⟩ := lapW hW0
    have HF := hidS hfin
    clear hW0 hfin
    go_quiet_grown (first | (with_reducible refine Calls.grown_of (hA _)) | (with_reducible refine Calls.grown_of (hB _)))
    go_wp2_with fail
    go_ret
    exact ⟨rfl, HF.out _ _⟩
end Go.Proofs.YtnplimdcfbgpeaaDoor
