import Derived.Test.YtcmfephbhbgoiaaDoorEMem
namespace Go.Proofs.YtcmfephbhbgoiaaDoor
open Go.RowKit Go.WideShapes
set_option maxRecDepth 100000

theorem infoTc : (Tryd.prog.info? 106).map (·.size) = some 2 := by kernel_rfl
theorem undTc : ∃ fs, Tryd.prog.underlying 106 = some (.struct fs) := by
  have h : (match Tryd.prog.underlying 106 with | some (.struct _) => true | _ => false) = true := by kernel_rfl
  split at h
  · exact ⟨_, by assumption⟩
  · cases h
theorem touchRes_R (W : World) (b : Nat) (cs : Array Value) (h4 : cs.size = 2) (hb : W.heap[b]? = some (.cells cs 106)) (tmps : Array Value) (h2 : tmps.getD 4 undef = .pointer (some ⟨b, 0, none⟩)) :
    (results Tryd.f64 tmps).run Tryd.prog W = .ok (.agg cs) W := by
  obtain ⟨fs, hu⟩ := undTc
  exact results_cell_row (p := 4) (ty := 106) (by kernel_rfl) tmps W b 106 cs (0, 0) _ h2 hb hu rfl (by rw [infoTc, h4])
theorem touchRes_W (W : World) (b : Nat) (cs : Array Value) (h4 : cs.size = 2) (hb : W.heap[b]? = some (.cells cs 106)) (tmps : Array Value) (h2 : tmps.getD 4 undef = .pointer (some ⟨b, 0, none⟩)) :
    (results Tryd.f60 tmps).run Tryd.prog W = .ok (.agg cs) W := by
  obtain ⟨fs, hu⟩ := undTc
  exact results_cell_row (p := 4) (ty := 106) (by kernel_rfl) tmps W b 106 cs (0, 0) _ h2 hb hu rfl (by rw [infoTc, h4])
theorem touchR_any (a g cap n bm ba x i : Nat) (w : World) (hm : w.cell? ⟨bm, 0, none⟩ = some (.pointer (some ⟨a, 0, none⟩))) (ha : w.cell? ⟨ba, 0, none⟩ = some (.int .u32 x))
    (hc : w.cell? ⟨a, 1, none⟩ = some (.slice (some ⟨g, 0, none⟩) n cap)) (_hx : x < 4294967296) (hi : i ≤ 65536) (hp : Pw n) :
    Calls Tryd.prog 64 #[.int .i64 i, .pointer (some ⟨bm, 0, none⟩), .pointer (some ⟨ba, 0, none⟩)] w fun e w' => e = .returned (.agg #[.int .u32 ((x + i) % n : Nat), .bool false]) ∧ Below w.heap.size w w' := by
  have hP := fun W h => place_any a g cap n ((x + i) % 4294967296) W (Nat.mod_lt _ (by decide)) hp h
  rw [hp.mod] at hP
  have lt : ∀ {b i : Nat} {v : Value}, w.cell? ⟨b, i, none⟩ = some v → ∀ o, (w.alloc o).cell? ⟨b, i, none⟩ = some v := fun {b i v} h o => by
    rw [World.cell?_of_block (w := w) (a := ⟨b, i, none⟩) (Below.heap_alloc _ _ _ (World.block_lt_of_cell? w _ h))]; exact h
  have hmA := lt hm
  have haA := lt ha
  have hcA := lt hc
  clear hm ha hc
  have hPA := hP (w.alloc (.cells #[.int .u32 0, .bool false] 106)) (hcA _)
  rw [show ((((x + i) % 4294967296 : Nat)) : Int) = ((x : Int) + (i : Int)) % 4294967296 by omega] at hPA
  go_enter Tryd.func64, Tryd.ntmps64
  go_wp2_with (first
    | (go_at_call 61; with_reducible refine hPA.mono ?_; rintro e wq ⟨rfl, hq⟩; subst wq)
    | fail)
  refine bodyPost_ret (touchRes_R _ w.heap.size _ rfl (heap_alloc_new w _) _ rfl) rfl ?_
  exact ⟨by congr, (Below.refl _ _).alloc (Nat.le_refl _) _⟩
theorem touchW_any (a g cap n bm ba x i : Nat) (w : World) (hm : w.cell? ⟨bm, 0, none⟩ = some (.pointer (some ⟨a, 0, none⟩))) (ha : w.cell? ⟨ba, 0, none⟩ = some (.int .u32 x))
    (hc : w.cell? ⟨a, 1, none⟩ = some (.slice (some ⟨g, 0, none⟩) n cap)) (_hx : x < 4294967296) (hi : i ≤ 65536) (hp : Pw n) :
    Calls Tryd.prog 60 #[.int .i64 i, .pointer (some ⟨bm, 0, none⟩), .pointer (some ⟨ba, 0, none⟩)] w fun e w' => e = .returned (.agg #[.int .u32 ((x + i) % n : Nat), .bool true]) ∧ Below w.heap.size w w' := by
  have hP := fun W h => place_any a g cap n ((x + i) % 4294967296) W (Nat.mod_lt _ (by decide)) hp h
  rw [hp.mod] at hP
  have lt : ∀ {b i : Nat} {v : Value}, w.cell? ⟨b, i, none⟩ = some v → ∀ o, (w.alloc o).cell? ⟨b, i, none⟩ = some v := fun {b i v} h o => by
    rw [World.cell?_of_block (w := w) (a := ⟨b, i, none⟩) (Below.heap_alloc _ _ _ (World.block_lt_of_cell? w _ h))]; exact h
  have hmA := lt hm
  have haA := lt ha
  have hcA := lt hc
  clear hm ha hc
  have hPA := hP (w.alloc (.cells #[.int .u32 0, .bool false] 106)) (hcA _)
  rw [show ((((x + i) % 4294967296 : Nat)) : Int) = ((x : Int) + (i : Int)) % 4294967296 by omega] at hPA
  go_enter Tryd.func60, Tryd.ntmps60
  go_wp2_with (first
    | (go_at_call 61; with_reducible refine hPA.mono ?_; rintro e wq ⟨rfl, hq⟩; subst wq)
    | fail)
  refine bodyPost_ret (touchRes_W _ w.heap.size _ rfl (heap_alloc_new w _) _ rfl) rfl ?_
  exact ⟨by congr, (Below.refl _ _).alloc (Nat.le_refl _) _⟩
end Go.Proofs.YtcmfephbhbgoiaaDoor
