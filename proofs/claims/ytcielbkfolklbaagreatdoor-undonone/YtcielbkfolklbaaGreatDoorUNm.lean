import Derived.Test.YtcielbkfolklbaaGreatDoorRNm
namespace Go.Proofs.YtcielbkfolklbaaGreatDoor
open Go.RowKit Go.WideShapes
set_option maxRecDepth 100000
theorem sizeVPa : (Tryz.prog.info? 69).map (·.size) = some 2 := by kernel_rfl
theorem undVPa : ∃ fs, Tryz.prog.underlying 69 = some (.struct fs) := by
  have h : (match Tryz.prog.underlying 69 with | some (.struct _) => true | _ => false) = true := by kernel_rfl
  split at h
  · exact ⟨_, by assumption⟩
  · cases h
theorem resVPa {fn : Func} {p : Tmp} (hf : fn.results = #[.cell p 69]) (W : World) (b : Nat) (cs : Array Value) (hs : cs.size = 2) (hb : W.heap[b]? = some (.cells cs 69)) (tmps : Array Value) (h2 : tmps.getD p undef = .pointer (some ⟨b, 0, none⟩)) :
    (results fn tmps).run Tryz.prog W = .ok (.agg cs) W := by
  obtain ⟨fs, hu⟩ := undVPa
  exact results_cell_row (p := p) (ty := 69) hf tmps W b 69 cs (0, 0) _ h2 hb hu rfl (by rw [sizeVPa, hs])
/-- the zero past -/
def paZ : Array Value := #[.int .i64 0, .int .i64 0]
/-- a run that is none -/
def NoUn (w : World) (v : Value) : Prop := v = .pointer none ∨ ∃ a, a < w.heap.size ∧ v = .pointer (some ⟨a, 0, none⟩) ∧ w.cell? ⟨a, 0, none⟩ = some (.pointer none)
theorem NoUn.below {w w' : World} {v : Value} (h : NoUn w v) (hb : Below w.heap.size w w') : NoUn w' v := by
  rcases h with h | ⟨a, h1, h2, h3⟩
  · exact .inl h
  · exact .inr ⟨a, Nat.lt_of_lt_of_le h1 hb.size, h2, (hb.cell (p := ⟨a, 0, none⟩) h1).trans h3⟩
theorem noun_eq (a : Nat) (w : World) : (binOp .eql 43 (.pointer none) (.pointer (some ⟨a, 0, none⟩))).run Tryz.prog w = .ok (.bool false) w := by
  have h : ∀ d : Nat, (Op.equalIn (d + 1) 43 (.pointer none) (.pointer (some ⟨a, 0, none⟩))).run Tryz.prog w = .ok false w := fun d => by
    simp [Op.equalIn, run_underlying Tryz.underlying43]
  simp only [binOp]
  simp [Op.equal, Op.maxDepth, h 9999]
theorem umade_no (v : Value) (w : World) (h : NoUn w v) : Calls Tryz.prog 17 #[v] w fun e w' => e = .returned (.bool false) ∧ w' = w := by
  rcases h with rfl | ⟨a, _, rfl, hc⟩
  · go_enter Tryz.func17, Tryz.ntmps17
    go_wp2
    go_ret
    exact ⟨rfl, rfl⟩
  · have hq := noun_eq a w
    go_enter Tryz.func17, Tryz.ntmps17
    go_wp2
    go_ret
    exact ⟨rfl, rfl⟩
theorem unew_no (v gv : Value) (k : Int) (w : World) (h : NoMd w v) : Calls Tryz.prog 4 #[v, gv, .int .i64 k] w fun e w' => e = .returned (.tuple #[.pointer none, .int .i64 1]) ∧ Below w.heap.size w w' := by
  have hM := rnew_no v gv w h
  clear h
  go_enter Tryz.func4, Tryz.ntmps4
  go_wp2_with (go_at_call 14; with_reducible refine hM.mono ?_; rintro e w1 ⟨rfl, hb1⟩)
  go_ret2
  exact ⟨rfl, hb1⟩
theorem ustart_no (v a b : Value) (w : World) (h : NoUn w v) : Calls Tryz.prog 7 #[v, a, b] w fun e w' => e = .returned (.int .i64 1) ∧ w' = w := by
  have hM := umade_no v w h
  clear h
  go_enter Tryz.func7, Tryz.ntmps7
  go_wp2_with (go_at_call 17; with_reducible refine hM.mono ?_; rintro e wq ⟨rfl, hq⟩; subst wq)
  go_ret
  exact ⟨rfl, rfl⟩
theorem uback_no (v a : Value) (w : World) (h : NoUn w v) : Calls Tryz.prog 8 #[v, a] w fun e w' => e = .returned (.int .i64 1) ∧ w' = w := by
  have hM := umade_no v w h
  clear h
  go_enter Tryz.func8, Tryz.ntmps8
  go_wp2_with (go_at_call 17; with_reducible refine hM.mono ?_; rintro e wq ⟨rfl, hq⟩; subst wq)
  go_ret
  exact ⟨rfl, rfl⟩
theorem uagain_no (v a : Value) (w : World) (h : NoUn w v) : Calls Tryz.prog 9 #[v, a] w fun e w' => e = .returned (.int .i64 1) ∧ w' = w := by
  have hM := umade_no v w h
  clear h
  go_enter Tryz.func9, Tryz.ntmps9
  go_wp2_with (go_at_call 17; with_reducible refine hM.mono ?_; rintro e wq ⟨rfl, hq⟩; subst wq)
  go_ret
  exact ⟨rfl, rfl⟩
theorem uevents_no (v : Value) (w : World) (h : NoUn w v) : Calls Tryz.prog 11 #[v] w fun e w' => e = .returned (.slice none 0 0) ∧ w' = w := by
  have hM := umade_no v w h
  clear h
  go_enter Tryz.func11, Tryz.ntmps11
  go_wp2_with (go_at_call 17; with_reducible refine hM.mono ?_; rintro e wq ⟨rfl, hq⟩; subst wq)
  go_ret
  exact ⟨rfl, rfl⟩
theorem upast_no (v : Value) (w : World) (h : NoUn w v) : Calls Tryz.prog 10 #[v] w fun e w' => e = .returned (.agg paZ) ∧ Below w.heap.size w w' := by
  have hM := fun o => umade_no v (w.alloc o) (h.below (belP (Below.refl _ _)))
  clear h
  go_enter Tryz.func10, Tryz.ntmps10
  go_wp2_with (go_at_call 17; with_reducible refine (hM _).mono ?_; rintro e wq ⟨rfl, hq⟩; subst wq)
  refine bodyPost_ret (resVPa (p := 2) (by kernel_rfl) _ w.heap.size paZ rfl (heap_alloc_last w _) _ rfl) rfl ?_
  exact ⟨rfl, belP (Below.refl _ _)⟩
theorem ustate_no (v : Value) (w : World) (h : NoUn w v) : Calls Tryz.prog 13 #[v] w fun e w' => e = .returned (.agg stZ) ∧ Below w.heap.size w w' := by
  have hM := fun o => umade_no v (w.alloc o) (h.below (belP (Below.refl _ _)))
  clear h
  go_enter Tryz.func13, Tryz.ntmps13
  go_wp2_with (go_at_call 17; with_reducible refine (hM _).mono ?_; rintro e wq ⟨rfl, hq⟩; subst wq)
  refine bodyPost_ret (resVSt (p := 2) (by kernel_rfl) _ w.heap.size stZ rfl (heap_alloc_last w _) _ rfl) rfl ?_
  exact ⟨rfl, belP (Below.refl _ _)⟩
theorem ugo_no (v a b : Value) (w : World) (h : NoUn w v) : Calls Tryz.prog 5 #[v, a, b] w fun e w' => e = .returned (.tuple #[.agg rsZ, .int .i64 1]) ∧ Below w.heap.size w w' := by
  have hM := fun o => umade_no v (w.alloc o) (h.below (belP (Below.refl _ _)))
  clear h
  go_enter Tryz.func5, Tryz.ntmps5
  go_wp2_with (go_at_call 17; with_reducible refine (hM _).mono ?_; rintro e wq ⟨rfl, hq⟩; subst wq)
  refine bodyPost_ret (resWRs (p := 6) (u := 7) (by kernel_rfl) (.int .i64 1) _ w.heap.size rsZ rfl (heap_alloc_last w _) _ rfl rfl) rfl ?_
  exact ⟨rfl, belP (Below.refl _ _)⟩
end Go.Proofs.YtcielbkfolklbaaGreatDoor
