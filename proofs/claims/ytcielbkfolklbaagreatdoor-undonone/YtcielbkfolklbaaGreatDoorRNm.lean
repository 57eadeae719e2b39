import Derived.Test.YtcielbkfolklbaaGreatDoorRRw
namespace Go.Proofs.YtcielbkfolklbaaGreatDoor
open Go.RowKit Go.WideShapes
set_option maxRecDepth 100000
/-- a machine that is none -/
def NoMa (w : World) (v : Value) : Prop := v = .pointer none ∨ ∃ a, a < w.heap.size ∧ v = .pointer (some ⟨a, 0, none⟩) ∧ w.cell? ⟨a, 0, none⟩ = some (.pointer none)
theorem NoMa.below {w w' : World} {v : Value} (h : NoMa w v) (hb : Below w.heap.size w w') : NoMa w' v := by
  rcases h with h | ⟨a, h1, h2, h3⟩
  · exact .inl h
  · exact .inr ⟨a, Nat.lt_of_lt_of_le h1 hb.size, h2, (hb.cell (p := ⟨a, 0, none⟩) h1).trans h3⟩
theorem noma_eq (a : Nat) (w : World) : (binOp .eql 47 (.pointer none) (.pointer (some ⟨a, 0, none⟩))).run Tryz.prog w = .ok (.bool false) w := by
  have h : ∀ d : Nat, (Op.equalIn (d + 1) 47 (.pointer none) (.pointer (some ⟨a, 0, none⟩))).run Tryz.prog w = .ok false w := fun d => by
    simp [Op.equalIn, run_underlying Tryz.underlying47]
  simp only [binOp]
  simp [Op.equal, Op.maxDepth, h 9999]
theorem rmade_no (v : Value) (w : World) (h : NoMa w v) : Calls Tryz.prog 40 #[v] w fun e w' => e = .returned (.bool false) ∧ w' = w := by
  rcases h with rfl | ⟨a, _, rfl, hc⟩
  · go_enter Tryz.func40, Tryz.ntmps40
    go_wp2
    go_ret
    exact ⟨rfl, rfl⟩
  · have hq := noma_eq a w
    go_enter Tryz.func40, Tryz.ntmps40
    go_wp2
    go_ret
    exact ⟨rfl, rfl⟩
theorem rnew_no (v gv : Value) (w : World) (h : NoMd w v) : Calls Tryz.prog 14 #[v, gv] w fun e w' => e = .returned (.tuple #[.pointer none, .int .i64 1]) ∧ Below w.heap.size w w' := by
  have hM := fresh_no v w h
  clear h
  go_enter Tryz.func14, Tryz.ntmps14
  go_wp2_with (go_at_call 35; with_reducible refine hM.mono ?_; rintro e w1 ⟨rfl, hb1⟩; simp only [stZ])
  go_ret2
  exact ⟨rfl, belP hb1⟩
theorem rstart_no (v a b : Value) (w : World) (h : NoMa w v) : Calls Tryz.prog 26 #[v, a, b] w fun e w' => e = .returned (.int .i64 1) ∧ w' = w := by
  have hM := rmade_no v w h
  clear h
  go_enter Tryz.func26, Tryz.ntmps26
  go_wp2_with (go_at_call 40; with_reducible refine hM.mono ?_; rintro e wq ⟨rfl, hq⟩; subst wq)
  go_ret
  exact ⟨rfl, rfl⟩
theorem rtouched_no (v : Value) (w : World) (h : NoMa w v) : Calls Tryz.prog 52 #[v] w fun e w' => e = .returned (.slice none 0 0) ∧ w' = w := by
  have hM := rmade_no v w h
  clear h
  go_enter Tryz.func52, Tryz.ntmps52
  go_wp2_with (go_at_call 40; with_reducible refine hM.mono ?_; rintro e wq ⟨rfl, hq⟩; subst wq)
  go_ret
  exact ⟨rfl, rfl⟩
theorem rlog_no (v b : Value) (w : World) (h : NoMa w v) : Calls Tryz.prog 39 #[v, b] w fun e w' => e = .returned (.tuple #[]) ∧ w' = w := by
  have hM := rmade_no v w h
  clear h
  go_enter Tryz.func39, Tryz.ntmps39
  go_wp2_with (go_at_call 40; with_reducible refine hM.mono ?_; rintro e wq ⟨rfl, hq⟩; subst wq)
  first | go_end0 | refine bodyPost_ret (results_none rfl _ _ _) rfl ?_
  exact ⟨rfl, rfl⟩
theorem rput_no (v a b c d e f g : Value) (w : World) (h : NoMa w v) : Calls Tryz.prog 54 #[v, .agg #[a, b, c, d, e, f, g]] w fun e w' => e = .returned (.int .i64 1) ∧ Below w.heap.size w w' := by
  have hM := fun o => rmade_no v (w.alloc o) (h.below (belP (Below.refl _ _)))
  clear h
  go_enter Tryz.func54, Tryz.ntmps54
  go_wp2_with (go_at_call 40; with_reducible refine (hM _).mono ?_; rintro e wq ⟨rfl, hq⟩; subst wq)
  go_ret
  exact ⟨rfl, belP (Below.refl _ _)⟩
theorem rstate_no (v : Value) (w : World) (h : NoMa w v) : Calls Tryz.prog 19 #[v] w fun e w' => e = .returned (.agg stZ) ∧ Below w.heap.size w w' := by
  have hM := fun o => rmade_no v (w.alloc o) (h.below (belP (Below.refl _ _)))
  clear h
  go_enter Tryz.func19, Tryz.ntmps19
  go_wp2_with (go_at_call 40; with_reducible refine (hM _).mono ?_; rintro e wq ⟨rfl, hq⟩; subst wq)
  refine bodyPost_ret (resVSt (p := 2) (by kernel_rfl) _ w.heap.size stZ rfl (heap_alloc_last w _) _ rfl) rfl ?_
  exact ⟨rfl, belP (Below.refl _ _)⟩
theorem heap_alloc_two (w : World) (o p : Obj) : ((w.alloc o).alloc p).heap[w.heap.size + 1]? = some p := by
  have := heap_alloc_last (w.alloc o) p
  simpa using this
theorem rgo_no (v a b : Value) (w : World) (h : NoMa w v) : Calls Tryz.prog 18 #[v, a, b] w fun e w' => e = .returned (.tuple #[.agg rsZ, .int .i64 1]) ∧ Below w.heap.size w w' := by
  have hM := fun o p => rmade_no v ((w.alloc o).alloc p) (h.below (belP (belP (Below.refl _ _))))
  rcases h with rfl | ⟨q, hq, rfl, _⟩
  all_goals
    go_enter_defers Tryz.func18, Tryz.ntmps18
    go_wp2_with (go_at_call 40; with_reducible refine (hM _ _).mono ?_; rintro e wq ⟨rfl, hq⟩; subst wq)
    refine ⟨_, resWRs (p := 6) (u := 7) (by kernel_rfl) (.int .i64 1) _ (w.heap.size + 1) rsZ rfl (heap_alloc_two w _ _) _ rfl rfl, ?_⟩
    exact ⟨rfl, belP (belP (Below.refl _ _))⟩
end Go.Proofs.YtcielbkfolklbaaGreatDoor
