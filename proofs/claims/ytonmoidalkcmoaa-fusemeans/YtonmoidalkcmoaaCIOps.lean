import Derived.Test.YtonmoidalkcmoaaCITab
namespace Go.Proofs.Ytonmoidalkcmoaa
open Go.RowKit
set_option maxRecDepth 100000
theorem wpList_one {P : Program} {ops : Array Oper} {Q : Exit → Act → World → Prop} {rest : List Oper} {a : Act} {w : World} {o : Oper} (hg : o.guard = none)
    (h : o.upon P a (wpList P ops Q rest) Q ((execOp a.eval o).run P w)) : wpList P ops Q (o :: rest) a w := by
  unfold wpList
  rw [if_pos (by simp [Region.wanted, hg])]
  exact Or.inl h
theorem startA (p : Value) : ({ tmps := #[] ++ Array.replicate (Try.f27.ntmps - (#[] : Array Value).size) undef, defers := [] } : Act).put (some 0) p = act0 p := by kernel_rfl
theorem act2_0 (p : Value) : (((act1 p).put (some 60) (.agg opsV)).put sop.dst undef).tmps.getD 0 undef = p := by kernel_rfl
theorem act2_d (p : Value) : (((act1 p).put (some 60) (.agg opsV)).put sop.dst undef).defers = [] := by kernel_rfl
theorem opsV_all : opsV.all (·.oneCell') = true := by kernel_rfl
theorem opsV_size : opsV.size = 360 := by kernel_rfl
theorem opsZ_size : opsZ.size = 360 := by kernel_rfl
theorem ops_res : Try.f27.results = #[ResultVar.cell 0 77] := by kernel_rfl
theorem ops_und : Try.prog.underlying 77 = some (.array 60 76) := by kernel_rfl
theorem ops_any (w : World) : Calls Try.prog 27 #[] w fun e w' => e = .returned (.agg opsV) ∧ w' = w.alloc (.cells opsV 77) := by
  refine calls_of_wp Try.func27 body18 ?_
  obtain ⟨hz, hs⟩ := zero_of_info infoOps
  refine wp_seq (wp_region_list ?_)
  refine wpList_one rfl ?_
  have e1 : ∀ a : Act, (execOp a.eval { dst := some 0, op := Op.alloc 77, type := 0, pos := pos9, after := #[], guard := none }).run Try.prog w = .ok (.value (.pointer (some ⟨w.heap.size, 0, none⟩))) (w.alloc (.cells opsZ 77)) := by
    intro a
    simp [execOp, Instr.alloc, hz, Result.andThen, go_sem]
  rw [e1, Oper.upon_value]
  refine wpList_nil ?_
  show Code.wp _ _ _ _ _
  refine wp_seq (wp_region_lit ?_)
  rw [startA]
  refine wpList_pures _ _ (rop_vals _ perm 1) _ ?_
  refine wpList_one rfl ?_
  show Oper.upon _ _ (act1 _) _ _ ((execOp (act1 _).eval bop).run _ _)
  rw [bop_run, Oper.upon_value]
  refine wpList_one rfl ?_
  have e2 : ∀ a : Act, a.eval (.tmp 0) = .pointer (some ⟨w.heap.size, 0, none⟩) → a.eval (.tmp 60) = .agg opsV → (execOp a.eval sop).run Try.prog (w.alloc (.cells opsZ 77)) = .ok .skip (w.alloc (.cells opsV 77)) := by
    intro a h0 h1
    have := run_storeAt_new (P := Try.prog) w 77 opsZ opsV (by rw [hs, opsV_size]) (by rw [opsZ_size, opsV_size]) opsV_all
    simp only [execOp, sop, h0, h1, Sem.run_bind, this, Result.andThen, Sem.run_pure]
  rw [show bop.dst = some 60 from rfl, e2 _ (act1_0 _) (act1_60 _), Oper.upon_skip]
  refine wpList_nil ?_
  show Code.wp _ _ _ _ _
  refine wp_ret ?_
  refine bodyPost_ret (v := .agg opsV) ?_ ?_ ⟨rfl, rfl⟩
  · exact results_cell_row ops_res _ _ w.heap.size _ opsV (0, 0) _ (act2_0 _) (heap_alloc_last w _) ops_und rfl (by rw [hs, opsV_size])
  · exact act2_d _
end Go.Proofs.Ytonmoidalkcmoaa
