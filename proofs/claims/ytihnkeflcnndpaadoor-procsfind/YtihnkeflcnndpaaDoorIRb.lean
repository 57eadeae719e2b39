import Derived.Test.YtihnkeflcnndpaaDoorIWrd
namespace Go.Proofs.YtihnkeflcnndpaaDoor
open Go.RowKit
set_option maxRecDepth 100000
theorem heap3 (w : World) (A B C : Obj) : (((w.alloc A).alloc B).alloc C).heap[w.heap.size]? = some A := by
  rw [Below.heap_alloc _ _ _ (by simp; omega), Below.heap_alloc _ _ _ (by simp)]
  exact heap_alloc_last w A
theorem rowRs {fn : Func} (hres : fn.results = #[.cell 2 54, .tmp 3]) (t2 : Value) (W : World) (b : Nat) (cs : Array Value) (h6 : cs.size = 6) (hb : W.heap[b]? = some (.cells cs 54)) (tmps : Array Value) (h2 : tmps.getD 2 undef = .pointer (some ⟨b, 0, none⟩)) (h3 : tmps.getD 3 undef = t2) :
    (results fn tmps).run Tryd.prog W = .ok (.tuple #[.agg cs, t2]) W := by
  obtain ⟨fs, hu⟩ := undR
  rw [results_cell_tmp hres, h2, h3]
  have := run_loadVar_row (P := Tryd.prog) W b 54 54 cs (0, 0) _ hb hu rfl (by rw [infoR, h6])
  simp only [asAddr, Sem.run_pure, Result.andThen, this]
set_option maxHeartbeats 1000000 in
theorem rinfoNo (op : Nat) (w : World) (h : op < 256) (hn : ¬ (1 ≤ op ∧ op ≤ 59)) : Calls Tryd.prog 65 #[.int .u8 op] w fun e w' => e = .returned (.tuple #[.agg #[.string (opWd op), .int .i64 (opWi op), .int .u32 (opMo op), .int .i64 (opTa op), .int .i64 (opGi op), .int .u8 (opKi op)], .bool false]) ∧ Below w.heap.size w w' := by
  have hT := opT_zero op hn
  rw [hT.1, hT.2.1, hT.2.2.1, hT.2.2.2.1, hT.2.2.2.2.1, hT.2.2.2.2.2]
  clear hT
  by_cases h1 : op = 0
  · subst h1
    go_enter Tryd.func65, Tryd.ntmps65
    go_wp2
    exact bodyPost_ret (rowRs (by kernel_rfl) _ _ w.heap.size _ rfl (heap_alloc_last w _) _ rfl rfl) rfl ⟨rfl, bel (Below.refl _ _)⟩
  have h2 : 59 < op := by omega
  have hlt : ¬ ((op : Int) < 1) := by omega
  have hgt : (59 : Int) < op := by omega
  have hwr : IntKind.i64.wrap (op : Int) = op := by rw [IntKind.wrap_i64]; omega
  clear hn
  go_enter Tryd.func65, Tryd.ntmps65
  go_wp2
  exact bodyPost_ret (rowRs (by kernel_rfl) _ _ w.heap.size _ rfl (heap_alloc_last w _) _ rfl rfl) rfl ⟨rfl, bel (Below.refl _ _)⟩
end Go.Proofs.YtihnkeflcnndpaaDoor
