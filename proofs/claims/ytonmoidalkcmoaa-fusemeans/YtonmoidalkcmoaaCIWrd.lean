import Derived.Test.YtonmoidalkcmoaaCIInf
namespace Go.Proofs.Ytonmoidalkcmoaa
open Go.RowKit
set_option maxRecDepth 100000
def wordsV : Array Value := ((List.range 60).map fun k => Value.string (opWd k)).toArray
def wordsZ : Array Value := (List.replicate 60 (Value.string ⟨#[]⟩)).toArray
theorem upon_value_of {P : Program} {o : Oper} {a : Act} {next : Act → World → Prop} {Q : Exit → Act → World → Prop} {w : World} (v : Value) (w' : World)
    (hr : (execOp a.eval o).run P w = .ok (.value v) w') (h : next (a.put o.dst v) w') : o.upon P a next Q ((execOp a.eval o).run P w) := by
  rw [hr]; exact h
theorem upon_skip_of {P : Program} {o : Oper} {a : Act} {next : Act → World → Prop} {Q : Exit → Act → World → Prop} {w : World} (w' : World)
    (hr : (execOp a.eval o).run P w = .ok .skip w') (h : next (a.put o.dst undef) w') : o.upon P a next Q ((execOp a.eval o).run P w) := by
  rw [hr]; exact h
theorem wp_act_eq {P : Program} {c : Code} {Q : Exit → Act → World → Prop} {a : Act} {w : World} (a' : Act) (h : a = a') (hw : c.wp P Q a' w) : c.wp P Q a w := by
  rw [h]; exact hw
theorem store_new (o : Oper) (t : Nat) (p q : Operand) (ho : o.op = .store t p q) (a : Act) (w : World) (cs cs' : Array Value) (h0 : a.eval p = .pointer (some ⟨w.heap.size, 0, none⟩)) (h1 : a.eval q = .agg cs')
    (hi : (Try.prog.info? t).map (·.size) = some cs'.size) (hs : cs.size = cs'.size) (h2 : cs'.all (·.oneCell') = true) :
    (execOp a.eval o).run Try.prog (w.alloc (.cells cs t)) = .ok .skip (w.alloc (.cells cs' t)) := by
  have := run_storeAt_new (P := Try.prog) w t cs cs' hi hs h2
  simp only [execOp, ho, h0, h1, Sem.run_bind, this, Result.andThen, Sem.run_pure]
theorem alloc_new (o : Oper) (t : Nat) (ho : o.op = .alloc t) (a : Act) (w : World) (cs : Array Value) (hz : ∀ w, (zeroValue t).run Try.prog w = .ok (.agg cs) w) :
    (execOp a.eval o).run Try.prog w = .ok (.value (.pointer (some ⟨w.heap.size, 0, none⟩))) (w.alloc (.cells cs t)) := by
  simp [execOp, ho, Instr.alloc, hz, Result.andThen, go_sem]
theorem wordsV_all : wordsV.all (·.oneCell') = true := by kernel_rfl
theorem wordsV_size : wordsV.size = 60 := by kernel_rfl
theorem wordsZ_size : wordsZ.size = 60 := by kernel_rfl
theorem wordsV_get (k : Nat) (h : k < 60) : wordsV[k]? = some (.string (opWd k)) := by
  unfold wordsV
  rw [List.getElem?_toArray, List.getElem?_map, List.getElem?_range h]
  rfl
theorem heap3 (w : World) (A B C : Obj) : (((w.alloc A).alloc B).alloc C).heap[w.heap.size]? = some A := by
  rw [Below.heap_alloc _ _ _ (by simp; omega), Below.heap_alloc _ _ _ (by simp)]
  exact heap_alloc_last w A
theorem rowRs {fn : Func} (hres : fn.results = #[.cell 2 55, .tmp 3]) (t2 : Value) (W : World) (b : Nat) (cs : Array Value) (h6 : cs.size = 6) (hb : W.heap[b]? = some (.cells cs 55)) (tmps : Array Value) (h2 : tmps.getD 2 undef = .pointer (some ⟨b, 0, none⟩)) (h3 : tmps.getD 3 undef = t2) :
    (results fn tmps).run Try.prog W = .ok (.tuple #[.agg cs, t2]) W := by
  obtain ⟨fs, hu⟩ := undR
  rw [results_cell_tmp hres, h2, h3]
  have := run_loadVar_row (P := Try.prog) W b 55 55 cs (0, 0) _ hb hu rfl (by rw [infoR, h6])
  simp only [asAddr, Sem.run_pure, Result.andThen, this]






end Go.Proofs.Ytonmoidalkcmoaa
