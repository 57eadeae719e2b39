import Derived.Test.YtonmoidalkcmoaaCDMa
import Derived.Laws.ResultCell
import Derived.Laws.CopyOwn
namespace Go.Proofs.Ytonmoidalkcmoaa
set_option maxHeartbeats 4000000
open Go.RowKit Go.WideShapes
set_option maxRecDepth 100000
theorem wpList_store_rowD {P : Program} {ops : Array Oper} {Q : Exit → Act → World → Prop} {rest : List Oper} {o : Oper} {a : Act} {w : World} (hg : o.guard = none) (t : TypeId) (p q : Operand) (ho : o.op = .store t p q)
    (b : Nat) (cs cs' : Array Value) (h0 : a.eval p = .pointer (some ⟨b, 0, none⟩)) (h1 : a.eval q = .agg cs') (hb : w.heap[b]? = some (.cells cs t)) (hi : (P.info? t).map (·.size) = some cs'.size) (hs : cs.size = cs'.size) (h2 : cs'.all (·.oneCell') = true)
    (h : wpList P ops Q rest (a.put o.dst undef) (w.setRow b cs')) : wpList P ops Q (o :: rest) a w := by
  refine wpList_plain hg fun _ hK => ?_
  have := run_storeVar_row (P := P) w b t t cs cs' hb hi hs h2
  unfold Oper.wp
  have hr : (execOp a.eval o).run P w = .ok .skip (w.setRow b cs') := by
    simp only [execOp, ho, h0, h1, Instr.storeAt, Instr.sureAddr, Sem.run_bind, Sem.run_pure, Result.andThen, this]
  rw [hr]
  exact hK _ _ h
theorem sizeDPc : (Try.prog.info? 106).map (·.size) = some 4 := by kernel_rfl
theorem undDPc : ∃ fs, Try.prog.underlying 106 = some (.struct fs) := by
  have h : (match Try.prog.underlying 106 with | some (.struct _) => true | _ => false) = true := by kernel_rfl
  split at h
  · exact ⟨_, by assumption⟩
  · cases h
theorem resDPc {fn : Func} {p : Tmp} (hf : fn.results = #[.cell p 106]) (W : World) (b : Nat) (cs : Array Value) (hs : cs.size = 4) (hb : W.heap[b]? = some (.cells cs 106)) (tmps : Array Value) (h2 : tmps.getD p undef = .pointer (some ⟨b, 0, none⟩)) :
    (results fn tmps).run Try.prog W = .ok (.agg cs) W := by
  obtain ⟨fs, hu⟩ := undDPc
  exact results_cell_row (p := p) (ty := 106) hf tmps W b 106 cs (0, 0) _ h2 hb hu rfl (by rw [sizeDPc, hs])
theorem resEPc {fn : Func} {p u : Tmp} (hf : fn.results = #[.cell p 106, .tmp u]) (t2 : Value) (W : World) (b : Nat) (cs : Array Value) (hs : cs.size = 4) (hb : W.heap[b]? = some (.cells cs 106)) (tmps : Array Value) (h2 : tmps.getD p undef = .pointer (some ⟨b, 0, none⟩)) (h3 : tmps.getD u undef = t2) :
    (results fn tmps).run Try.prog W = .ok (.tuple #[.agg cs, t2]) W := by
  obtain ⟨fs, hu⟩ := undDPc
  rw [results_cell_tmp hf, h2, h3]
  have := run_loadVar_row (P := Try.prog) W b 106 106 cs (0, 0) _ hb hu rfl (by rw [sizeDPc, hs])
  simp only [asAddr, Sem.run_pure, Result.andThen, this]
/-- a piece's cells -/
def pcA (at' : Nat) (c : Nat × Nat × Nat) : Array Value := #[.int .u32 (at' : Int), .int .u32 (c.1 : Int), .int .u8 (c.2.1 : Int), .int .u32 (c.2.2 : Int)]
theorem fcheck_any (op arg : Nat) (w : World) (h : op < 256) :
    Calls Try.prog 13 #[.agg #[.int .u8 op, .int .u32 arg]] w fun e w' => e = .returned (.int .i64 (erV op arg)) ∧ Below w.heap.size w w' := by
  have hI := fun w => sized_any op arg w h
  go_enter Try.func13, Try.ntmps13
  go_wp2_with (go_at_call 23; refine (hI _).mono ?_; rintro e wq ⟨rfl, hq⟩)
  go_ret
  exact ⟨rfl, bt (bel (Below.refl _ _)) hq⟩
theorem fone_any (at' : Nat) (w : World) :
    Calls Try.prog 67 #[.int .u32 (at' : Int)] w fun e w' => e = .returned (.agg (pcA at' (1, 1, 0))) ∧ Below w.heap.size w w' := by
  go_enter Try.func67, Try.ntmps67
  go_wp2
  exact bodyPost_ret (resDPc (p := 2) (by kernel_rfl) _ w.heap.size _ rfl (heap_alloc_last w _) _ rfl) rfl ⟨rfl, bel (Below.refl _ _)⟩
theorem left_any (b at' len : Nat) (w : World) (ws : List Nat) (h : RoS b w ws) :
    Calls Try.prog 71 #[.pointer (some ⟨b, 0, none⟩), .int .u32 (at' : Int), .int .u32 (len : Int)] w fun e w' => e = .returned (.agg (pcA at' (leftV ws len))) ∧ Below w.heap.size w w' := by
  have c64 := h.cnt
  have hbl := h.lt
  have hne : ¬ b = w.heap.size := by omega
  by_cases h0 : ws.length = 0
  · rw [show leftV ws len = (len, 4, 0) by simp [leftV, h0]]
    rw [h0] at c64
    go_enter Try.func71, Try.ntmps71
    go_wp2
    exact bodyPost_ret (resDPc (p := 6) (by kernel_rfl) _ w.heap.size _ rfl (heap_alloc_last w _) _ rfl) rfl ⟨rfl, bel (Below.refl _ _)⟩
  · rw [show leftV ws len = (len, 2, ws.getD 0 0) by simp [leftV, h0]]
    have c0 := h.wd (i := 0) (by omega)
    have hz : ((ws.length : Int) == 0) = false := by rw [beq_eq_false_iff_ne]; omega
    have hz' : ¬ (ws.length : Int) = 0 := by omega
    go_enter Try.func71, Try.ntmps71
    go_wp2
    exact bodyPost_ret (resDPc (p := 6) (by kernel_rfl) _ w.heap.size _ rfl (heap_alloc_last w _) _ rfl) rfl ⟨rfl, bel (Below.refl _ _)⟩
/-- what Info tells of an operation -/
abbrev infA (op : Nat) : Array Value := #[.string (opWd op), .int .i64 (opWi op : Int), .int .u32 (opMo op : Int), .int .i64 (opTa op : Int), .int .i64 (opGi op : Int), .int .u8 (opKi op : Int)]
theorem bears_gen (b op ta gi n : Nat) (w : World) (hbl : b < w.heap.size) (c64 : w.cell? ⟨b, 64, none⟩ = some (.int .i64 (n : Int))) (hle : n ≤ 64) (t1 : ta ≤ 2000000) (t2 : gi ≤ 2000000) :
    Calls Try.prog 68 #[.pointer (some ⟨b, 0, none⟩), .agg #[.string (opWd op), .int .i64 (opWi op : Int), .int .u32 (opMo op : Int), .int .i64 (ta : Int), .int .i64 (gi : Int), .int .u8 (opKi op : Int)]] w fun e w' => e = .returned (.bool (decide (ta ≤ n ∧ n - ta + gi ≤ 64))) ∧ Below w.heap.size w w' := by
  have hne : ¬ b = w.heap.size := by omega
  have HB := dhid (fun (o : Obj) (k : Nat) => (show Below w.heap.size w ((w.alloc o).drewN k) from ⟨rfl, rfl, rfl, by simp, fun j hj => Below.heap_alloc _ _ _ hj⟩))
  by_cases h1 : ta ≤ n
  · have d1 : decide (ta ≤ n) = true := decide_eq_true h1
    have hs1 : IntKind.i64.wrap ((n : Int) - (ta : Int)) = ((n - ta : Nat) : Int) := by rw [IntKind.wrap_i64]; omega
    have hs2 : IntKind.i64.wrap (((n - ta : Nat) : Int) + (gi : Int)) = ((n - ta + gi : Nat) : Int) := by rw [IntKind.wrap_i64]; omega
    rw [show decide (ta ≤ n ∧ n - ta + gi ≤ 64) = decide (n - ta + gi ≤ 64) by simp [h1]]
    generalize n - ta + gi = q at *
    generalize n - ta = r at *
    go_enter Try.func68, Try.ntmps68
    go_wp2
    go_quiet (fail)
    go_wp2
    go_ret
    exact ⟨by rw [show decide ((q : Int) ≤ 64) = decide (q ≤ 64) from decide_eq_decide.2 (by omega)]; rfl, HB.out _ _⟩
  · have d1 : decide (ta ≤ n) = false := decide_eq_false h1
    rw [decide_eq_false (show ¬ (ta ≤ n ∧ n - ta + gi ≤ 64) from fun c => h1 c.1)]
    go_enter Try.func68, Try.ntmps68
    go_wp2
    go_quiet (fail)
    go_wp2
    go_ret
    exact ⟨rfl, HB.out _ _⟩
theorem bears_any (b op : Nat) (w : World) (ws : List Nat) (hop : op < 256) (h : RoS b w ws) :
    Calls Try.prog 68 #[.pointer (some ⟨b, 0, none⟩), .agg (infA op)] w fun e w' => e = .returned (.bool (brB ws op)) ∧ Below w.heap.size w w' :=
  bears_gen b op (opTa op) (opGi op) ws.length w h.lt h.cnt h.le (ta_small op hop).1 (ta_small op hop).2
end Go.Proofs.Ytonmoidalkcmoaa
