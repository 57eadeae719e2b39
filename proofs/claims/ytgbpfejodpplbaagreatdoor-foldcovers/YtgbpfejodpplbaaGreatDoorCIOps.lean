import Derived.Test.YtgbpfejodpplbaaGreatDoorCITab
namespace Go.Proofs.YtgbpfejodpplbaaGreatDoor
open Go.RowKit
set_option maxRecDepth 100000

theorem wpList_one {P : Program} {ops : Array Oper} {Q : Exit → Act → World → Prop} {rest : List Oper} {a : Act} {w : World} {o : Oper} (hg : o.guard = none)
    (h : o.upon P a (wpList P ops Q rest) Q ((execOp a.eval o).run P w)) : wpList P ops Q (o :: rest) a w := by
  unfold wpList
  rw [if_pos (by simp [Region.wanted, hg])]
  exact Or.inl h
theorem startA (p : Value) : ({ tmps := #[] ++ Array.replicate (Tryz.f62.ntmps - (#[] : Array Value).size) undef, defers := [] } : Act).put (some 0) p = act0 p := by kernel_rfl
theorem act2_0 (p : Value) : (((act1 p).put (some 60) (.agg opsV)).put sop.dst undef).tmps.getD 0 undef = p := by kernel_rfl
theorem act2_d (p : Value) : (((act1 p).put (some 60) (.agg opsV)).put sop.dst undef).defers = [] := by kernel_rfl
theorem opsV_all : opsV.all (·.oneCell') = true := by kernel_rfl
theorem opsV_size : opsV.size = 360 := by kernel_rfl
theorem opsZ_size : opsZ.size = 360 := by kernel_rfl
theorem ops_res : Tryz.f62.results = #[ResultVar.cell 0 133] := by kernel_rfl
theorem ops_und : Tryz.prog.underlying 133 = some (.array 60 132) := by kernel_rfl
theorem ops_any (w : World) : Calls Tryz.prog 62 #[] w fun e w' => e = .returned (.agg opsV) ∧ w' = w.alloc (.cells opsV 133) := by
  refine calls_of_wp Tryz.func62 body18 ?_
  obtain ⟨hz, hs⟩ := zero_of_info infoOps
  refine wp_seq (wp_region_list ?_)
  refine wpList_one rfl ?_
  have e1 : ∀ a : Act, (execOp a.eval { dst := some 0, op := Op.alloc 133, type := 0, pos := pos9, after := #[], guard := none }).run Tryz.prog w = .ok (.value (.pointer (some ⟨w.heap.size, 0, none⟩))) (w.alloc (.cells opsZ 133)) := by
    intro a
    simp [execOp, Instr.alloc, hz, Result.andThen, go_sem]
  rw [e1, Oper.upon_value]
  refine wpList_nil ?_
  show Code.wp _ _ _ _ _
  refine wp_seq (wp_region_lit ?_)
  rw [startA]
  refine wpList_pures _ _ (rop_vals _ perm 1) _ ?_
  refine wpList_one rfl ?_
  show Oper.upon _ _ (act1 _) _ _ ((execOp (act1 _).eval bop).run _ _)
  rw [bop_run, Oper.upon_value]
  refine wpList_one rfl ?_
  have e2 : ∀ a : Act, a.eval (.tmp 0) = .pointer (some ⟨w.heap.size, 0, none⟩) → a.eval (.tmp 60) = .agg opsV → (execOp a.eval sop).run Tryz.prog (w.alloc (.cells opsZ 133)) = .ok .skip (w.alloc (.cells opsV 133)) := by
    intro a h0 h1
    have := run_storeAt_new (P := Tryz.prog) w 133 opsZ opsV (by rw [hs, opsV_size]) (by rw [opsZ_size, opsV_size]) opsV_all
    simp only [execOp, sop, h0, h1, Sem.run_bind, this, Result.andThen, Sem.run_pure]
  rw [show bop.dst = some 60 from rfl, e2 _ (act1_0 _) (act1_60 _), Oper.upon_skip]
  refine wpList_nil ?_
  show Code.wp _ _ _ _ _
  refine wp_ret ?_
  refine bodyPost_ret (v := .agg opsV) ?_ ?_ ⟨rfl, rfl⟩
  · exact results_cell_row ops_res _ _ w.heap.size _ opsV (0, 0) _ (act2_0 _) (heap_alloc_last w _) ops_und rfl (by rw [hs, opsV_size])
  · exact act2_d _
end Go.Proofs.YtgbpfejodpplbaaGreatDoor
namespace Go.Proofs.YtgbpfejodpplbaaGreatDoor
open Go.RowKit
set_option maxRecDepth 100000

theorem bel {a w : World} {o : Obj} (h : Below a.heap.size a w) : Below a.heap.size a (w.alloc o) := h.alloc h.size o
theorem bt {w a b : World} (h1 : Below w.heap.size w a) (h2 : Below a.heap.size a b) : Below w.heap.size w b := h1.trans (h2.mono h1.size)
theorem infoR : (Tryz.prog.info? 101).map (·.size) = some 6 := by kernel_rfl
set_option maxRecDepth 100000 in
theorem undR : ∃ fs, Tryz.prog.underlying 101 = some (.struct fs) := by
  have h : (match Tryz.prog.underlying 101 with | some (.struct _) => true | _ => false) = true := by kernel_rfl
  split at h
  · exact ⟨_, by assumption⟩
  · cases h
/-- a row of the table that lies in its own block is read whole -/
theorem rowRes (t2 : Value) (W : World) (b : Nat) (cs : Array Value) (h6 : cs.size = 6) (hb : W.heap[b]? = some (.cells cs 101)) (tmps : Array Value) (h2 : tmps.getD 2 undef = .pointer (some ⟨b, 0, none⟩)) (h3 : tmps.getD 3 undef = t2) :
    (results Tryz.f40 tmps).run Tryz.prog W = .ok (.tuple #[.agg cs, t2]) W := by
  obtain ⟨fs, hu⟩ := undR
  rw [results_cell_tmp (p := 2) (u := 3) (ty := 101) (by kernel_rfl), h2, h3]
  have := run_loadVar_row (P := Tryz.prog) W b 101 101 cs (0, 0) _ hb hu rfl (by rw [infoR, h6])
  simp only [asAddr, Sem.run_pure, Result.andThen, this]
theorem index_ops (w : World) : ∀ (op : Nat), op < 60 → (Instr.index 133 (.agg opsV) (.int .u8 (op : Int))).run Tryz.prog w = .ok (.agg #[.string (opWd op), .int .i64 (opWi op), .int .u32 (opMo op), .int .i64 (opTa op), .int .i64 (opGi op), .int .u8 (opKi op)]) w
  | 0, _ => by kernel_rfl
  | 1, _ => by kernel_rfl
  | 2, _ => by kernel_rfl
  | 3, _ => by kernel_rfl
  | 4, _ => by kernel_rfl
  | 5, _ => by kernel_rfl
  | 6, _ => by kernel_rfl
  | 7, _ => by kernel_rfl
  | 8, _ => by kernel_rfl
  | 9, _ => by kernel_rfl
  | 10, _ => by kernel_rfl
  | 11, _ => by kernel_rfl
  | 12, _ => by kernel_rfl
  | 13, _ => by kernel_rfl
  | 14, _ => by kernel_rfl
  | 15, _ => by kernel_rfl
  | 16, _ => by kernel_rfl
  | 17, _ => by kernel_rfl
  | 18, _ => by kernel_rfl
  | 19, _ => by kernel_rfl
  | 20, _ => by kernel_rfl
  | 21, _ => by kernel_rfl
  | 22, _ => by kernel_rfl
  | 23, _ => by kernel_rfl
  | 24, _ => by kernel_rfl
  | 25, _ => by kernel_rfl
  | 26, _ => by kernel_rfl
  | 27, _ => by kernel_rfl
  | 28, _ => by kernel_rfl
  | 29, _ => by kernel_rfl
  | 30, _ => by kernel_rfl
  | 31, _ => by kernel_rfl
  | 32, _ => by kernel_rfl
  | 33, _ => by kernel_rfl
  | 34, _ => by kernel_rfl
  | 35, _ => by kernel_rfl
  | 36, _ => by kernel_rfl
  | 37, _ => by kernel_rfl
  | 38, _ => by kernel_rfl
  | 39, _ => by kernel_rfl
  | 40, _ => by kernel_rfl
  | 41, _ => by kernel_rfl
  | 42, _ => by kernel_rfl
  | 43, _ => by kernel_rfl
  | 44, _ => by kernel_rfl
  | 45, _ => by kernel_rfl
  | 46, _ => by kernel_rfl
  | 47, _ => by kernel_rfl
  | 48, _ => by kernel_rfl
  | 49, _ => by kernel_rfl
  | 50, _ => by kernel_rfl
  | 51, _ => by kernel_rfl
  | 52, _ => by kernel_rfl
  | 53, _ => by kernel_rfl
  | 54, _ => by kernel_rfl
  | 55, _ => by kernel_rfl
  | 56, _ => by kernel_rfl
  | 57, _ => by kernel_rfl
  | 58, _ => by kernel_rfl
  | 59, _ => by kernel_rfl
  | n + 60, h => absurd h (by omega)
theorem opT_zero (k : Nat) (h : ¬ (1 ≤ k ∧ k ≤ 59)) : opWd k = ⟨#[]⟩ ∧ opWi k = 0 ∧ opMo k = 0 ∧ opTa k = 0 ∧ opGi k = 0 ∧ opKi k = 0 := by
  have : opT k = ([], 0, 0, 0, 0, 0) := by
    by_cases h0 : k = 0
    · subst h0; rfl
    · have hl : ops.length ≤ k := by show 60 ≤ k; omega
      unfold opT
      rw [List.getD_eq_getElem?_getD, List.getElem?_eq_none hl]
      rfl
  simp [opWd, opWi, opMo, opTa, opGi, opKi, this]
def isOp (k : Nat) : Bool := decide (1 ≤ k ∧ k ≤ 59)
set_option maxHeartbeats 1000000 in
theorem info_any (op : Nat) (w : World) (h : op < 256) :
    Calls Tryz.prog 40 #[.int .u8 op] w fun e w' => e = .returned (.tuple #[.agg #[.string (opWd op), .int .i64 (opWi op), .int .u32 (opMo op), .int .i64 (opTa op), .int .i64 (opGi op), .int .u8 (opKi op)], .bool (isOp op)]) ∧ Below w.heap.size w w' := by
  by_cases h1 : op = 0
  · subst h1
    go_enter Tryz.func40, Tryz.ntmps40
    go_wp2
    refine bodyPost_ret (v := .tuple #[.agg #[.string ⟨#[]⟩, .int .i64 0, .int .u32 0, .int .i64 0, .int .i64 0, .int .u8 0], .bool false]) (rowRes _ _ w.heap.size _ rfl (heap_alloc_last w _) _ rfl rfl) rfl ⟨rfl, bel (Below.refl _ _)⟩
  by_cases h2 : 59 < op
  · have hT := opT_zero op (by omega)
    have hI : isOp op = false := by unfold isOp; exact decide_eq_false (by omega)
    rw [hT.1, hT.2.1, hT.2.2.1, hT.2.2.2.1, hT.2.2.2.2.1, hT.2.2.2.2.2, hI]
    clear hT hI
    have hlt : ¬ ((op : Int) < 1) := by omega
    have hgt : (59 : Int) < op := by omega
    go_enter Tryz.func40, Tryz.ntmps40
    go_wp2
    refine bodyPost_ret (v := .tuple #[.agg #[.string ⟨#[]⟩, .int .i64 0, .int .u32 0, .int .i64 0, .int .i64 0, .int .u8 0], .bool false]) (rowRes _ _ w.heap.size _ rfl (heap_alloc_last w _) _ rfl rfl) rfl ⟨rfl, bel (Below.refl _ _)⟩
  have hlt : ¬ ((op : Int) < 1) := by omega
  have hgt : ¬ (59 : Int) < op := by omega
  have hI : isOp op = true := by unfold isOp; exact decide_eq_true (by omega)
  rw [hI]
  clear hI
  have hix := fun w => index_ops w op (by omega)
  generalize opWd op = a0 at hix ⊢
  generalize opWi op = a1 at hix ⊢
  generalize opMo op = a2 at hix ⊢
  generalize opTa op = a3 at hix ⊢
  generalize opGi op = a4 at hix ⊢
  generalize opKi op = a5 at hix ⊢
  go_enter Tryz.func40, Tryz.ntmps40
  go_wp2_with (go_at_call 62; refine (ops_any _).mono ?_; rintro e wq ⟨rfl, hq⟩; subst wq; generalize hV : opsV = V at *; clear hV)
  exact bodyPost_ret (rowRes _ _ w.heap.size _ rfl (heap_alloc2_old w _ _) _ rfl rfl) rfl ⟨rfl, bel (bel (Below.refl _ _))⟩
end Go.Proofs.YtgbpfejodpplbaaGreatDoor
