import Derived.Test.YtonmoidalkcmoaaCIOps
namespace Go.Proofs.Ytonmoidalkcmoaa
set_option maxHeartbeats 1000000
open Go.RowKit
set_option maxRecDepth 100000
theorem bel {a w : World} {o : Obj} (h : Below a.heap.size a w) : Below a.heap.size a (w.alloc o) := h.alloc h.size o
theorem bt {w a b : World} (h1 : Below w.heap.size w a) (h2 : Below a.heap.size a b) : Below w.heap.size w b := h1.trans (h2.mono h1.size)
theorem infoR : (Try.prog.info? 55).map (·.size) = some 6 := by kernel_rfl
theorem undR : ∃ fs, Try.prog.underlying 55 = some (.struct fs) := by
  have h : (match Try.prog.underlying 55 with | some (.struct _) => true | _ => false) = true := by kernel_rfl
  split at h
  · exact ⟨_, by assumption⟩
  · cases h
/-- a row of the table that lies in its own block is read whole -/
theorem rowRes (t2 : Value) (W : World) (b : Nat) (cs : Array Value) (h6 : cs.size = 6) (hb : W.heap[b]? = some (.cells cs 55)) (tmps : Array Value) (h2 : tmps.getD 2 undef = .pointer (some ⟨b, 0, none⟩)) (h3 : tmps.getD 3 undef = t2) :
    (results Try.f15 tmps).run Try.prog W = .ok (.tuple #[.agg cs, t2]) W := by
  obtain ⟨fs, hu⟩ := undR
  rw [results_cell_tmp (p := 2) (u := 3) (ty := 55) (by kernel_rfl), h2, h3]
  have := run_loadVar_row (P := Try.prog) W b 55 55 cs (0, 0) _ hb hu rfl (by rw [infoR, h6])
  simp only [asAddr, Sem.run_pure, Result.andThen, this]
theorem index_ops (w : World) : ∀ (op : Nat), op < 60 → (Instr.index 77 (.agg opsV) (.int .u8 (op : Int))).run Try.prog w = .ok (.agg #[.string (opWd op), .int .i64 (opWi op), .int .u32 (opMo op), .int .i64 (opTa op), .int .i64 (opGi op), .int .u8 (opKi op)]) w
  | 0, _ => by kernel_rfl
  | 1, _ => by kernel_rfl
  | 2, _ => by kernel_rfl
  | 3, _ => by kernel_rfl
  | 4, _ => by kernel_rfl
  | 5, _ => by kernel_rfl
  | 6, _ => by kernel_rfl
  | 7, _ => by kernel_rfl
  | 8, _ => by kernel_rfl
  | 9, _ => by kernel_rfl
  | 10, _ => by kernel_rfl
  | 11, _ => by kernel_rfl
  | 12, _ => by kernel_rfl
  | 13, _ => by kernel_rfl
  | 14, _ => by kernel_rfl
  | 15, _ => by kernel_rfl
  | 16, _ => by kernel_rfl
  | 17, _ => by kernel_rfl
  | 18, _ => by kernel_rfl
  | 19, _ => by kernel_rfl
  | 20, _ => by kernel_rfl
  | 21, _ => by kernel_rfl
  | 22, _ => by kernel_rfl
  | 23, _ => by kernel_rfl
  | 24, _ => by kernel_rfl
  | 25, _ => by kernel_rfl
  | 26, _ => by kernel_rfl
  | 27, _ => by kernel_rfl
  | 28, _ => by kernel_rfl
  | 29, _ => by kernel_rfl
  | 30, _ => by kernel_rfl
  | 31, _ => by kernel_rfl
  | 32, _ => by kernel_rfl
  | 33, _ => by kernel_rfl
  | 34, _ => by kernel_rfl
  | 35, _ => by kernel_rfl
  | 36, _ => by kernel_rfl
  | 37, _ => by kernel_rfl
  | 38, _ => by kernel_rfl
  | 39, _ => by kernel_rfl
  | 40, _ => by kernel_rfl
  | 41, _ => by kernel_rfl
  | 42, _ => by kernel_rfl
  | 43, _ => by kernel_rfl
  | 44, _ => by kernel_rfl
  | 45, _ => by kernel_rfl
  | 46, _ => by kernel_rfl
  | 47, _ => by kernel_rfl
  | 48, _ => by kernel_rfl
  | 49, _ => by kernel_rfl
  | 50, _ => by kernel_rfl
  | 51, _ => by kernel_rfl
  | 52, _ => by kernel_rfl
  | 53, _ => by kernel_rfl
  | 54, _ => by kernel_rfl
  | 55, _ => by kernel_rfl
  | 56, _ => by kernel_rfl
  | 57, _ => by kernel_rfl
  | 58, _ => by kernel_rfl
  | 59, _ => by kernel_rfl
  | n + 60, h => absurd h (by omega)
theorem opT_zero (k : Nat) (h : ¬ (1 ≤ k ∧ k ≤ 59)) : opWd k = ⟨#[]⟩ ∧ opWi k = 0 ∧ opMo k = 0 ∧ opTa k = 0 ∧ opGi k = 0 ∧ opKi k = 0 := by
  have : opT k = ([], 0, 0, 0, 0, 0) := by
    by_cases h0 : k = 0
    · subst h0; rfl
    · have hl : ops.length ≤ k := by show 60 ≤ k; omega
      unfold opT
      rw [List.getD_eq_getElem?_getD, List.getElem?_eq_none hl]
      rfl
  simp [opWd, opWi, opMo, opTa, opGi, opKi, this]
def isOp (k : Nat) : Bool := decide (1 ≤ k ∧ k ≤ 59)
theorem info_any (op : Nat) (w : World) (h : op < 256) :
    Calls Try.prog 15 #[.int .u8 op] w fun e w' => e = .returned (.tuple #[.agg #[.string (opWd op), .int .i64 (opWi op), .int .u32 (opMo op), .int .i64 (opTa op), .int .i64 (opGi op), .int .u8 (opKi op)], .bool (isOp op)]) ∧ Below w.heap.size w w' := by
  by_cases h1 : op = 0
  · subst h1
    go_enter Try.func15, Try.ntmps15
    go_wp2
    refine bodyPost_ret (v := .tuple #[.agg #[.string ⟨#[]⟩, .int .i64 0, .int .u32 0, .int .i64 0, .int .i64 0, .int .u8 0], .bool false]) (rowRes _ _ w.heap.size _ rfl (heap_alloc_last w _) _ rfl rfl) rfl ⟨rfl, bel (Below.refl _ _)⟩
  by_cases h2 : 59 < op
  · have hT := opT_zero op (by omega)
    have hI : isOp op = false := by unfold isOp; exact decide_eq_false (by omega)
    rw [hT.1, hT.2.1, hT.2.2.1, hT.2.2.2.1, hT.2.2.2.2.1, hT.2.2.2.2.2, hI]
    clear hT hI
    have hlt : ¬ ((op : Int) < 1) := by omega
    have hgt : (59 : Int) < op := by omega
    go_enter Try.func15, Try.ntmps15
    go_wp2
    refine bodyPost_ret (v := .tuple #[.agg #[.string ⟨#[]⟩, .int .i64 0, .int .u32 0, .int .i64 0, .int .i64 0, .int .u8 0], .bool false]) (rowRes _ _ w.heap.size _ rfl (heap_alloc_last w _) _ rfl rfl) rfl ⟨rfl, bel (Below.refl _ _)⟩
  have hlt : ¬ ((op : Int) < 1) := by omega
  have hgt : ¬ (59 : Int) < op := by omega
  have hI : isOp op = true := by unfold isOp; exact decide_eq_true (by omega)
  rw [hI]
  clear hI
  have hix := fun w => index_ops w op (by omega)
  generalize opWd op = a0 at hix ⊢
  generalize opWi op = a1 at hix ⊢
  generalize opMo op = a2 at hix ⊢
  generalize opTa op = a3 at hix ⊢
  generalize opGi op = a4 at hix ⊢
  generalize opKi op = a5 at hix ⊢
  go_enter Try.func15, Try.ntmps15
  go_wp2_with (go_at_call 27; refine (ops_any _).mono ?_; rintro e wq ⟨rfl, hq⟩; subst wq; generalize hV : opsV = V at *; clear hV)
  exact bodyPost_ret (rowRes _ _ w.heap.size _ rfl (heap_alloc2_old w _ _) _ rfl rfl) rfl ⟨rfl, bel (bel (Below.refl _ _))⟩
def szV (op arg : Nat) : Nat := if isOp op = false then 0 else if opMo op < arg then 0 else 1 + opWi op
def erV (op arg : Nat) : Nat := if isOp op = false then 70 else if opMo op < arg then 71 else 0
theorem opWi_le (k : Nat) : opWi k ≤ 4 := by
  by_cases h : 1 ≤ k ∧ k ≤ 59
  · have : ∀ j, j < 60 → opWi j ≤ 4 := by decide
    exact this k (by omega)
  · rw [(opT_zero k h).2.1]; omega
theorem opMo_lt (k : Nat) : opMo k < 4294967296 := by
  by_cases h : 1 ≤ k ∧ k ≤ 59
  · have : ∀ j, j < 60 → opMo j < 4294967296 := by decide
    exact this k (by omega)
  · rw [(opT_zero k h).2.2.1]; omega
theorem szV_le (op arg : Nat) : szV op arg ≤ 5 := by
  unfold szV; have := opWi_le op; split
  · omega
  · split <;> omega
/-- a block keeps its cells -/
theorem cellB {w W : World} {cs : Array Value} {t : Nat} (h : Below (w.alloc (.cells cs t)).heap.size (w.alloc (.cells cs t)) W) (i : Nat) : W.cell? ⟨w.heap.size, i, none⟩ = cs[i]? := by
  refine (h.cell (p := ⟨w.heap.size, i, none⟩) (by simp)).trans ?_
  exact World.cell?_alloc_new _ _ _ _
theorem neB {w W : World} {o : Obj} (h : Below (w.alloc o).heap.size (w.alloc o) W) : ¬ w.heap.size = W.heap.size := by
  have := h.size; simp at this; omega
theorem cellC {w W : World} {cs : Array Value} {t : Nat} (h : Below (w.alloc (.cells cs t)).heap.size (w.alloc (.cells cs t)) W) (i : Nat) (v : Value) (hv : cs[i]? = some v) (o : Obj) : (W.alloc o).cell? ⟨w.heap.size, i, none⟩ = some v := by
  rw [World.cell?_alloc_old _ _ _ (by simpa using neB h), cellB h i, hv]
theorem sized_any (op arg : Nat) (w : World) (h : op < 256) :
    Calls Try.prog 23 #[.agg #[.int .u8 op, .int .u32 arg]] w fun e w' => e = .returned (.tuple #[.int .i64 (szV op arg), .int .i64 (erV op arg)]) ∧ Below w.heap.size w w' := by
  have hI := fun w => info_any op w h
  have hWi := opWi_le op
  have hMo := opMo_lt op
  unfold szV erV
  cases hb : isOp op
  · rw [hb] at hI
    generalize opWd op = a0 at *
    generalize opWi op = a1 at *
    generalize opMo op = a2 at *
    generalize opTa op = a3 at *
    generalize opGi op = a4 at *
    generalize opKi op = a5 at *
    clear hb
    go_enter Try.func23, Try.ntmps23
    go_wp2_with (go_at_call 15; refine (hI _).mono ?_; rintro e wq ⟨rfl, hq⟩; have c1 := cellC hq 1 _ rfl)
    go_ret2
    exact ⟨rfl, bel (bt (bel (Below.refl _ _)) hq)⟩
  · rw [hb] at hI
    generalize opWd op = a0 at *
    generalize opWi op = a1 at *
    generalize opMo op = a2 at *
    generalize opTa op = a3 at *
    generalize opGi op = a4 at *
    generalize opKi op = a5 at *
    clear hb
    by_cases hm : a2 < arg
    · rw [if_neg (by simp), if_pos hm, if_neg (by simp), if_pos hm]
      have hm' : (a2 : Int) < arg := by omega
      go_enter Try.func23, Try.ntmps23
      go_wp2_with (go_at_call 15; refine (hI _).mono ?_; rintro e wq ⟨rfl, hq⟩; have c1 := cellC hq 1 _ rfl)
      go_ret2
      exact ⟨rfl, bel (bt (bel (Below.refl _ _)) hq)⟩
    · rw [if_neg (by simp), if_neg hm, if_neg (by simp), if_neg hm]
      have hm' : ¬ (a2 : Int) < arg := by omega
      have hwr : wrap64 (1 + (a1 : Int)) = 1 + a1 := by unfold wrap64; omega
      go_enter Try.func23, Try.ntmps23
      go_wp2_with (go_at_call 15; refine (hI _).mono ?_; rintro e wq ⟨rfl, hq⟩; have c1 := cellC hq 1 _ rfl)
      go_ret2
      exact ⟨by rfl, bel (bt (bel (Below.refl _ _)) hq)⟩
end Go.Proofs.Ytonmoidalkcmoaa
