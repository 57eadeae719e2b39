import Derived.Test.YtnalnlbainghoaaGreatDoorCITab
namespace Go.Proofs.YtnalnlbainghoaaGreatDoor
open Go.RowKit
set_option maxRecDepth 100000

def szV (op arg : Nat) : Nat := if isOp op = false then 0 else if opMo op < arg then 0 else 1 + opWi op
def erV (op arg : Nat) : Nat := if isOp op = false then 70 else if opMo op < arg then 71 else 0
theorem opWi_le (k : Nat) : opWi k ≤ 4 := by
  by_cases h : 1 ≤ k ∧ k ≤ 59
  · have : ∀ j, j < 60 → opWi j ≤ 4 := by decide
    exact this k (by omega)
  · rw [(opT_zero k h).2.1]; omega
theorem opMo_lt (k : Nat) : opMo k < 4294967296 := by
  by_cases h : 1 ≤ k ∧ k ≤ 59
  · have : ∀ j, j < 60 → opMo j < 4294967296 := by decide
    exact this k (by omega)
  · rw [(opT_zero k h).2.2.1]; omega
theorem szV_le (op arg : Nat) : szV op arg ≤ 5 := by
  unfold szV; have := opWi_le op; split
  · omega
  · split <;> omega
/-- a block keeps its cells -/
theorem cellB {w W : World} {cs : Array Value} {t : Nat} (h : Below (w.alloc (.cells cs t)).heap.size (w.alloc (.cells cs t)) W) (i : Nat) : W.cell? ⟨w.heap.size, i, none⟩ = cs[i]? := by
  refine (h.cell (p := ⟨w.heap.size, i, none⟩) (by simp)).trans ?_
  exact World.cell?_alloc_new _ _ _ _
theorem neB {w W : World} {o : Obj} (h : Below (w.alloc o).heap.size (w.alloc o) W) : ¬ w.heap.size = W.heap.size := by
  have := h.size; simp at this; omega
theorem cellC {w W : World} {cs : Array Value} {t : Nat} (h : Below (w.alloc (.cells cs t)).heap.size (w.alloc (.cells cs t)) W) (i : Nat) (v : Value) (hv : cs[i]? = some v) (o : Obj) : (W.alloc o).cell? ⟨w.heap.size, i, none⟩ = some v := by
  rw [World.cell?_alloc_old _ _ _ (by simpa using neB h), cellB h i, hv]
set_option maxHeartbeats 1000000 in
theorem sized_any (op arg : Nat) (w : World) (h : op < 256) :
    Calls Tryz.prog 64 #[.agg #[.int .u8 op, .int .u32 arg]] w fun e w' => e = .returned (.tuple #[.int .i64 (szV op arg), .int .i64 (erV op arg)]) ∧ Below w.heap.size w w' := by
  have hI := fun w => info_any op w h
  have hWi := opWi_le op
  have hMo := opMo_lt op
  unfold szV erV
  cases hb : isOp op
  · rw [hb] at hI
    generalize opWd op = a0 at *
    generalize opWi op = a1 at *
    generalize opMo op = a2 at *
    generalize opTa op = a3 at *
    generalize opGi op = a4 at *
    generalize opKi op = a5 at *
    clear hb
    go_enter Tryz.func64, Tryz.ntmps64
    go_wp2_with (go_at_call 92; refine (hI _).mono ?_; rintro e wq ⟨rfl, hq⟩; have c1 := cellC hq 1 _ rfl)
    go_ret2
    exact ⟨rfl, bel (bt (bel (Below.refl _ _)) hq)⟩
  · rw [hb] at hI
    generalize opWd op = a0 at *
    generalize opWi op = a1 at *
    generalize opMo op = a2 at *
    generalize opTa op = a3 at *
    generalize opGi op = a4 at *
    generalize opKi op = a5 at *
    clear hb
    by_cases hm : a2 < arg
    · rw [if_neg (by simp), if_pos hm, if_neg (by simp), if_pos hm]
      have hm' : (a2 : Int) < arg := by omega
      go_enter Tryz.func64, Tryz.ntmps64
      go_wp2_with (go_at_call 92; refine (hI _).mono ?_; rintro e wq ⟨rfl, hq⟩; have c1 := cellC hq 1 _ rfl)
      go_ret2
      exact ⟨rfl, bel (bt (bel (Below.refl _ _)) hq)⟩
    · rw [if_neg (by simp), if_neg hm, if_neg (by simp), if_neg hm]
      have hm' : ¬ (a2 : Int) < arg := by omega
      have hwr : wrap64 (1 + (a1 : Int)) = 1 + a1 := by unfold wrap64; omega
      go_enter Tryz.func64, Tryz.ntmps64
      go_wp2_with (go_at_call 92; refine (hI _).mono ?_; rintro e wq ⟨rfl, hq⟩; have c1 := cellC hq 1 _ rfl)
      go_ret2
      exact ⟨by rfl, bel (bt (bel (Below.refl _ _)) hq)⟩
end Go.Proofs.YtnalnlbainghoaaGreatDoor
namespace Go.Proofs.YtnalnlbainghoaaGreatDoor
open Go.RowKit
set_option maxRecDepth 100000

def wordsV : Array Value := ((List.range 60).map fun k => Value.string (opWd k)).toArray
def wordsZ : Array Value := (List.replicate 60 (Value.string ⟨#[]⟩)).toArray
theorem upon_value_of {P : Program} {o : Oper} {a : Act} {next : Act → World → Prop} {Q : Exit → Act → World → Prop} {w : World} (v : Value) (w' : World)
    (hr : (execOp a.eval o).run P w = .ok (.value v) w') (h : next (a.put o.dst v) w') : o.upon P a next Q ((execOp a.eval o).run P w) := by
  rw [hr]; exact h
theorem upon_skip_of {P : Program} {o : Oper} {a : Act} {next : Act → World → Prop} {Q : Exit → Act → World → Prop} {w : World} (w' : World)
    (hr : (execOp a.eval o).run P w = .ok .skip w') (h : next (a.put o.dst undef) w') : o.upon P a next Q ((execOp a.eval o).run P w) := by
  rw [hr]; exact h
theorem wp_act_eq {P : Program} {c : Code} {Q : Exit → Act → World → Prop} {a : Act} {w : World} (a' : Act) (h : a = a') (hw : c.wp P Q a' w) : c.wp P Q a w := by
  rw [h]; exact hw
theorem store_new (o : Oper) (t : Nat) (p q : Operand) (ho : o.op = .store t p q) (a : Act) (w : World) (cs cs' : Array Value) (h0 : a.eval p = .pointer (some ⟨w.heap.size, 0, none⟩)) (h1 : a.eval q = .agg cs')
    (hi : (Tryz.prog.info? t).map (·.size) = some cs'.size) (hs : cs.size = cs'.size) (h2 : cs'.all (·.oneCell') = true) :
    (execOp a.eval o).run Tryz.prog (w.alloc (.cells cs t)) = .ok .skip (w.alloc (.cells cs' t)) := by
  have := run_storeAt_new (P := Tryz.prog) w t cs cs' hi hs h2
  simp only [execOp, ho, h0, h1, Sem.run_bind, this, Result.andThen, Sem.run_pure]
theorem alloc_new (o : Oper) (t : Nat) (ho : o.op = .alloc t) (a : Act) (w : World) (cs : Array Value) (hz : ∀ w, (zeroValue t).run Tryz.prog w = .ok (.agg cs) w) :
    (execOp a.eval o).run Tryz.prog w = .ok (.value (.pointer (some ⟨w.heap.size, 0, none⟩))) (w.alloc (.cells cs t)) := by
  simp [execOp, ho, Instr.alloc, hz, Result.andThen, go_sem]
theorem wordsV_all : wordsV.all (·.oneCell') = true := by kernel_rfl
theorem wordsV_size : wordsV.size = 60 := by kernel_rfl
theorem wordsZ_size : wordsZ.size = 60 := by kernel_rfl
theorem wordsV_get (k : Nat) (h : k < 60) : wordsV[k]? = some (.string (opWd k)) := by
  unfold wordsV
  rw [List.getElem?_toArray, List.getElem?_map, List.getElem?_range h]
  rfl
end Go.Proofs.YtnalnlbainghoaaGreatDoor
namespace Go.Proofs.YtnalnlbainghoaaGreatDoor
open Go.RowKit
set_option maxRecDepth 100000
theorem heap3 (w : World) (A B C : Obj) : (((w.alloc A).alloc B).alloc C).heap[w.heap.size]? = some A := by
  rw [Below.heap_alloc _ _ _ (by simp; omega), Below.heap_alloc _ _ _ (by simp)]
  exact heap_alloc_last w A
theorem rowRs {fn : Func} (hres : fn.results = #[.cell 2 151, .tmp 3]) (t2 : Value) (W : World) (b : Nat) (cs : Array Value) (h6 : cs.size = 6) (hb : W.heap[b]? = some (.cells cs 151)) (tmps : Array Value) (h2 : tmps.getD 2 undef = .pointer (some ⟨b, 0, none⟩)) (h3 : tmps.getD 3 undef = t2) :
    (results fn tmps).run Tryz.prog W = .ok (.tuple #[.agg cs, t2]) W := by
  obtain ⟨fs, hu⟩ := undR
  rw [results_cell_tmp hres, h2, h3]
  have := run_loadVar_row (P := Tryz.prog) W b 151 151 cs (0, 0) _ hb hu rfl (by rw [infoR, h6])
  simp only [asAddr, Sem.run_pure, Result.andThen, this]
end Go.Proofs.YtnalnlbainghoaaGreatDoor
namespace Go.Proofs.YtnalnlbainghoaaGreatDoor
open Go.RowKit
set_option maxRecDepth 100000
end Go.Proofs.YtnalnlbainghoaaGreatDoor
namespace Go.Proofs.YtnalnlbainghoaaGreatDoor
open Go.RowKit
set_option maxRecDepth 100000
end Go.Proofs.YtnalnlbainghoaaGreatDoor
namespace Go.Proofs.YtnalnlbainghoaaGreatDoor
open Go.RowKit
set_option maxRecDepth 100000
end Go.Proofs.YtnalnlbainghoaaGreatDoor
namespace Go.Proofs.YtnalnlbainghoaaGreatDoor
open Go.RowKit
set_option maxRecDepth 100000
end Go.Proofs.YtnalnlbainghoaaGreatDoor
namespace Go.Proofs.YtnalnlbainghoaaGreatDoor
open Go.RowKit
set_option maxRecDepth 100000
end Go.Proofs.YtnalnlbainghoaaGreatDoor
namespace Go.Proofs.YtnalnlbainghoaaGreatDoor
open Go.RowKit
set_option maxRecDepth 100000
end Go.Proofs.YtnalnlbainghoaaGreatDoor
namespace Go.Proofs.YtnalnlbainghoaaGreatDoor
open Go.RowKit
set_option maxRecDepth 100000
end Go.Proofs.YtnalnlbainghoaaGreatDoor
namespace Go.Proofs.YtnalnlbainghoaaGreatDoor
open Go.RowKit
set_option maxRecDepth 100000

set_option maxHeartbeats 1000000 in
theorem check_any (op arg : Nat) (w : World) (h : op < 256) :
    Calls Tryz.prog 61 #[.agg #[.int .u8 op, .int .u32 arg]] w fun e w' => e = .returned (.int .i64 (erV op arg)) ∧ Below w.heap.size w w' := by
  have hI := fun w => sized_any op arg w h
  go_enter Tryz.func61, Tryz.ntmps61
  go_wp2_with (go_at_call 64; refine (hI _).mono ?_; rintro e wq ⟨rfl, hq⟩)
  go_ret
  exact ⟨rfl, bt (bel (Below.refl _ _)) hq⟩
theorem sz_of_er (op arg : Nat) (h : ¬ erV op arg = 0) : szV op arg = 0 := by
  unfold erV at h; unfold szV
  split at h
  · rw [if_pos (by assumption)]
  · rw [if_neg (by assumption)]
    split at h
    · rw [if_pos (by assumption)]
    · exact absurd rfl h
theorem sz_ok (op arg : Nat) (h : erV op arg = 0) : szV op arg = 1 + opWi op := by
  unfold erV at h; unfold szV
  split at h
  · cases h
  · rw [if_neg (by assumption)]
    split at h
    · cases h
    · rw [if_neg (by assumption)]
end Go.Proofs.YtnalnlbainghoaaGreatDoor
