import Derived.Test.YtcielbkfolklbaaGreatDoorRNo
import Derived.Test.YtcielbkfolklbaaGreatDoorPIn
import Derived.Laws.CopyOwn
import Derived.Laws.ResultCell
namespace Go.Proofs.YtcielbkfolklbaaGreatDoor
open Go.RowKit Go.WideShapes
set_option maxRecDepth 100000
theorem sizeVSt : (Tryz.prog.info? 75).map (·.size) = some 7 := by kernel_rfl
theorem undVSt : ∃ fs, Tryz.prog.underlying 75 = some (.struct fs) := by
  have h : (match Tryz.prog.underlying 75 with | some (.struct _) => true | _ => false) = true := by kernel_rfl
  split at h
  · exact ⟨_, by assumption⟩
  · cases h
theorem resVSt {fn : Func} {p : Tmp} (hf : fn.results = #[.cell p 75]) (W : World) (b : Nat) (cs : Array Value) (hs : cs.size = 7) (hb : W.heap[b]? = some (.cells cs 75)) (tmps : Array Value) (h2 : tmps.getD p undef = .pointer (some ⟨b, 0, none⟩)) :
    (results fn tmps).run Tryz.prog W = .ok (.agg cs) W := by
  obtain ⟨fs, hu⟩ := undVSt
  exact results_cell_row (p := p) (ty := 75) hf tmps W b 75 cs (0, 0) _ h2 hb hu rfl (by rw [sizeVSt, hs])

theorem resWSt {fn : Func} {p u : Tmp} (hf : fn.results = #[.cell p 75, .tmp u]) (t2 : Value) (W : World) (b : Nat) (cs : Array Value) (hs : cs.size = 7) (hb : W.heap[b]? = some (.cells cs 75)) (tmps : Array Value) (h2 : tmps.getD p undef = .pointer (some ⟨b, 0, none⟩)) (h3 : tmps.getD u undef = t2) :
    (results fn tmps).run Tryz.prog W = .ok (.tuple #[.agg cs, t2]) W := by
  obtain ⟨fs, hu⟩ := undVSt
  rw [results_cell_tmp hf, h2, h3]
  have := run_loadVar_row (P := Tryz.prog) W b 75 75 cs (0, 0) _ hb hu rfl (by rw [sizeVSt, hs])
  simp only [asAddr, Sem.run_pure, Result.andThen, this]


theorem sizeVRs : (Tryz.prog.info? 62).map (·.size) = some 11 := by kernel_rfl
theorem undVRs : ∃ fs, Tryz.prog.underlying 62 = some (.struct fs) := by
  have h : (match Tryz.prog.underlying 62 with | some (.struct _) => true | _ => false) = true := by kernel_rfl
  split at h
  · exact ⟨_, by assumption⟩
  · cases h
theorem resVRs {fn : Func} {p : Tmp} (hf : fn.results = #[.cell p 62]) (W : World) (b : Nat) (cs : Array Value) (hs : cs.size = 11) (hb : W.heap[b]? = some (.cells cs 62)) (tmps : Array Value) (h2 : tmps.getD p undef = .pointer (some ⟨b, 0, none⟩)) :
    (results fn tmps).run Tryz.prog W = .ok (.agg cs) W := by
  obtain ⟨fs, hu⟩ := undVRs
  exact results_cell_row (p := p) (ty := 62) hf tmps W b 62 cs (0, 0) _ h2 hb hu rfl (by rw [sizeVRs, hs])

theorem resWRs {fn : Func} {p u : Tmp} (hf : fn.results = #[.cell p 62, .tmp u]) (t2 : Value) (W : World) (b : Nat) (cs : Array Value) (hs : cs.size = 11) (hb : W.heap[b]? = some (.cells cs 62)) (tmps : Array Value) (h2 : tmps.getD p undef = .pointer (some ⟨b, 0, none⟩)) (h3 : tmps.getD u undef = t2) :
    (results fn tmps).run Tryz.prog W = .ok (.tuple #[.agg cs, t2]) W := by
  obtain ⟨fs, hu⟩ := undVRs
  rw [results_cell_tmp hf, h2, h3]
  have := run_loadVar_row (P := Tryz.prog) W b 62 62 cs (0, 0) _ hb hu rfl (by rw [sizeVRs, hs])
  simp only [asAddr, Sem.run_pure, Result.andThen, this]


theorem sizeVEv : (Tryz.prog.info? 60).map (·.size) = some 4 := by kernel_rfl
theorem undVEv : ∃ fs, Tryz.prog.underlying 60 = some (.struct fs) := by
  have h : (match Tryz.prog.underlying 60 with | some (.struct _) => true | _ => false) = true := by kernel_rfl
  split at h
  · exact ⟨_, by assumption⟩
  · cases h
theorem resVEv {fn : Func} {p : Tmp} (hf : fn.results = #[.cell p 60]) (W : World) (b : Nat) (cs : Array Value) (hs : cs.size = 4) (hb : W.heap[b]? = some (.cells cs 60)) (tmps : Array Value) (h2 : tmps.getD p undef = .pointer (some ⟨b, 0, none⟩)) :
    (results fn tmps).run Tryz.prog W = .ok (.agg cs) W := by
  obtain ⟨fs, hu⟩ := undVEv
  exact results_cell_row (p := p) (ty := 60) hf tmps W b 60 cs (0, 0) _ h2 hb hu rfl (by rw [sizeVEv, hs])

theorem resWEv {fn : Func} {p u : Tmp} (hf : fn.results = #[.cell p 60, .tmp u]) (t2 : Value) (W : World) (b : Nat) (cs : Array Value) (hs : cs.size = 4) (hb : W.heap[b]? = some (.cells cs 60)) (tmps : Array Value) (h2 : tmps.getD p undef = .pointer (some ⟨b, 0, none⟩)) (h3 : tmps.getD u undef = t2) :
    (results fn tmps).run Tryz.prog W = .ok (.tuple #[.agg cs, t2]) W := by
  obtain ⟨fs, hu⟩ := undVEv
  rw [results_cell_tmp hf, h2, h3]
  have := run_loadVar_row (P := Tryz.prog) W b 60 60 cs (0, 0) _ hb hu rfl (by rw [sizeVEv, hs])
  simp only [asAddr, Sem.run_pure, Result.andThen, this]


theorem sizeVBo : (Tryz.prog.info? 137).map (·.size) = some 3 := by kernel_rfl
theorem undVBo : ∃ fs, Tryz.prog.underlying 137 = some (.struct fs) := by
  have h : (match Tryz.prog.underlying 137 with | some (.struct _) => true | _ => false) = true := by kernel_rfl
  split at h
  · exact ⟨_, by assumption⟩
  · cases h
theorem resVBo {fn : Func} {p : Tmp} (hf : fn.results = #[.cell p 137]) (W : World) (b : Nat) (cs : Array Value) (hs : cs.size = 3) (hb : W.heap[b]? = some (.cells cs 137)) (tmps : Array Value) (h2 : tmps.getD p undef = .pointer (some ⟨b, 0, none⟩)) :
    (results fn tmps).run Tryz.prog W = .ok (.agg cs) W := by
  obtain ⟨fs, hu⟩ := undVBo
  exact results_cell_row (p := p) (ty := 137) hf tmps W b 137 cs (0, 0) _ h2 hb hu rfl (by rw [sizeVBo, hs])

theorem resWBo {fn : Func} {p u : Tmp} (hf : fn.results = #[.cell p 137, .tmp u]) (t2 : Value) (W : World) (b : Nat) (cs : Array Value) (hs : cs.size = 3) (hb : W.heap[b]? = some (.cells cs 137)) (tmps : Array Value) (h2 : tmps.getD p undef = .pointer (some ⟨b, 0, none⟩)) (h3 : tmps.getD u undef = t2) :
    (results fn tmps).run Tryz.prog W = .ok (.tuple #[.agg cs, t2]) W := by
  obtain ⟨fs, hu⟩ := undVBo
  rw [results_cell_tmp hf, h2, h3]
  have := run_loadVar_row (P := Tryz.prog) W b 137 137 cs (0, 0) _ hb hu rfl (by rw [sizeVBo, hs])
  simp only [asAddr, Sem.run_pure, Result.andThen, this]


/-- the zero state -/
def stZ : Array Value := #[.int .u8 0, .int .u32 0, .int .u32 0, .slice none 0 0, .slice none 0 0, .int .u32 0, .int .u8 0]
/-- the zero result -/
def rsZ : Array Value := #[.int .u8 0, .int .u32 0, .int .u32 0, .int .u8 0, .int .i64 0, .int .i64 0, .slice none 0 0, .int .u32 0, .int .u32 0, .slice none 0 0, .int .u32 0]
theorem fresh_no (v : Value) (w : World) (h : NoMd w v) : Calls Tryz.prog 35 #[v] w fun e w' => e = .returned (.tuple #[.agg stZ, .int .i64 1]) ∧ Below w.heap.size w w' := by
  have hM := fun o => isnone_no v (w.alloc o) (h.below ((Below.refl _ _).alloc (Nat.le_refl _) o))
  clear h
  go_enter Tryz.func35, Tryz.ntmps35
  go_wp2_with (go_at_call 56; with_reducible refine (hM _).mono ?_; rintro e wq ⟨rfl, hq⟩; subst wq)
  refine bodyPost_ret (resWSt (p := 2) (u := 3) (by kernel_rfl) (.int .i64 1) _ w.heap.size stZ rfl (heap_alloc_last w _) _ rfl rfl) rfl ?_
  exact ⟨rfl, belP (Below.refl _ _)⟩
end Go.Proofs.YtcielbkfolklbaaGreatDoor
