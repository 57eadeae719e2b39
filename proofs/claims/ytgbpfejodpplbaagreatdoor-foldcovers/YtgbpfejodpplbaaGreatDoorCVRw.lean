import Derived.Test.YtgbpfejodpplbaaGreatDoorCPIn
import Derived.Laws.CopyOwn
import Derived.Laws.ResultCell
import Derived.Test.YtgbpfejodpplbaaGreatDoorCVCl
import Derived.Test.YtgbpfejodpplbaaGreatDoorCVCk
import Derived.Test.YtgbpfejodpplbaaGreatDoorCPPr
import Derived.Deep.RegionWith
namespace Go.Proofs.YtgbpfejodpplbaaGreatDoor
open Go.RowKit Go.WideShapes
set_option maxRecDepth 100000
theorem wpList_store_rowV {P : Program} {ops : Array Oper} {Q : Exit → Act → World → Prop} {rest : List Oper} {o : Oper} {a : Act} {w : World} (hg : o.guard = none) (t : TypeId) (p q : Operand) (ho : o.op = .store t p q)
    (b : Nat) (cs cs' : Array Value) (h0 : a.eval p = .pointer (some ⟨b, 0, none⟩)) (h1 : a.eval q = .agg cs') (hb : w.heap[b]? = some (.cells cs t)) (hi : (P.info? t).map (·.size) = some cs'.size) (hs : cs.size = cs'.size) (h2 : cs'.all (·.oneCell') = true)
    (h : wpList P ops Q rest (a.put o.dst undef) (w.setRow b cs')) : wpList P ops Q (o :: rest) a w := by
  refine wpList_plain hg fun _ hK => ?_
  have := run_storeVar_row (P := P) w b t t cs cs' hb hi hs h2
  unfold Oper.wp
  have hr : (execOp a.eval o).run P w = .ok .skip (w.setRow b cs') := by
    simp only [execOp, ho, h0, h1, Instr.storeAt, Instr.sureAddr, Sem.run_bind, Sem.run_pure, Result.andThen, this]
  rw [hr]
  exact hK _ _ h

theorem sizeVIm : (Tryz.prog.info? 28).map (·.size) = some 6 := by kernel_rfl
theorem undVIm : ∃ fs, Tryz.prog.underlying 28 = some (.struct fs) := by
  have h : (match Tryz.prog.underlying 28 with | some (.struct _) => true | _ => false) = true := by kernel_rfl
  split at h
  · exact ⟨_, by assumption⟩
  · cases h
theorem resVIm {fn : Func} {p : Tmp} (hf : fn.results = #[.cell p 28]) (W : World) (b : Nat) (cs : Array Value) (hs : cs.size = 6) (hb : W.heap[b]? = some (.cells cs 28)) (tmps : Array Value) (h2 : tmps.getD p undef = .pointer (some ⟨b, 0, none⟩)) :
    (results fn tmps).run Tryz.prog W = .ok (.agg cs) W := by
  obtain ⟨fs, hu⟩ := undVIm
  exact results_cell_row (p := p) (ty := 28) hf tmps W b 28 cs (0, 0) _ h2 hb hu rfl (by rw [sizeVIm, hs])

theorem sizeVPd : (Tryz.prog.info? 57).map (·.size) = some 2 := by kernel_rfl
theorem undVPd : ∃ fs, Tryz.prog.underlying 57 = some (.struct fs) := by
  have h : (match Tryz.prog.underlying 57 with | some (.struct _) => true | _ => false) = true := by kernel_rfl
  split at h
  · exact ⟨_, by assumption⟩
  · cases h
theorem resVPd {fn : Func} {p : Tmp} (hf : fn.results = #[.cell p 57]) (W : World) (b : Nat) (cs : Array Value) (hs : cs.size = 2) (hb : W.heap[b]? = some (.cells cs 57)) (tmps : Array Value) (h2 : tmps.getD p undef = .pointer (some ⟨b, 0, none⟩)) :
    (results fn tmps).run Tryz.prog W = .ok (.agg cs) W := by
  obtain ⟨fs, hu⟩ := undVPd
  exact results_cell_row (p := p) (ty := 57) hf tmps W b 57 cs (0, 0) _ h2 hb hu rfl (by rw [sizeVPd, hs])

theorem sizeVPr : (Tryz.prog.info? 94).map (·.size) = some 4 := by kernel_rfl
theorem undVPr : ∃ fs, Tryz.prog.underlying 94 = some (.struct fs) := by
  have h : (match Tryz.prog.underlying 94 with | some (.struct _) => true | _ => false) = true := by kernel_rfl
  split at h
  · exact ⟨_, by assumption⟩
  · cases h
theorem resVPr {fn : Func} {p : Tmp} (hf : fn.results = #[.cell p 94]) (W : World) (b : Nat) (cs : Array Value) (hs : cs.size = 4) (hb : W.heap[b]? = some (.cells cs 94)) (tmps : Array Value) (h2 : tmps.getD p undef = .pointer (some ⟨b, 0, none⟩)) :
    (results fn tmps).run Tryz.prog W = .ok (.agg cs) W := by
  obtain ⟨fs, hu⟩ := undVPr
  exact results_cell_row (p := p) (ty := 94) hf tmps W b 94 cs (0, 0) _ h2 hb hu rfl (by rw [sizeVPr, hs])

theorem sizeVIn : (Tryz.prog.info? 43).map (·.size) = some 2 := by kernel_rfl
theorem undVIn : ∃ fs, Tryz.prog.underlying 43 = some (.struct fs) := by
  have h : (match Tryz.prog.underlying 43 with | some (.struct _) => true | _ => false) = true := by kernel_rfl
  split at h
  · exact ⟨_, by assumption⟩
  · cases h
theorem resVIn {fn : Func} {p : Tmp} (hf : fn.results = #[.cell p 43]) (W : World) (b : Nat) (cs : Array Value) (hs : cs.size = 2) (hb : W.heap[b]? = some (.cells cs 43)) (tmps : Array Value) (h2 : tmps.getD p undef = .pointer (some ⟨b, 0, none⟩)) :
    (results fn tmps).run Tryz.prog W = .ok (.agg cs) W := by
  obtain ⟨fs, hu⟩ := undVIn
  exact results_cell_row (p := p) (ty := 43) hf tmps W b 43 cs (0, 0) _ h2 hb hu rfl (by rw [sizeVIn, hs])

theorem resWIm {fn : Func} {p u : Tmp} (hf : fn.results = #[.cell p 28, .tmp u]) (t2 : Value) (W : World) (b : Nat) (cs : Array Value) (hs : cs.size = 6) (hb : W.heap[b]? = some (.cells cs 28)) (tmps : Array Value) (h2 : tmps.getD p undef = .pointer (some ⟨b, 0, none⟩)) (h3 : tmps.getD u undef = t2) :
    (results fn tmps).run Tryz.prog W = .ok (.tuple #[.agg cs, t2]) W := by
  obtain ⟨fs, hu⟩ := undVIm
  rw [results_cell_tmp hf, h2, h3]
  have := run_loadVar_row (P := Tryz.prog) W b 28 28 cs (0, 0) _ hb hu rfl (by rw [sizeVIm, hs])
  simp only [asAddr, Sem.run_pure, Result.andThen, this]

theorem resWPd {fn : Func} {p u : Tmp} (hf : fn.results = #[.cell p 57, .tmp u]) (t2 : Value) (W : World) (b : Nat) (cs : Array Value) (hs : cs.size = 2) (hb : W.heap[b]? = some (.cells cs 57)) (tmps : Array Value) (h2 : tmps.getD p undef = .pointer (some ⟨b, 0, none⟩)) (h3 : tmps.getD u undef = t2) :
    (results fn tmps).run Tryz.prog W = .ok (.tuple #[.agg cs, t2]) W := by
  obtain ⟨fs, hu⟩ := undVPd
  rw [results_cell_tmp hf, h2, h3]
  have := run_loadVar_row (P := Tryz.prog) W b 57 57 cs (0, 0) _ hb hu rfl (by rw [sizeVPd, hs])
  simp only [asAddr, Sem.run_pure, Result.andThen, this]

theorem resWPr {fn : Func} {p u : Tmp} (hf : fn.results = #[.cell p 94, .tmp u]) (t2 : Value) (W : World) (b : Nat) (cs : Array Value) (hs : cs.size = 4) (hb : W.heap[b]? = some (.cells cs 94)) (tmps : Array Value) (h2 : tmps.getD p undef = .pointer (some ⟨b, 0, none⟩)) (h3 : tmps.getD u undef = t2) :
    (results fn tmps).run Tryz.prog W = .ok (.tuple #[.agg cs, t2]) W := by
  obtain ⟨fs, hu⟩ := undVPr
  rw [results_cell_tmp hf, h2, h3]
  have := run_loadVar_row (P := Tryz.prog) W b 94 94 cs (0, 0) _ hb hu rfl (by rw [sizeVPr, hs])
  simp only [asAddr, Sem.run_pure, Result.andThen, this]

theorem resWIn {fn : Func} {p u : Tmp} (hf : fn.results = #[.cell p 43, .tmp u]) (t2 : Value) (W : World) (b : Nat) (cs : Array Value) (hs : cs.size = 2) (hb : W.heap[b]? = some (.cells cs 43)) (tmps : Array Value) (h2 : tmps.getD p undef = .pointer (some ⟨b, 0, none⟩)) (h3 : tmps.getD u undef = t2) :
    (results fn tmps).run Tryz.prog W = .ok (.tuple #[.agg cs, t2]) W := by
  obtain ⟨fs, hu⟩ := undVIn
  rw [results_cell_tmp hf, h2, h3]
  have := run_loadVar_row (P := Tryz.prog) W b 43 43 cs (0, 0) _ hb hu rfl (by rw [sizeVIn, hs])
  simp only [asAddr, Sem.run_pure, Result.andThen, this]

end Go.Proofs.YtgbpfejodpplbaaGreatDoor
namespace Go.Proofs.YtgbpfejodpplbaaGreatDoor
open Go.RowKit Go.WideShapes
set_option maxRecDepth 100000

/-- names as they lie in memory -/
def nmv (M : List (ByteArray × Nat)) : List Value := M.flatMap fun p => [.string p.1, .int .u32 (p.2 : Nat)]
theorem get2 {α : Type} (f g : α → Value) (d : α) : ∀ (L : List α) (k : Nat), k < L.length → (L.flatMap fun p => [f p, g p])[k * 2]? = some (f (L.getD k d)) ∧ (L.flatMap fun p => [f p, g p])[k * 2 + 1]? = some (g (L.getD k d))
  | [], k, h => by simp at h
  | a :: t, 0, _ => ⟨rfl, rfl⟩
  | a :: t, k + 1, h => by
    have := get2 f g d t k (by simpa using h)
    rw [show (k + 1) * 2 = k * 2 + 2 by omega]
    simpa using this
theorem len2 {α : Type} (f g : α → Value) (L : List α) : (L.flatMap fun p => [f p, g p]).length = L.length * 2 := by
  induction L with
  | nil => rfl
  | cons a t ih => simp only [List.flatMap_cons, List.length_append, List.length_cons, List.length_nil, ih]; omega
theorem one2 {α : Type} (f g : α → Value) (hf : ∀ a, (f a).oneCell' = true) (hg : ∀ a, (g a).oneCell' = true) (L : List α) : ∀ u ∈ (L.flatMap fun p => [f p, g p]), u.oneCell' = true := by
  intro u hu
  obtain ⟨p, _, hp⟩ := List.mem_flatMap.1 hu
  simp only [List.mem_cons, List.not_mem_nil, or_false] at hp
  rcases hp with rfl | rfl
  · exact hf p
  · exact hg p
theorem flat2 {α : Type} (f g : α → Value) (d : α) (L : List α) (w : World) (b off : Nat) (h : ∀ k, k < L.length → w.cell? ⟨b, off + k * 2, none⟩ = some (f (L.getD k d)) ∧ w.cell? ⟨b, off + k * 2 + 1, none⟩ = some (g (L.getD k d))) :
    ∀ j u, (L.flatMap fun p => [f p, g p])[j]? = some u → w.cell? ⟨b, off + j, none⟩ = some u := by
  intro j u hj
  have hl : j < L.length * 2 := by
    have := (List.getElem?_eq_some_iff.1 hj).1
    rwa [len2] at this
  obtain ⟨c0, c1⟩ := h (j / 2) (by omega)
  obtain ⟨s0, s1⟩ := get2 f g d L (j / 2) (by omega)
  rcases Nat.mod_two_eq_zero_or_one j with q | q
  · have e : j / 2 * 2 = j := by omega
    rw [e] at c0 s0
    rw [c0, ← hj, s0]
  · have e : j / 2 * 2 + 1 = j := by omega
    rw [Nat.add_assoc, e] at c1
    rw [e] at s1
    rw [c1, ← hj, s1]
/-- an image of our own in memory -/
structure ImO (w : World) (B : Nat) (a1 : Option Addr) (c1 : Nat) (a2 : Option Addr) (c2 : Nat) (a3 : Option Addr) (c3 : Nat) (a4 : Option Addr) (c4 : Nat) (L : List (Nat × Nat)) (J : List Nat) (ds : List Int) (M : List (ByteArray × Nat)) : Prop where
  k1 : L.length ≤ c1
  k2 : J.length ≤ c2
  k3 : ds.length ≤ c3
  k4 : M.length ≤ c4
  code : 0 < L.length → w.ownsRow B 43 2 (.slice a1 L.length c1) L.length (cv L)
  jumps : 0 < J.length → w.ownsRow B 25 1 (.slice a2 J.length c2) J.length (dv J)
  data : 0 < ds.length → w.ownsRow B 5 1 (.slice a3 ds.length c3) ds.length (bv ds)
  names : 0 < M.length → w.ownsRow B 64 2 (.slice a4 M.length c4) M.length (nmv M)
theorem own_belowW {w w' : World} {B e sz n : Nat} {v : Value} {xs : List Value} (h : w.ownsRow B e sz v n xs) (hb : Below w.heap.size w w') : w'.ownsRow B e sz v n xs := by
  have hl := h.lt
  refine ⟨h.1, ?_⟩
  rcases h.2 with ⟨a, b⟩ | ⟨g, cap, cur, a, b, c, d⟩
  · exact .inl ⟨a, b⟩
  · exact .inr ⟨g, cap, cur, a, b, (hb.block g (hl g (by rw [a]; rfl)).2).trans c, d⟩
theorem ImO.below {w w' : World} {B : Nat} {a1 : Option Addr} {c1 : Nat} {a2 : Option Addr} {c2 : Nat} {a3 : Option Addr} {c3 : Nat} {a4 : Option Addr} {c4 : Nat} {L : List (Nat × Nat)} {J : List Nat} {ds : List Int} {M : List (ByteArray × Nat)} (h : ImO w B a1 c1 a2 c2 a3 c3 a4 c4 L J ds M) (hb : Below w.heap.size w w') : ImO w' B a1 c1 a2 c2 a3 c3 a4 c4 L J ds M :=
  ⟨h.k1, h.k2, h.k3, h.k4, fun q => own_belowW (h.code q) hb, fun q => own_belowW (h.jumps q) hb, fun q => own_belowW (h.data q) hb, fun q => own_belowW (h.names q) hb⟩
/-- what cloned leaves -/
def CdP (w : World) (L : List (Nat × Nat)) (J : List Nat) (ds : List Int) (z st : Nat) (M : List (ByteArray × Nat)) (e : Ending) (w' : World) : Prop :=
  ∃ a1 c1 a2 c2 a3 c3 a4 c4, e = .returned (imV a1 L.length c1 a2 J.length c2 a3 ds.length c3 z st a4 M.length c4) ∧ ImO w' w.heap.size a1 c1 a2 c2 a3 c3 a4 c4 L J ds M ∧ Below w.heap.size w w'
theorem own_monoV {w : World} {B B' e sz n : Nat} {v : Value} {xs : List Value} (h : w.ownsRow B e sz v n xs) (hle : B' ≤ B) : w.ownsRow B' e sz v n xs :=
  ⟨h.1, h.2.imp id (fun ⟨g, cap, cur, a, b, c⟩ => ⟨g, cap, cur, a, Nat.le_trans hle b, c⟩)⟩
theorem own_same {w : World} {B e sz g n c i : Nat} {xs : List Value} {v : Value} (h : w.ownsRow B e sz (.slice (some ⟨g, 0, none⟩) n c) n xs) (hv : xs[i]? = some v) : (w.setCell ⟨g, i, none⟩ v).ownsRow B e sz (.slice (some ⟨g, 0, none⟩) n c) n xs := by
  rcases h with ⟨hl, ⟨hn, _⟩ | ⟨g', cap', cur', e1, e2, e3, e4, e5, e6, e7⟩⟩
  · cases hn
  · cases e1
    refine ⟨hl, .inr ⟨g, c, cur'.setIfInBounds i v, rfl, e2, ?_, e4, e5, by simp [e6], ?_⟩⟩
    · rw [heap_setCell_same w g i _ _ _ e3]
    · rw [Array.toList_setIfInBounds, List.take_set, e7]
      exact List.ext_getElem? fun j => by
        rw [List.getElem?_set]
        by_cases hj : i = j
        · subst hj
          rw [if_pos rfl, hv, if_pos (List.getElem?_eq_some_iff.1 hv).1]
        · rw [if_neg hj]
/-- the boxes of cloned -/
structure Bx (w : World) (W : World) (cs : Array Value) : Prop where
  o1 : W.heap[w.heap.size]? = some (.cells cs 28 (0, 0))
  o2 : W.heap[w.heap.size + 1]? = some (.cells #[.slice none 0 0, .slice none 0 0, .slice none 0 0, .int .u32 0, .int .u32 0, .slice none 0 0] 28 (0, 0))
  bl : Below w.heap.size w W
theorem Bx.call {w W W' : World} {cs : Array Value} (h : Bx w W cs) (hb : Below W.heap.size W W') : Bx w W' cs :=
  ⟨(hb.block _ (Array.getElem?_eq_some_iff.1 h.o1).1).trans h.o1, (hb.block _ (Array.getElem?_eq_some_iff.1 h.o2).1).trans h.o2, h.bl.trans (hb.mono h.bl.size)⟩
theorem Bx.set {w W : World} {cs : Array Value} (h : Bx w W cs) (i : Nat) (v : Value) : Bx w (W.setCell ⟨w.heap.size, i, none⟩ v) (cs.setIfInBounds i v) :=
  ⟨heap_setCell_same W _ i _ _ _ h.o1, (Below.heap_setCell _ _ _ _ (by show w.heap.size + 1 ≠ w.heap.size; omega)).trans h.o2, h.bl.setCell (Nat.le_refl _) _⟩
theorem Bx.cell {w W : World} {cs : Array Value} (h : Bx w W cs) (i : Nat) : W.cell? ⟨w.heap.size, i, none⟩ = cs[i]? := obj_cell h.o1 i
theorem Bx.thaw {w W : World} {cs : Array Value} (h : Bx w W cs) (i : Nat) : W.frozen? ⟨w.heap.size, i, none⟩ = false := obj_frozen h.o1 i
theorem own_setb {w W : World} {B e sz n : Nat} {v : Value} {xs : List Value} {cs : Array Value} (hx : Bx w W cs) (h : W.ownsRow B e sz v n xs) (he : e ≠ 28) (i : Nat) (u : Value) : (W.setCell ⟨w.heap.size, i, none⟩ u).ownsRow B e sz v n xs := by
  refine ⟨h.1, ?_⟩
  rcases h.2 with ⟨a, b⟩ | ⟨g, cap, cur, a, b, c, d⟩
  · exact .inl ⟨a, b⟩
  · refine .inr ⟨g, cap, cur, a, b, (Below.heap_setCell _ _ _ _ (fun q => ?_)).trans c, d⟩
    rw [q, hx.o1] at c
    simp only [Option.some.injEq, Obj.cells.injEq] at c
    exact he c.2.1.symm
theorem blk_ne {W : World} {g b t1 t2 : Nat} {c1 c2 : Array Value} {f1 f2 : Nat × Nat} (hg : W.heap[g]? = some (.cells c1 t1 f1)) (hb : W.heap[b]? = some (.cells c2 t2 f2)) (ht : t1 ≠ t2) : g ≠ b := fun q => by
  rw [q, hb] at hg
  simp only [Option.some.injEq, Obj.cells.injEq] at hg
  exact ht hg.2.1.symm
theorem own_setg {W : World} {B e sz n g t i : Nat} {v u : Value} {xs : List Value} {cs : Array Value} {f : Nat × Nat} (hg : W.heap[g]? = some (.cells cs t f)) (h : W.ownsRow B e sz v n xs) (he : t ≠ e) : (W.setCell ⟨g, i, none⟩ u).ownsRow B e sz v n xs := by
  refine ⟨h.1, ?_⟩
  rcases h.2 with ⟨a, b⟩ | ⟨g', cap, cur, a, b, c, d⟩
  · exact .inl ⟨a, b⟩
  · exact .inr ⟨g', cap, cur, a, b, (Below.heap_setCell _ _ _ _ (fun q => blk_ne hg c he q.symm)).trans c, d⟩
theorem own_rowg {W : World} {B e sz n g t : Nat} {v : Value} {xs : List Value} {cs cs' : Array Value} {f : Nat × Nat} (hg : W.heap[g]? = some (.cells cs t f)) (h : W.ownsRow B e sz v n xs) (he : t ≠ e) : (W.setRow g cs').ownsRow B e sz v n xs := by
  refine ⟨h.1, ?_⟩
  rcases h.2 with ⟨a, b⟩ | ⟨g', cap, cur, a, b, c, d⟩
  · exact .inl ⟨a, b⟩
  · exact .inr ⟨g', cap, cur, a, b, (setRow_other _ _ _ _ (fun q => blk_ne hg c he q.symm)).trans c, d⟩
theorem own_obj {W : World} {B e sz n c g : Nat} {xs : List Value} (h : W.ownsRow B e sz (.slice (some ⟨g, 0, none⟩) n c) n xs) : B ≤ g ∧ ∃ cur, W.heap[g]? = some (.cells cur e (0, 0)) := by
  rcases h.2 with ⟨a, b⟩ | ⟨g', cap, cur, a, b, c, d⟩
  · cases a
  · cases a
    exact ⟨b, cur, c⟩
/-- what abides in cloned's loop -/
structure CdI (w W : World) (a1 : Option Addr) (c1 : Nat) (a2 : Option Addr) (c2 : Nat) (a3 : Option Addr) (c3 : Nat) (a4 : Option Addr) (c4 z st : Nat) (L : List (Nat × Nat)) (J : List Nat) (ds : List Int) (M : List (ByteArray × Nat)) : Prop where
  im : ImO W w.heap.size a1 c1 a2 c2 a3 c3 a4 c4 L J ds M
  bx : Bx w W (imC a1 L.length c1 a2 J.length c2 a3 ds.length c3 z st a4 M.length c4)
theorem CdI.call {w W W' : World} {a1 : Option Addr} {c1 : Nat} {a2 : Option Addr} {c2 : Nat} {a3 : Option Addr} {c3 : Nat} {a4 : Option Addr} {c4 z st : Nat} {L : List (Nat × Nat)} {J : List Nat} {ds : List Int} {M : List (ByteArray × Nat)} (h : CdI w W a1 c1 a2 c2 a3 c3 a4 c4 z st L J ds M) (hb : Below W.heap.size W W') : CdI w W' a1 c1 a2 c2 a3 c3 a4 c4 z st L J ds M := ⟨h.im.below hb, h.bx.call hb⟩
theorem CdI.same {w W : World} {a1 : Option Addr} {c1 : Nat} {a2 : Option Addr} {c2 : Nat} {a3 : Option Addr} {c3 : Nat} {g c4 z st i : Nat} {L : List (Nat × Nat)} {J : List Nat} {ds : List Int} {M : List (ByteArray × Nat)} {v : Value} (h : CdI w W a1 c1 a2 c2 a3 c3 (some ⟨g, 0, none⟩) c4 z st L J ds M) (hM : 0 < M.length) (hv : (nmv M)[i]? = some v) : CdI w (W.setCell ⟨g, i, none⟩ v) a1 c1 a2 c2 a3 c3 (some ⟨g, 0, none⟩) c4 z st L J ds M := by
  obtain ⟨hB, cur, hg⟩ := own_obj (h.im.names hM)
  refine ⟨⟨h.im.k1, h.im.k2, h.im.k3, h.im.k4, fun q => own_setg hg (h.im.code q) (by decide), fun q => own_setg hg (h.im.jumps q) (by decide), fun q => own_setg hg (h.im.data q) (by decide), fun q => own_same (h.im.names q) hv⟩, ⟨(Below.heap_setCell _ _ _ _ (fun q => blk_ne hg h.bx.o1 (by decide) q.symm)).trans h.bx.o1, (Below.heap_setCell _ _ _ _ (fun q => blk_ne hg h.bx.o2 (by decide) q.symm)).trans h.bx.o2, h.bx.bl.setCell hB _⟩⟩
set_option maxHeartbeats 8000000 in
theorem vcloned_any (ac aj ad an : Option Addr) (cc cj cd z st cn : Nat) (L : List (Nat × Nat)) (J : List Nat) (ds : List Int) (M : List (ByteArray × Nat)) (w : World) (hn : L.length ≤ 1048576) (hjn : J.length ≤ 1048576) (hdn : ds.length ≤ 1048576) (hMn : M.length ≤ 1048576) (hMs : ∀ p ∈ M, p.1.size ≤ 281474976710656)
    (hr : CRd w ac L w.heap.size) (hrJ : JRd w aj J w.heap.size) (hrD : Reads w ad ds w.heap.size) (hrN : NRd w an M w.heap.size) :
    Calls Tryz.prog 13 #[imV ac L.length cc aj J.length cj ad ds.length cd z st an M.length cn] w (CdP w L J ds z st M) := by
  have H1 : Hid (∀ W, Below w.heap.size w W → Calls Tryz.prog 30 #[.slice ac L.length cc] W (ClP W 43 2 L.length (cv L))) := hidS (fun W hW => cloneI_any ac cc L.length (cv L) W hn (len2 _ _ L) (one2 _ _ (fun _ => rfl) (fun _ => rfl) L) (fun h => by
    obtain ⟨b, off, e, hlt, hc⟩ := (hr.below hW) h
    exact ⟨b, off, e, Nat.lt_of_lt_of_le hlt hW.size, flat2 _ _ (0, 0) L W b off hc⟩))
  have H2 : Hid (∀ W, Below w.heap.size w W → Calls Tryz.prog 31 #[.slice aj J.length cj] W (ClP W 25 1 J.length (dv J))) := hidS (fun W hW => cloneW_any aj cj J.length (dv J) W hjn (by simp [dv]) (by intro u hu; simp only [dv, List.mem_map] at hu; obtain ⟨z, _, rfl⟩ := hu; rfl) (fun h => by
    obtain ⟨b, off, e, hlt, hc⟩ := (hrJ.below hW) h
    refine ⟨b, off, e, Nat.lt_of_lt_of_le hlt hW.size, fun j u hj => ?_⟩
    have hjl : j < J.length := by have := (List.getElem?_eq_some_iff.1 hj).1; simpa [dv] using this
    rw [hc j hjl, ← hj]
    simp [dv, hjl]))
  have H3 : Hid (∀ W, Below w.heap.size w W → Calls Tryz.prog 32 #[.slice ad ds.length cd] W (ClP W 5 1 ds.length (bv ds))) := hidS (fun W hW => cloneB_any ad cd ds.length (bv ds) W hdn (by simp [bv]) (by intro u hu; simp only [bv, List.mem_map] at hu; obtain ⟨z, _, rfl⟩ := hu; rfl) (fun h => by
    obtain ⟨b, off, e, hlt, hc⟩ := (hrD.below hW) h
    refine ⟨b, off, e, Nat.lt_of_lt_of_le hlt hW.size, fun j u hj => ?_⟩
    have hjl : j < ds.length := by have := (List.getElem?_eq_some_iff.1 hj).1; simpa [bv] using this
    rw [hc j hjl, ← hj]
    simp [bv, hjl]))
  have H4 : Hid (∀ W, Below w.heap.size w W → Calls Tryz.prog 33 #[.slice an M.length cn] W (ClP W 64 2 M.length (nmv M))) := hidS (fun W hW => cloneE_any an cn M.length (nmv M) W hMn (len2 _ _ M) (one2 _ _ (fun _ => rfl) (fun _ => rfl) M) (fun h => by
    obtain ⟨b, off, e, hlt, hc⟩ := (hrN.below hW) h
    exact ⟨b, off, e, Nat.lt_of_lt_of_le hlt hW.size, flat2 _ _ (.empty, 0) M W b off hc⟩))
  clear hr hrJ hrD hrN
  obtain ⟨W0, hW0⟩ : ∃ W0, ((w.alloc (.cells (imC ac L.length cc aj J.length cj ad ds.length cd z st an M.length cn) 28)).alloc (.cells #[.slice none 0 0, .slice none 0 0, .slice none 0 0, .int .u32 0, .int .u32 0, .slice none 0 0] 28)) = W0 := ⟨_, rfl⟩
  have hx0 : Bx w W0 (imC ac L.length cc aj J.length cj ad ds.length cd z st an M.length cn) := by
    rw [← hW0]
    have q1 := heap_alloc_new w (.cells (imC ac L.length cc aj J.length cj ad ds.length cd z st an M.length cn) 28)
    have q2 := heap_alloc_new (w.alloc (.cells (imC ac L.length cc aj J.length cj ad ds.length cd z st an M.length cn) 28)) (.cells #[.slice none 0 0, .slice none 0 0, .slice none 0 0, .int .u32 0, .int .u32 0, .slice none 0 0] 28)
    refine ⟨(Below.heap_alloc _ _ _ (by simp)).trans q1, ?_, belP (belP (Below.refl _ _))⟩
    simp only [World.size_alloc] at q2
    exact q2
  have HW0 := hidS hW0
  have HX0 := hidS hx0
  clear hW0 hx0
  go_enter Tryz.func13, Tryz.ntmps13
  go_wp2_with fail
  rw [HW0.out]
  refine (H1.out W0 HX0.out.bl).mono ?_
  rintro e w1 ⟨a1, c1, rfl, kc1, own1, hb1⟩
  have HX1 := hidS (HX0.out.call hb1)
  have d0 : w1.cell? ⟨w.heap.size, 0, none⟩ = some (.slice ac L.length cc) := (HX1.out.cell 0).trans rfl
  have d1 : w1.cell? ⟨w.heap.size, 1, none⟩ = some (.slice aj J.length cj) := (HX1.out.cell 1).trans rfl
  have f0 := HX1.out.thaw 0
  go_wp2_with fail
  have HY1 := hidS (HX1.out.set 0 (.slice a1 L.length c1))
  refine (H2.out _ HY1.out.bl).mono ?_
  rintro e w2 ⟨a2, c2, rfl, kc2, own2, hb2⟩
  have HX2 := hidS (HY1.out.call hb2)
  clear d0 d1 f0
  have d1 : w2.cell? ⟨w.heap.size, 1, none⟩ = some (.slice aj J.length cj) := (HX2.out.cell 1).trans rfl
  have d2 : w2.cell? ⟨w.heap.size, 2, none⟩ = some (.slice ad ds.length cd) := (HX2.out.cell 2).trans rfl
  have f1 := HX2.out.thaw 1
  go_wp2_with fail
  have HY2 := hidS (HX2.out.set 1 (.slice a2 J.length c2))
  refine (H3.out _ HY2.out.bl).mono ?_
  rintro e w3 ⟨a3, c3, rfl, kc3, own3, hb3⟩
  have HX3 := hidS (HY2.out.call hb3)
  clear d1 d2 f1
  have d2 : w3.cell? ⟨w.heap.size, 2, none⟩ = some (.slice ad ds.length cd) := (HX3.out.cell 2).trans rfl
  have d5 : w3.cell? ⟨w.heap.size, 5, none⟩ = some (.slice an M.length cn) := (HX3.out.cell 5).trans rfl
  have f2 := HX3.out.thaw 2
  go_wp2_with fail
  have HY3 := hidS (HX3.out.set 2 (.slice a3 ds.length c3))
  refine (H4.out _ HY3.out.bl).mono ?_
  rintro e w4 ⟨a4, c4, rfl, kc4, own4, hb4⟩
  have HX4 := hidS (HY3.out.call hb4)
  clear d2 d5 f2
  have d5 : w4.cell? ⟨w.heap.size, 5, none⟩ = some (.slice an M.length cn) := (HX4.out.cell 5).trans rfl
  have f5 := HX4.out.thaw 5
  have HY4 := hidS (HX4.out.set 5 (.slice a4 M.length c4))
  have HO : Hid (ImO (w4.setCell ⟨w.heap.size, 5, none⟩ (.slice a4 M.length c4)) w.heap.size a1 c1 a2 c2 a3 c3 a4 c4 L J ds M) := hidS (by
    have z1 := HX0.out.bl.size
    have z2 := HY1.out.bl.size
    have z3 := HY2.out.bl.size
    have z4 := HY3.out.bl.size
    exact ⟨kc1, kc2, kc3, kc4,
      fun q => own_setb HX4.out (own_belowW (own_setb HX3.out (own_belowW (own_setb HX2.out (own_belowW (own_setb HX1.out (own_monoV (own1 q) z1) (by decide) _ _) hb2) (by decide) _ _) hb3) (by decide) _ _) hb4) (by decide) _ _,
      fun q => own_setb HX4.out (own_belowW (own_setb HX3.out (own_belowW (own_setb HX2.out (own_monoV (own2 q) z2) (by decide) _ _) hb3) (by decide) _ _) hb4) (by decide) _ _,
      fun q => own_setb HX4.out (own_belowW (own_setb HX3.out (own_monoV (own3 q) z3) (by decide) _ _) hb4) (by decide) _ _,
      fun q => own_setb HX4.out (own_monoV (own4 q) z4) (by decide) _ _⟩)
  have HG : Hid (0 < M.length → ∃ g, a4 = some ⟨g, 0, none⟩ ∧ (w2.setCell ⟨w.heap.size, 1, none⟩ (.slice a2 J.length c2)).heap.size ≤ g) := hidS (fun q => by
    rcases (own4 q).2 with ⟨_, hz⟩ | ⟨g, cap, cur, e1, e2, _⟩
    · omega
    · simp only [Value.slice.injEq] at e1
      exact ⟨g, e1.1, Nat.le_trans (by have := hb3.size; simpa using this) e2⟩)
  have HI : Hid (CdI w (w4.setCell ⟨w.heap.size, 5, none⟩ (.slice a4 M.length c4)) a1 c1 a2 c2 a3 c3 a4 c4 z st L J ds M) := hidS ⟨HO.out, HY4.out⟩
  clear own1 own2 own3 own4 HO HY4 HX4 HY3 HX3 HY2 HX2 HY1 HX1 HX0 HW0 H1 H2 H3 H4
  go_wp2_with fail
  go_loopw [24] (fun u wr => ∃ k : Nat, u = .int .i64 k ∧ k ≤ M.length ∧ CdI w wr a1 c1 a2 c2 a3 c3 a4 c4 z st L J ds M)
    (fun u _ => M.length - (intOf u).toNat)
  case atStart => exact ⟨0, rfl, Nat.zero_le _, HI.out⟩
  case round =>
    clear HI d5 f5 hb1 hb2 hb3 hb4
    obtain ⟨k, rfl, hk, hI⟩ := hrel
    by_cases hlt : k < M.length
    · have hltI : (k : Int) < (M.length : Int) := by omega
      have hpos : 0 < M.length := by omega
      obtain ⟨g, hg4, _⟩ := HG.out hpos
      subst hg4
      have hrow := hI.im.names hpos
      obtain ⟨hBg, cur, hgo⟩ := own_obj hrow
      obtain ⟨s0, s1⟩ := get2 (fun p : ByteArray × Nat => Value.string p.1) (fun p => Value.int .u32 (p.2 : Nat)) (.empty, 0) M k hlt
      have v0 : wr.cell? ⟨g, k * 2, none⟩ = some (.string (M.getD k (.empty, 0)).1) := by have := hrow.cells (g := g) rfl _ _ s0; rwa [add_plain, Nat.zero_add] at this
      have v1 : wr.cell? ⟨g, k * 2 + 1, none⟩ = some (.int .u32 ((M.getD k (.empty, 0)).2 : Nat)) := by have := hrow.cells (g := g) rfl _ _ s1; rwa [add_plain, Nat.zero_add] at this
      have HV : Hid ((nmv M)[k * 2]? = some (.string (M.getD k (.empty, 0)).1)) := hidS s0
      have hsz := hMs (M.getD k (.empty, 0)) (by simp [List.getD, List.getElem?_eq_getElem hlt])
      generalize (M.getD k (.empty, 0)).1 = s at v0 HV hsz
      generalize (M.getD k (.empty, 0)).2 = x at v1
      have hc4 : (M.length : Int) ≤ (c4 : Int) := by have := hI.im.k4; omega
      obtain ⟨W5, hW5⟩ : ∃ W5, wr.alloc (Obj.cells #[.string s, .int .u32 (x : Int)] 64) = W5 := ⟨_, rfl⟩
      have hb5 : Below wr.heap.size wr W5 := by rw [← hW5]; exact (Below.refl wr.heap.size wr).alloc (Nat.le_refl _) _
      have hl5 : W5.heap[wr.heap.size]? = some (Obj.cells #[.string s, .int .u32 (x : Int)] 64) := by rw [← hW5]; exact heap_alloc_last wr _
      have HI5 := hidS (hI.call hb5)
      have n5 : W5.cell? ⟨w.heap.size, 5, none⟩ = some (.slice (some ⟨g, 0, none⟩) M.length c4) := (HI5.out.bx.cell 5).trans rfl
      have n0 : W5.cell? ⟨wr.heap.size, 0, none⟩ = some (.string s) := (obj_cell hl5 0).trans rfl
      have HC : Hid (∀ W, Calls Tryz.prog 34 #[.string s] W fun e w' => e = .returned (.string s) ∧ Below W.heap.size W w') := hidS (fun W => sclone_any s W hsz)
      have HW5 := hidS hW5
      have HV0 : Hid (∀ W, Below W5.heap.size W5 W → W.cell? ⟨g, k * 2, none⟩ = some (.string s) ∧ W.frozen? ⟨g, k * 2, none⟩ = false ∧ W.cell? ⟨w.heap.size, 5, none⟩ = some (.slice (some ⟨g, 0, none⟩) M.length c4) ∧ W.cell? ⟨wr.heap.size, 0, none⟩ = some (.string s)) := hidS (fun W hW => by
        have hq : Below wr.heap.size wr W := hb5.trans (hW.mono hb5.size)
        have hgl : g < wr.heap.size := (Array.getElem?_eq_some_iff.1 hgo).1
        exact ⟨(hq.cell (p := ⟨g, k * 2, none⟩) hgl).trans v0, obj_frozen ((hq.block g hgl).trans hgo) _, ((HI5.out.call hW).bx.cell 5).trans rfl, (obj_cell ((hW.block _ (Array.getElem?_eq_some_iff.1 hl5).1).trans hl5) 0).trans rfl⟩)
      clear hrow hgo s0 s1 hI hb5 hl5 hW5 hBg
      go_wp2_with fail
      rw [HW5.out]
      go_region_with (go_at_call 34; refine (HC.out _).mono ?_; rintro e w6 ⟨rfl, hb6⟩; replace hb6 : Below W5.heap.size W5 w6 := (Below.refl W5.heap.size W5).drew.trans hb6; obtain ⟨m0, m1, m2, m3⟩ := HV0.out w6 hb6)
      all_goals
        have HI6 := hidS ((HI5.out.call hb6).same hpos HV.out)
        clear hb6 m0 m1 m2 m3
        go_wp2_with fail
        go_roundw
        case rel => exact ⟨k + 1, by go_num, by omega, HI6.out⟩
        case measure => simp [intOf]; omega
    · have hltI : ¬ (k : Int) < (M.length : Int) := by omega
      have c0 : wr.cell? ⟨w.heap.size, 0, none⟩ = some (.slice a1 L.length c1) := (hI.bx.cell 0).trans rfl
      have c1' : wr.cell? ⟨w.heap.size, 1, none⟩ = some (.slice a2 J.length c2) := (hI.bx.cell 1).trans rfl
      have c2' : wr.cell? ⟨w.heap.size, 2, none⟩ = some (.slice a3 ds.length c3) := (hI.bx.cell 2).trans rfl
      have c3' : wr.cell? ⟨w.heap.size, 3, none⟩ = some (.int .u32 (z : Nat)) := (hI.bx.cell 3).trans rfl
      have c4' : wr.cell? ⟨w.heap.size, 4, none⟩ = some (.int .u32 (st : Nat)) := (hI.bx.cell 4).trans rfl
      have c5' : wr.cell? ⟨w.heap.size, 5, none⟩ = some (.slice a4 M.length c4) := (hI.bx.cell 5).trans rfl
      have o2 := hI.bx.o2
      have HI6 := hidS hI
      clear hI
      go_wp2_with (refine wpList_store_rowV rfl _ _ _ rfl (w.heap.size + 1) _ (imC a1 L.length c1 a2 J.length c2 a3 ds.length c3 z st a4 M.length c4) rfl rfl o2 (by rw [sizeVIm]; rfl) rfl (by simp [Value.oneCell']) ?_)
      have HN := hidS (setRow_heap wr (w.heap.size + 1) _ (imC a1 L.length c1 a2 J.length c2 a3 ds.length c3 z st a4 M.length c4) _ _ o2)
      refine bodyPost_ret (resVIm (p := 2) (by kernel_rfl) _ (w.heap.size + 1) (imC a1 L.length c1 a2 J.length c2 a3 ds.length c3 z st a4 M.length c4) rfl HN.out _ rfl) rfl ?_
      exact ⟨a1, c1, a2, c2, a3, c3, a4, c4, rfl, ⟨HI6.out.im.k1, HI6.out.im.k2, HI6.out.im.k3, HI6.out.im.k4, fun q => own_rowg o2 (HI6.out.im.code q) (by decide), fun q => own_rowg o2 (HI6.out.im.jumps q) (by decide), fun q => own_rowg o2 (HI6.out.im.data q) (by decide), fun q => own_rowg o2 (HI6.out.im.names q) (by decide)⟩, below_setRow HI6.out.bx.bl (Nat.le_add_right _ _) _⟩
end Go.Proofs.YtgbpfejodpplbaaGreatDoor
