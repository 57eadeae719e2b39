import Derived.Test.YtgbpfejodpplbaaGreatDoorCPPr
import Derived.Handy
import Derived.Test.YtgbpfejodpplbaaGreatDoorCPRg
namespace Go.Proofs.YtgbpfejodpplbaaGreatDoor
open Go.RowKit Go.WideShapes Go.Shelf
set_option maxRecDepth 100000

abbrev ifW (kw : Nat) : Value := .iface 158 (.pointer (some ⟨kw, 0, none⟩))
theorem load_w {w : World} {a : Addr} {v : Value} (h : w.cell? a = some v) : (loadVar 159 a).run Tryz.prog w = .ok v w := by
  simp [loadVar, go_sem, h]
theorem meth_less {w : World} {kw : Nat} {v : Value} (h : w.cell? ⟨kw, 0, none⟩ = some v) : (method 322 158 (.pointer (some ⟨kw, 0, none⟩)) "Less").run Tryz.prog w = .ok (144, v) w := by
  have e1 : (method 322 158 (.pointer (some ⟨kw, 0, none⟩)) "Less").run Tryz.prog w = ((loadVar 159 ⟨kw, 0, none⟩) >>= fun v => pure (144, v)).run Tryz.prog w := by kernel_rfl
  rw [e1, Sem.run_bind, load_w h]
  rfl
theorem meth_swap {w : World} {kw : Nat} {v : Value} (h : w.cell? ⟨kw, 0, none⟩ = some v) : (method 322 158 (.pointer (some ⟨kw, 0, none⟩)) "Swap").run Tryz.prog w = .ok (147, v) w := by
  have e1 : (method 322 158 (.pointer (some ⟨kw, 0, none⟩)) "Swap").run Tryz.prog w = ((loadVar 159 ⟨kw, 0, none⟩) >>= fun v => pure (147, v)).run Tryz.prog w := by kernel_rfl
  rw [e1, Sem.run_bind, load_w h]
  rfl
theorem meth_len {w : World} {kw : Nat} {v : Value} (h : w.cell? ⟨kw, 0, none⟩ = some v) : (method 322 158 (.pointer (some ⟨kw, 0, none⟩)) "Len").run Tryz.prog w = .ok (81, v) w := by
  have e1 : (method 322 158 (.pointer (some ⟨kw, 0, none⟩)) "Len").run Tryz.prog w = ((loadVar 159 ⟨kw, 0, none⟩) >>= fun v => pure (81, v)).run Tryz.prog w := by kernel_rfl
  rw [e1, Sem.run_bind, load_w h]
  rfl
theorem meth_push (w : World) (kw : Nat) : (method 322 158 (.pointer (some ⟨kw, 0, none⟩)) "Push").run Tryz.prog w = .ok (146, .pointer (some ⟨kw, 0, none⟩)) w := by kernel_rfl
theorem meth_pop (w : World) (kw : Nat) : (method 322 158 (.pointer (some ⟨kw, 0, none⟩)) "Pop").run Tryz.prog w = .ok (145, .pointer (some ⟨kw, 0, none⟩)) w := by kernel_rfl
/-- the words that wait, in memory -/
structure HpW (w : World) (B kw g cap : Nat) (Wt : List Nat) : Prop where
  bx : Boxed w kw 159 (.slice (some ⟨g, 0, none⟩) Wt.length cap)
  row : w.ownsRow B 25 1 (.slice (some ⟨g, 0, none⟩) Wt.length cap) Wt.length (dv Wt)
theorem HpW.drewN {w : World} {B kw g cap : Nat} {Wt : List Nat} (h : HpW w B kw g cap Wt) (n : Nat) : HpW (w.drewN n) B kw g cap Wt := ⟨h.bx, h.row⟩
theorem HpW.word {w : World} {B kw g cap : Nat} {Wt : List Nat} (h : HpW w B kw g cap Wt) {i : Nat} (hi : i < Wt.length) : w.cell? ⟨g, i, none⟩ = some (.int .u32 (Wt.getD i 0 : Nat)) := by
  refine (h.row.cellAt i (by omega)).trans ?_
  simp [dv, List.getElem?_eq_getElem hi, List.getD_eq_getElem?_getD]
theorem HpW.thaw {w : World} {B kw g cap : Nat} {Wt : List Nat} (h : HpW w B kw g cap Wt) (i : Nat) : w.frozen? ⟨g, i, none⟩ = false := by
  rcases h.row.2 with ⟨hn, _⟩ | ⟨g', cap', cur', e1, e2, e3, e4⟩
  · cases hn
  · cases e1
    exact obj_frozen e3 i
theorem HpW.ne {w : World} {B kw g cap : Nat} {Wt : List Nat} (h : HpW w B kw g cap Wt) : kw ≠ g := by
  rcases h.row.2 with ⟨hn, _⟩ | ⟨g', cap', cur', e1, e2, e3, e4⟩
  · cases hn
  · cases e1
    intro e
    subst e
    have hb : w.heap[kw]? = _ := h.bx
    rw [e3] at hb
    cases hb
theorem HpW.put {w : World} {B kw g cap : Nat} {Wt : List Nat} (h : HpW w B kw g cap Wt) (i x : Nat) : HpW (w.setCell ⟨g, i, none⟩ (.int .u32 x)) B kw g cap (Wt.set i x) := by
  have hne := h.ne
  refine ⟨by rw [List.length_set]; exact (Below.heap_setCell w ⟨g, i, none⟩ _ kw hne).trans h.bx, ?_⟩
  rw [List.length_set]
  rcases h.row with ⟨hl, ⟨hn, _⟩ | ⟨g', cap', cur', e1, e2, e3, e4, e5, e6, e7⟩⟩
  · cases hn
  · cases e1
    refine ⟨by simp [dv], .inr ⟨g, cap, cur'.setIfInBounds i (.int .u32 x), rfl, e2, ?_, e4, e5, by simp [e6], ?_⟩⟩
    · rw [heap_setCell_same w g i _ _ _ e3]
    · rw [Array.toList_setIfInBounds, List.take_set, e7]
      simp [dv, List.map_set]
theorem less_any {B kw g cap : Nat} {Wt : List Nat} (i j : Nat) (w : World) (hi : i < Wt.length) (hj : j < Wt.length) (h : HpW w B kw g cap Wt) :
    Calls Tryz.prog 144 #[.slice (some ⟨g, 0, none⟩) Wt.length cap, .int .i64 i, .int .i64 j] w fun e w' => e = .returned (.bool (decide (Wt.getD i 0 < Wt.getD j 0))) ∧ ∃ n, w' = w.drewN n := by
  have c1 := h.word hi
  have c2 := h.word hj
  generalize Wt.getD i 0 = x at c1 ⊢
  generalize Wt.getD j 0 = y at c2 ⊢
  have hiI : (i : Int) < (Wt.length : Int) := by omega
  have hjI : (j : Int) < (Wt.length : Int) := by omega
  clear h
  go_enter Tryz.func144, Tryz.ntmps144
  go_wp2
  go_quiet (fail)
  go_wp2
  go_ret
  exact ⟨by simp, _, rfl⟩
/-- two words in the place of one another -/
def swp (l : List Nat) (i j : Nat) : List Nat := (l.set i (l.getD j 0)).set j (l.getD i 0)
theorem swp_perm {l : List Nat} {i j : Nat} (hi : i < l.length) (hj : j < l.length) : (swp l i j).Perm l := by
  unfold swp
  rw [List.getD_eq_getElem?_getD, List.getD_eq_getElem?_getD, List.getElem?_eq_getElem hi, List.getElem?_eq_getElem hj]
  exact List.set_set_perm hi hj
set_option maxHeartbeats 1000000 in
theorem swap_any {B kw g cap : Nat} {Wt : List Nat} (i j : Nat) (w : World) (hi : i < Wt.length) (hj : j < Wt.length) (h : HpW w B kw g cap Wt) :
    Calls Tryz.prog 147 #[.slice (some ⟨g, 0, none⟩) Wt.length cap, .int .i64 i, .int .i64 j] w fun e w' => (∃ v, e = .returned v) ∧ HpW w' B kw g cap (swp Wt i j) ∧ Kp (fun k => k = g) w w' ∧ w'.heap.size = w.heap.size := by
  have c1 := h.word hi
  have c2 := h.word hj
  have HF : Hid (HpW ((w.setCell ⟨g, i, none⟩ (.int .u32 (Wt.getD j 0 : Nat))).setCell ⟨g, j, none⟩ (.int .u32 (Wt.getD i 0 : Nat))) B kw g cap (swp Wt i j)) := hidS ((h.put i _).put j _)
  have f1 := h.thaw i
  have f2 := (h.put i (Wt.getD j 0)).thaw j
  have c3 := (h.put i (Wt.getD j 0)).word (i := j) (by rw [List.length_set]; exact hj)
  generalize (Wt.set i (Wt.getD j 0)).getD j 0 = z at c3
  generalize swp Wt i j = Ws at HF ⊢
  generalize Wt.getD i 0 = x at *
  generalize Wt.getD j 0 = y at *
  have hiI : (i : Int) < (Wt.length : Int) := by omega
  have hjI : (j : Int) < (Wt.length : Int) := by omega
  clear h
  go_enter Tryz.func147, Tryz.ntmps147
  go_wp2
  go_region
  exact bodyPost_end (results_none rfl _ _ _) rfl ⟨⟨_, rfl⟩, ⟨HF.out.bx, HF.out.row⟩, ((Kp.setCell (S := fun k => k = g) w ⟨g, i, none⟩ _ rfl).trans (Kp.setCell (S := fun k => k = g) _ ⟨g, j, none⟩ _ rfl) (fun _ _ q => q)).trans (S' := fun _ => False) ⟨rfl, rfl, rfl, Nat.le_refl _, fun _ _ _ => rfl⟩ (fun _ _ q => q.elim), by simp⟩
end Go.Proofs.YtgbpfejodpplbaaGreatDoor
namespace Go.Proofs.YtgbpfejodpplbaaGreatDoor
open Go.RowKit Go.WideShapes Go.Shelf
set_option maxRecDepth 100000
set_option linter.unusedSimpArgs false
attribute [local go_sem] Oper.semAt_some

theorem as_word (v : Value) (w : World) : (Instr.typeAssert (.iface 25 v) 20 25 false).run Tryz.prog w = .ok v w := by kernel_rfl
attribute [local go_sem] as_word
abbrev pushOps (ps : String) : Array Oper := #[{ dst := some 4, op := Op.move (Operand.tmp 0), type := 158, pos := ps, after := #[], guard := none }, { dst := some 5, op := Op.move (Operand.tmp 0), type := 158, pos := ps, after := #[], guard := none }, { dst := some 6, op := Op.nilCheck (Operand.tmp 5), type := 0, pos := ps, after := #[{ on := 1, ground := Ground.data }], guard := none }, { dst := some 7, op := Op.load 159 (Operand.tmp 6), type := 159, pos := ps, after := #[{ on := 2, ground := Ground.data }], guard := none }, { dst := some 8, op := Op.move (Operand.tmp 1), type := 20, pos := ps, after := #[], guard := none }, { dst := some 9, op := Op.typeAssert (Operand.tmp 8) 20 25 false, type := 25, pos := ps, after := #[{ on := 4, ground := Ground.data }], guard := none }, { dst := some 10, op := Op.buildSlice 159 1 #[(0, Operand.tmp 9)], type := 159, pos := ps, after := #[{ on := 5, ground := Ground.data }], guard := none }, { dst := some 11, op := Op.call { callee := Callee.builtin Builtin.append, args := #[Operand.tmp 7, Operand.tmp 10], argTypes := #[159, 159] }, type := 159, pos := ps, after := #[{ on := 3, ground := Ground.data }, { on := 6, ground := Ground.data }], guard := none }, { dst := some 12, op := Op.nilCheck (Operand.tmp 4), type := 0, pos := ps, after := #[{ on := 0, ground := Ground.data }, { on := 0, ground := Ground.phase }, { on := 1, ground := Ground.phase }, { on := 2, ground := Ground.phase }, { on := 3, ground := Ground.phase }, { on := 4, ground := Ground.phase }, { on := 5, ground := Ground.phase }, { on := 6, ground := Ground.phase }, { on := 7, ground := Ground.phase }], guard := none }, { dst := none, op := Op.store 159 (Operand.tmp 12) (Operand.tmp 11), type := 0, pos := ps, after := #[{ on := 8, ground := Ground.data }, { on := 7, ground := Ground.data }, { on := 7, ground := Ground.chain }, { on := 0, ground := Ground.phase }, { on := 1, ground := Ground.phase }, { on := 2, ground := Ground.phase }, { on := 3, ground := Ground.phase }, { on := 4, ground := Ground.phase }, { on := 5, ground := Ground.phase }, { on := 6, ground := Ground.phase }, { on := 7, ground := Ground.phase }], guard := none }]
set_option maxHeartbeats 4000000 in
theorem push_lay {ps : String} {F : Fence} {n : Nat} {Q : Exit → Act → World → Prop} {w : World} {t2 t3 t4 t5 t6 t7 t8 t9 t10 t11 t12 : Value} (B kw g cap x : Nat) (Wt : List Nat) (hl : Wt.length ≤ 1000000) (hB : B ≤ w.heap.size) (h : HpW w B kw g cap Wt) (hkB : kw < w.heap.size)
    (hQ : ∀ c (a : Act) d v w, Q (.panic c) (a.put d v) w → Q (.panic c) a w)
    (hK : ∀ a' g' cap' w', a'.defers = [] → HpW w' B kw g' cap' (Wt ++ [x]) → (g' = g ∨ w.heap.size ≤ g') → Kp (fun k => k = g ∨ k = kw) w w' → Q .normal a' w') :
    (Code.region 0 (pushOps ps) true).wpIn F n Tryz.prog Q { tmps := (.pointer (some ⟨kw, 0, none⟩) :: .iface 25 (.int .u32 (x : Int)) :: t2 :: t3 :: t4 :: t5 :: t6 :: t7 :: t8 :: t9 :: t10 :: t11 :: t12 :: []).toArray, defers := [] } w := by
  have hS : (fun V : World => V.cell? ⟨kw, 0, none⟩ = some (.slice (some ⟨g, 0, none⟩) Wt.length cap)) w.drew := h.bx.cell
  obtain ⟨i0, hi, hz0, hz1, hz2⟩ := info_parts Tryz.infoD
  have hne := h.ne
  have hkd : Kp (fun _ => False) w (w.drew.alloc (.cells #[.int .u32 (x : Int)] 25)) := ⟨rfl, rfl, rfl, (Kp.alloc (S := fun _ => False) w.drew _).size, fun k hk _ => Below.heap_alloc w.drew _ k hk⟩
  refine region_G (fun V : World => V.cell? ⟨kw, 0, none⟩ = some (.slice (some ⟨g, 0, none⟩) Wt.length cap)) 9 (fun i o h => List.all_eq_true.1 (show (pushOps ps).toList.all noDefer = true by kernel_rfl) o (List.mem_of_getElem? (by simpa using h))) (by first | assumption | kernel_rfl) ?_
  refine wpAnyG_take (i := 0) (oi := { dst := some 4, op := Op.move (Operand.tmp 0), type := 158, pos := ps, after := #[], guard := none }) (v := ?_) rfl rfl (by kernel_rfl) (by kernel_rfl) (by kernel_rfl) (fun _ _ _ h => hQ _ _ _ _ _ h) (by kernel_rfl) ⟨Or.inl ⟨by rfl, ?_⟩, fun _ => rfl⟩ hS ?_
  rotate_left
  · intro w' hS'; go_simp; try with_reducible rfl
  simp only [Act.put, List.setIfInBounds_toArray, List.set_cons_zero, List.set_cons_succ]
  refine wpAnyG_take (i := 1) (oi := { dst := some 5, op := Op.move (Operand.tmp 0), type := 158, pos := ps, after := #[], guard := none }) (v := ?_) rfl rfl (by kernel_rfl) (by kernel_rfl) (by kernel_rfl) (fun _ _ _ h => hQ _ _ _ _ _ h) (by kernel_rfl) ⟨Or.inl ⟨by rfl, ?_⟩, fun _ => rfl⟩ hS ?_
  rotate_left
  · intro w' hS'; go_simp; try with_reducible rfl
  simp only [Act.put, List.setIfInBounds_toArray, List.set_cons_zero, List.set_cons_succ]
  refine wpAnyG_take (i := 2) (oi := { dst := some 6, op := Op.nilCheck (Operand.tmp 5), type := 0, pos := ps, after := #[{ on := 1, ground := Ground.data }], guard := none }) (v := ?_) rfl rfl (by kernel_rfl) (by kernel_rfl) (by kernel_rfl) (fun _ _ _ h => hQ _ _ _ _ _ h) (by kernel_rfl) ⟨Or.inl ⟨by rfl, ?_⟩, fun _ => rfl⟩ hS ?_
  rotate_left
  · intro w' hS'; go_simp; try with_reducible rfl
  simp only [Act.put, List.setIfInBounds_toArray, List.set_cons_zero, List.set_cons_succ]
  refine wpAnyG_take (i := 3) (oi := { dst := some 7, op := Op.load 159 (Operand.tmp 6), type := 159, pos := ps, after := #[{ on := 2, ground := Ground.data }], guard := none }) (v := ?_) rfl rfl (by kernel_rfl) (by kernel_rfl) (by kernel_rfl) (fun _ _ _ h => hQ _ _ _ _ _ h) (by kernel_rfl) ⟨Or.inl ⟨by rfl, ?_⟩, fun _ => rfl⟩ hS ?_
  rotate_left
  · intro w' hS'; go_simp; try with_reducible rfl
  simp only [Act.put, List.setIfInBounds_toArray, List.set_cons_zero, List.set_cons_succ]
  refine wpAnyG_take (i := 4) (oi := { dst := some 8, op := Op.move (Operand.tmp 1), type := 20, pos := ps, after := #[], guard := none }) (v := ?_) rfl rfl (by kernel_rfl) (by kernel_rfl) (by kernel_rfl) (fun _ _ _ h => hQ _ _ _ _ _ h) (by kernel_rfl) ⟨Or.inl ⟨by rfl, ?_⟩, fun _ => rfl⟩ hS ?_
  rotate_left
  · intro w' hS'; go_simp; try with_reducible rfl
  simp only [Act.put, List.setIfInBounds_toArray, List.set_cons_zero, List.set_cons_succ]
  refine wpAnyG_take (i := 5) (oi := { dst := some 9, op := Op.typeAssert (Operand.tmp 8) 20 25 false, type := 25, pos := ps, after := #[{ on := 4, ground := Ground.data }], guard := none }) (v := ?_) rfl rfl (by kernel_rfl) (by kernel_rfl) (by kernel_rfl) (fun _ _ _ h => hQ _ _ _ _ _ h) (by kernel_rfl) ⟨Or.inl ⟨by rfl, ?_⟩, fun _ => rfl⟩ hS ?_
  rotate_left
  · intro w' hS'; go_simp; try with_reducible rfl
  simp only [Act.put, List.setIfInBounds_toArray, List.set_cons_zero, List.set_cons_succ]
  refine wpAnyG_one (i := 6) (o := { dst := some 10, op := Op.buildSlice 159 1 #[(0, Operand.tmp 9)], type := 159, pos := ps, after := #[{ on := 5, ground := Ground.data }], guard := none }) (by kernel_rfl) rfl (by rfl) ?_
  refine opG (v := .slice (some ⟨w.heap.size, 0, none⟩) 1 1) (w' := w.drew.alloc (.cells #[.int .u32 (x : Int)] 25)) rfl rfl ?_ ⟨fun _ => ?_, ?_⟩
  · unfold execOp
    simp only [Sem.run_bind]
    rw [run_buildSlice w.drew 159 25 1 _ #[.int .u32 (x : Int)] i0 _ Tryz.underlying159 hi hz0 (by rw [hz1]; decide) (by rw [hz1]; decide) (by rw [hz1]; kernel_rfl)]
    rfl
  · exact (hkd.cell (p := ⟨kw, 0, none⟩) hkB (fun q => q)).trans h.bx.cell
  simp only [Act.put, List.setIfInBounds_toArray, List.set_cons_zero, List.set_cons_succ]
  generalize hW1 : w.drew.alloc (.cells #[.int .u32 (x : Int)] 25) = W1 at hkd ⊢
  have hnews : ∀ j u, [Value.int .u32 (x : Int)][j]? = some u → W1.cell? ((⟨w.heap.size, 0, none⟩ : Addr).add j) = some u := by
    rw [← hW1]
    intro j u hj
    match j, hj with
    | 0, hj => simp at hj; subst hj; exact (obj_cell (heap_alloc_new w.drew _) 0).trans rfl
    | k + 1, hj => simp at hj
  have hown1 := hkd.own h.row (fun _ _ q => q)
  obtain ⟨lv', w2, hr2, ho2, hg2, _, hb2⟩ := run_append_own_at (P := Tryz.prog) W1 B 159 159 25 i0 (.int .u32 0) 1 4 Tryz.underlying159 hi hz0 hz1 hz2 rfl (by decide) _ Wt.length (dv Wt) hown1 ⟨w.heap.size, 0, none⟩ 1 1 [.int .u32 (x : Int)] rfl hnews (by intro u hu; simp at hu; subst hu; rfl) (by unfold maxLen; omega) (by omega) (Nat.le_trans hB hkd.size)
  have hk2 : Kp (fun k => k = g) w w2 := (hkd.mono (S' := fun k => k = g) (fun _ _ q => q.elim)).trans (Kp.ofGrown (S := fun k => k = g) hg2 (fun i e _ => by cases e; rfl)) (fun _ _ q => q)
  refine wpAnyG_one (i := 7) (o := { dst := some 11, op := Op.call { callee := Callee.builtin Builtin.append, args := #[Operand.tmp 7, Operand.tmp 10], argTypes := #[159, 159] }, type := 159, pos := ps, after := #[{ on := 3, ground := Ground.data }, { on := 6, ground := Ground.data }], guard := none }) (by kernel_rfl) rfl (by rfl) ?_
  refine opG (v := lv') (w' := w2) rfl rfl ?_ ⟨fun _ => ?_, ?_⟩
  · unfold execOp
    simp only [resolve, invoke, builtin, Sem.run_bind, Sem.run_pure, Result.andThen_ok, List.map_toArray, List.map_cons, List.map_nil]
    show ((Builtin.append_ #[159, 159] 159 #[.slice (some ⟨g, 0, none⟩) Wt.length cap, .slice (some ⟨w.heap.size, 0, none⟩) 1 1]).run Tryz.prog W1).andThen _ = _
    rw [hr2]
    rfl
  · exact (hk2.cell (p := ⟨kw, 0, none⟩) hkB hne).trans h.bx.cell
  simp only [Act.put, List.setIfInBounds_toArray, List.set_cons_zero, List.set_cons_succ]
  refine wpAnyG_one (i := 8) (o := { dst := some 12, op := Op.nilCheck (Operand.tmp 4), type := 0, pos := ps, after := #[{ on := 0, ground := Ground.data }, { on := 0, ground := Ground.phase }, { on := 1, ground := Ground.phase }, { on := 2, ground := Ground.phase }, { on := 3, ground := Ground.phase }, { on := 4, ground := Ground.phase }, { on := 5, ground := Ground.phase }, { on := 6, ground := Ground.phase }, { on := 7, ground := Ground.phase }], guard := none }) (by kernel_rfl) rfl (by rfl) ?_
  refine opG (v := .pointer (some ⟨kw, 0, none⟩)) (w' := w2) rfl rfl ?_ ⟨fun _ => (hk2.cell (p := ⟨kw, 0, none⟩) hkB hne).trans h.bx.cell, ?_⟩
  · go_simp
  have hbx2 : Boxed w2 kw 159 (.slice (some ⟨g, 0, none⟩) Wt.length cap) := (hk2.block kw hkB hne).trans h.bx
  have cc := hbx2.cell
  have ff := hbx2.frozen
  obtain ⟨g2, cap2, hlv⟩ : ∃ g2 cap2, lv' = .slice (some ⟨g2, 0, none⟩) (Wt.length + 1) cap2 := by
    rcases ho2.2 with hn | ⟨g', cap', cur', e1, e2, e3, e4⟩
    · omega
    · exact ⟨_, _, e1⟩
  subst hlv
  have hgn : g2 = g ∨ w.heap.size ≤ g2 := by
    rcases hb2 with q | q
    · cases q
      exact .inl rfl
    · cases q
      exact .inr hkd.size
  simp only [Act.put, List.setIfInBounds_toArray, List.set_cons_zero, List.set_cons_succ]
  refine wpAnyG_one (i := 9) (o := { dst := none, op := Op.store 159 (Operand.tmp 12) (Operand.tmp 11), type := 0, pos := ps, after := #[{ on := 8, ground := Ground.data }, { on := 7, ground := Ground.data }, { on := 7, ground := Ground.chain }, { on := 0, ground := Ground.phase }, { on := 1, ground := Ground.phase }, { on := 2, ground := Ground.phase }, { on := 3, ground := Ground.phase }, { on := 4, ground := Ground.phase }, { on := 5, ground := Ground.phase }, { on := 6, ground := Ground.phase }, { on := 7, ground := Ground.phase }], guard := none }) (by kernel_rfl) rfl (by rfl) ?_
  refine opG0 (w' := w2.setCell ⟨kw, 0, none⟩ (.slice (some ⟨g2, 0, none⟩) (Wt.length + 1) cap2)) rfl rfl ?_ ⟨fun q => absurd rfl q, ?_⟩
  · go_simp
  have hne2 : kw ≠ g2 := by
    rcases ho2.2 with hn | ⟨g', cap', cur', e1, e2, e3, e4⟩
    · omega
    · cases e1
      intro e
      subst e
      have hb : w2.heap[kw]? = _ := hbx2
      rw [e3] at hb
      cases hb
  refine wpAnyG_done (by kernel_rfl) (hK _ g2 cap2 _ rfl ⟨?_, ?_⟩ hgn ?_) _
  · rw [List.length_append]
    exact hbx2.set _
  · rw [List.length_append, dv_snoc]
    exact (Kp.setCell (S := fun k => k = kw) w2 ⟨kw, 0, none⟩ _ rfl).own ho2 (fun k e => by cases e; exact fun q => hne2 q.symm)
  · exact (hk2.mono (S' := fun k => k = g ∨ k = kw) (fun _ _ q => .inl q)).trans (Kp.setCell (S := fun k => k = g ∨ k = kw) w2 ⟨kw, 0, none⟩ _ (.inr rfl)) (fun _ _ q => q)
end Go.Proofs.YtgbpfejodpplbaaGreatDoor
