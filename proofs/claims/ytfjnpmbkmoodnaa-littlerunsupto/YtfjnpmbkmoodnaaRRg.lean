import Derived.Great.BuildSlice
import Derived.Maps.AppendAt
import Derived.Test.YtfjnpmbkmoodnaaPGr
import Derived.Test.YtfjnpmbkmoodnaaPKp
import Derived.Test.YtfjnpmbkmoodnaaRRs
namespace Go.Proofs.Ytfjnpmbkmoodnaa
open Go.RowKit Go.WideShapes
set_option maxRecDepth 100000
set_option linter.unusedSimpArgs false
attribute [local go_sem] Oper.semAt_some

theorem opG {F : Fence} {n : Nat} {P : Program} {o : Oper} {a : Act} {w w' : World} {K : Act → World → Prop} {Q : Exit → Act → World → Prop} {v : Value} (hro : F.round = none) (hab : o.about P w a.eval = none) (hr : (execOp a.eval o).run P w = .ok (.value v) w') (h : K (a.put o.dst v) w') : o.wpIn F n P a w K Q := by
  unfold Oper.wpIn
  rw [hro, Oper.semAt_none, hr]
  exact ⟨fun f hf => (by rw [hab] at hf; cases hf), h⟩
theorem opG0 {F : Fence} {n : Nat} {P : Program} {o : Oper} {a : Act} {w w' : World} {K : Act → World → Prop} {Q : Exit → Act → World → Prop} (hro : F.round = none) (hab : o.about P w a.eval = none) (hr : (execOp a.eval o).run P w = .ok .skip w') (h : K (a.put o.dst undef) w') : o.wpIn F n P a w K Q := by
  unfold Oper.wpIn
  rw [hro, Oper.semAt_none, hr]
  exact ⟨fun f hf => (by rw [hab] at hf; cases hf), h⟩
abbrev rrOps (ps : String) : Array Oper := #[{ dst := some 47, op := Op.fieldAddr 48 (Operand.tmp 8) 1, type := 0, pos := ps, after := #[], guard := none }, { dst := some 48, op := Op.load 26 (Operand.tmp 47), type := 26, pos := ps, after := #[{ on := 0, ground := Ground.data }], guard := none }, { dst := some 49, op := Op.move (Operand.tmp 1), type := 26, pos := ps, after := #[], guard := none }, { dst := some 50, op := Op.move (Operand.tmp 7), type := 3, pos := ps, after := #[], guard := none }, { dst := some 51, op := Op.indexAddr 26 (Operand.tmp 49) (Operand.tmp 50), type := 0, pos := ps, after := #[{ on := 2, ground := Ground.data }, { on := 3, ground := Ground.data }], guard := none }, { dst := some 52, op := Op.load 5 (Operand.tmp 51), type := 5, pos := ps, after := #[{ on := 4, ground := Ground.data }], guard := none }, { dst := some 53, op := Op.buildSlice 26 1 #[(0, Operand.tmp 52)], type := 26, pos := ps, after := #[{ on := 5, ground := Ground.data }], guard := none }, { dst := some 54, op := Op.call { callee := Callee.builtin Builtin.append, args := #[Operand.tmp 48, Operand.tmp 53], argTypes := #[26, 26] }, type := 26, pos := ps, after := #[{ on := 1, ground := Ground.data }, { on := 6, ground := Ground.data }], guard := none }, { dst := some 55, op := Op.fieldAddr 48 (Operand.tmp 8) 1, type := 0, pos := ps, after := #[{ on := 0, ground := Ground.phase }, { on := 1, ground := Ground.phase }, { on := 2, ground := Ground.phase }, { on := 3, ground := Ground.phase }, { on := 4, ground := Ground.phase }, { on := 5, ground := Ground.phase }, { on := 6, ground := Ground.phase }, { on := 7, ground := Ground.phase }], guard := none }, { dst := none, op := Op.store 26 (Operand.tmp 55) (Operand.tmp 54), type := 0, pos := ps, after := #[{ on := 8, ground := Ground.data }, { on := 7, ground := Ground.data }, { on := 7, ground := Ground.chain }, { on := 0, ground := Ground.phase }, { on := 1, ground := Ground.phase }, { on := 2, ground := Ground.phase }, { on := 3, ground := Ground.phase }, { on := 4, ground := Ground.phase }, { on := 5, ground := Ground.phase }, { on := 6, ground := Ground.phase }, { on := 7, ground := Ground.phase }], guard := none }]
set_option maxHeartbeats 4000000 in
theorem rr_lay {ps : String} {F : Fence} {n : Nat} {Q : Exit → Act → World → Prop} {w : World} {t0 t2 t3 t4 t5 t6 t9 t10 t11 t12 t13 t14 t15 t16 t17 t18 t19 t20 t21 t22 t23 t24 t25 t26 t27 t28 t29 t30 t31 t32 t33 t34 t35 t36 t37 t38 t39 t40 t41 t42 t43 t44 t45 t46 t47 t48 t49 t50 t51 t52 t53 t54 t55 t56 t57 t58 t59 t60 t61 t62 : Value} (B rb b2 off2 e n0 cb m : Nat) (c x : Int) (lv : Value) (xs : List Value) (hm : m ≤ 16777216) (hB : B ≤ w.heap.size) (hen : (e : Int) < (n0 : Int)) (hrb : rb < w.heap.size) (hb2 : b2 < w.heap.size)
    (hob : w.heap[rb]? = some (.cells #[.int .u32 x, lv] 48)) (hc : w.cell? ⟨b2, off2 + e, none⟩ = some (.int .u8 c)) (h : w.ownsRow B 5 1 lv m xs) (hrB : rb < B) (hbB : b2 < B)
    (hQ : ∀ c (a : Act) d v w, Q (.panic c) (a.put d v) w → Q (.panic c) a w)
    (hK : ∀ lv' w', w'.ownsRow B 5 1 lv' (m + 1) (xs ++ [.int .u8 c]) → w'.heap[rb]? = some (.cells #[.int .u32 x, lv'] 48) → w.heap.size ≤ w'.heap.size → (∀ k, k < w.heap.size → k ≠ rb → lv.ownBlock ≠ some k → w'.heap[k]? = w.heap[k]?) → w'.os = w.os → w'.tape = w.tape → w'.output = w.output →
      Q .normal { tmps := (t0 :: .slice (some ⟨b2, off2, none⟩) n0 cb :: t2 :: t3 :: t4 :: t5 :: t6 :: .int .i64 (e : Int) :: .pointer (some ⟨rb, 0, none⟩) :: t9 :: t10 :: t11 :: t12 :: t13 :: t14 :: t15 :: t16 :: t17 :: t18 :: t19 :: t20 :: t21 :: t22 :: t23 :: t24 :: t25 :: t26 :: t27 :: t28 :: t29 :: t30 :: t31 :: t32 :: t33 :: t34 :: t35 :: t36 :: t37 :: t38 :: t39 :: t40 :: t41 :: t42 :: t43 :: t44 :: t45 :: t46 :: .pointer (some ⟨rb, 1, none⟩) :: lv :: .slice (some ⟨b2, off2, none⟩) n0 cb :: .int .i64 (e : Int) :: .pointer (some ⟨b2, off2 + e, none⟩) :: .int .u8 c :: .slice (some ⟨w.heap.size, 0, none⟩) 1 1 :: lv' :: .pointer (some ⟨rb, 1, none⟩) :: t56 :: t57 :: t58 :: t59 :: t60 :: t61 :: t62 :: []).toArray, defers := [] } w') :
    (Code.region 10 (rrOps ps) true).wpIn F n Try.prog Q { tmps := (t0 :: .slice (some ⟨b2, off2, none⟩) n0 cb :: t2 :: t3 :: t4 :: t5 :: t6 :: .int .i64 (e : Int) :: .pointer (some ⟨rb, 0, none⟩) :: t9 :: t10 :: t11 :: t12 :: t13 :: t14 :: t15 :: t16 :: t17 :: t18 :: t19 :: t20 :: t21 :: t22 :: t23 :: t24 :: t25 :: t26 :: t27 :: t28 :: t29 :: t30 :: t31 :: t32 :: t33 :: t34 :: t35 :: t36 :: t37 :: t38 :: t39 :: t40 :: t41 :: t42 :: t43 :: t44 :: t45 :: t46 :: t47 :: t48 :: t49 :: t50 :: t51 :: t52 :: t53 :: t54 :: t55 :: t56 :: t57 :: t58 :: t59 :: t60 :: t61 :: t62 :: []).toArray, defers := [] } w := by
  have hS : (fun V : World => V.cell? ⟨rb, 1, none⟩ = some lv ∧ V.cell? ⟨b2, off2 + e, none⟩ = some (.int .u8 c)) w.drew := ⟨obj_cell hob 1, hc⟩
  obtain ⟨i0, hi, hz0, hz1, hz2⟩ := info_parts Try.info5
  refine region_G (fun V : World => V.cell? ⟨rb, 1, none⟩ = some lv ∧ V.cell? ⟨b2, off2 + e, none⟩ = some (.int .u8 c)) 9 (fun i o h => List.all_eq_true.1 (show (rrOps ps).toList.all noDefer = true by kernel_rfl) o (List.mem_of_getElem? (by simpa using h))) (by first | assumption | kernel_rfl) ?_
  refine wpAnyG_take (i := 0) (oi := { dst := some 47, op := Op.fieldAddr 48 (Operand.tmp 8) 1, type := 0, pos := ps, after := #[], guard := none }) (v := ?_) rfl rfl (by kernel_rfl) (by kernel_rfl) (by kernel_rfl) (fun _ _ _ h => hQ _ _ _ _ _ h) (by kernel_rfl) ⟨Or.inl ⟨by rfl, ?_⟩, fun _ => rfl⟩ hS ?_
  rotate_left
  · intro w' hS'; obtain ⟨s1, s2⟩ := hS'; go_simp; try with_reducible rfl
  simp only [Act.put, List.setIfInBounds_toArray, List.set_cons_zero, List.set_cons_succ]
  refine wpAnyG_take (i := 1) (oi := { dst := some 48, op := Op.load 26 (Operand.tmp 47), type := 26, pos := ps, after := #[{ on := 0, ground := Ground.data }], guard := none }) (v := ?_) rfl rfl (by kernel_rfl) (by kernel_rfl) (by kernel_rfl) (fun _ _ _ h => hQ _ _ _ _ _ h) (by kernel_rfl) ⟨Or.inl ⟨by rfl, ?_⟩, fun _ => rfl⟩ hS ?_
  rotate_left
  · intro w' hS'; obtain ⟨s1, s2⟩ := hS'; go_simp; try with_reducible rfl
  simp only [Act.put, List.setIfInBounds_toArray, List.set_cons_zero, List.set_cons_succ]
  refine wpAnyG_take (i := 2) (oi := { dst := some 49, op := Op.move (Operand.tmp 1), type := 26, pos := ps, after := #[], guard := none }) (v := ?_) rfl rfl (by kernel_rfl) (by kernel_rfl) (by kernel_rfl) (fun _ _ _ h => hQ _ _ _ _ _ h) (by kernel_rfl) ⟨Or.inl ⟨by rfl, ?_⟩, fun _ => rfl⟩ hS ?_
  rotate_left
  · intro w' hS'; obtain ⟨s1, s2⟩ := hS'; go_simp; try with_reducible rfl
  simp only [Act.put, List.setIfInBounds_toArray, List.set_cons_zero, List.set_cons_succ]
  refine wpAnyG_take (i := 3) (oi := { dst := some 50, op := Op.move (Operand.tmp 7), type := 3, pos := ps, after := #[], guard := none }) (v := ?_) rfl rfl (by kernel_rfl) (by kernel_rfl) (by kernel_rfl) (fun _ _ _ h => hQ _ _ _ _ _ h) (by kernel_rfl) ⟨Or.inl ⟨by rfl, ?_⟩, fun _ => rfl⟩ hS ?_
  rotate_left
  · intro w' hS'; obtain ⟨s1, s2⟩ := hS'; go_simp; try with_reducible rfl
  simp only [Act.put, List.setIfInBounds_toArray, List.set_cons_zero, List.set_cons_succ]
  refine wpAnyG_take (i := 4) (oi := { dst := some 51, op := Op.indexAddr 26 (Operand.tmp 49) (Operand.tmp 50), type := 0, pos := ps, after := #[{ on := 2, ground := Ground.data }, { on := 3, ground := Ground.data }], guard := none }) (v := ?_) rfl rfl (by kernel_rfl) (by kernel_rfl) (by kernel_rfl) (fun _ _ _ h => hQ _ _ _ _ _ h) (by kernel_rfl) ⟨Or.inl ⟨by rfl, ?_⟩, fun _ => rfl⟩ hS ?_
  rotate_left
  · intro w' hS'; obtain ⟨s1, s2⟩ := hS'; go_simp; try with_reducible rfl
  simp only [Act.put, List.setIfInBounds_toArray, List.set_cons_zero, List.set_cons_succ]
  refine wpAnyG_take (i := 5) (oi := { dst := some 52, op := Op.load 5 (Operand.tmp 51), type := 5, pos := ps, after := #[{ on := 4, ground := Ground.data }], guard := none }) (v := ?_) rfl rfl (by kernel_rfl) (by kernel_rfl) (by kernel_rfl) (fun _ _ _ h => hQ _ _ _ _ _ h) (by kernel_rfl) ⟨Or.inl ⟨by rfl, ?_⟩, fun _ => rfl⟩ hS ?_
  rotate_left
  · intro w' hS'; obtain ⟨s1, s2⟩ := hS'; go_simp; try with_reducible rfl
  simp only [Act.put, List.setIfInBounds_toArray, List.set_cons_zero, List.set_cons_succ]
  refine wpAnyG_one (i := 6) (o := { dst := some 53, op := Op.buildSlice 26 1 #[(0, Operand.tmp 52)], type := 26, pos := ps, after := #[{ on := 5, ground := Ground.data }], guard := none }) (by kernel_rfl) rfl (by rfl) ?_
  refine opG (v := .slice (some ⟨w.heap.size, 0, none⟩) 1 1) (w' := w.drew.alloc (.cells #[.int .u8 c] 5)) rfl rfl ?_ ⟨fun _ => ?_, ?_⟩
  · unfold execOp
    simp only [Sem.run_bind]
    rw [run_buildSlice w.drew 26 5 1 _ #[.int .u8 c] i0 _ Try.underlying26 hi hz0 (by rw [hz1]; decide) (by rw [hz1]; decide) (by rw [hz1]; kernel_rfl)]
    rfl
  · exact ⟨(obj_cell ((Below.heap_alloc w.drew _ rb hrb).trans hob) 1), ((Below.refl w.heap.size w.drew).alloc (Nat.le_refl _) _).cell (p := ⟨b2, off2 + e, none⟩) hb2 |>.trans hc⟩
  simp only [Act.put, List.setIfInBounds_toArray, List.set_cons_zero, List.set_cons_succ]
  have hk1 : Below w.heap.size w.drew (w.drew.alloc (.cells #[.int .u8 c] 5)) := (Below.refl w.heap.size w.drew).alloc (Nat.le_refl _) _
  have hnew : (w.drew.alloc (.cells #[.int .u8 c] 5)).heap[w.heap.size]? = some (.cells #[.int .u8 c] 5) := heap_alloc_new w.drew _
  generalize hW1 : w.drew.alloc (.cells #[.int .u8 c] 5) = W1 at hk1 hnew ⊢
  have hnews : ∀ j u, [Value.int .u8 c][j]? = some u → W1.cell? ((⟨w.heap.size, 0, none⟩ : Addr).add j) = some u := by
    intro j u hj
    match j, hj with
    | 0, hj => simp at hj; subst hj; exact (obj_cell hnew 0).trans rfl
    | k + 1, hj => simp at hj
  have hown1 : W1.ownsRow B 5 1 lv m xs := own_below h.drew hk1
  obtain ⟨lv', w2, hr2, ho2, hg2, _, hb2'⟩ := run_append_own_at (P := Try.prog) W1 B 26 26 5 i0 (.int .u8 0) 1 1 Try.underlying26 hi hz0 hz1 hz2 rfl (by decide) lv m xs hown1 ⟨w.heap.size, 0, none⟩ 1 1 [.int .u8 c] rfl hnews (by intro u hu; simp at hu; subst hu; rfl) (by unfold maxLen; omega) (by omega) (Nat.le_trans hB hk1.size)
  have hrb2 : w2.heap[rb]? = some (.cells #[.int .u32 x, lv] 48) := by
    rw [hg2.block rb (by have := hk1.size; show rb < W1.heap.size; exact Nat.lt_of_lt_of_le hrb this) (fun e => by have := (hown1.lt rb e.symm).1; omega)]
    exact (hk1.block rb hrb).trans hob
  have hbc2 : w2.cell? ⟨b2, off2 + e, none⟩ = some (.int .u8 c) := by
    have h1 := (hk1.cell (p := ⟨b2, off2 + e, none⟩) hb2).trans hc
    exact hg2.cell h1 (fun e => by have := (hown1.lt b2 e.symm).1; omega)
  refine wpAnyG_one (i := 7) (o := { dst := some 54, op := Op.call { callee := Callee.builtin Builtin.append, args := #[Operand.tmp 48, Operand.tmp 53], argTypes := #[26, 26] }, type := 26, pos := ps, after := #[{ on := 1, ground := Ground.data }, { on := 6, ground := Ground.data }], guard := none }) (by kernel_rfl) rfl (by rfl) ?_
  refine opG (v := lv') (w' := w2) rfl rfl ?_ ⟨fun _ => ⟨obj_cell hrb2 1, hbc2⟩, ?_⟩
  · unfold execOp
    simp only [resolve, invoke, builtin, Sem.run_bind, Sem.run_pure, Result.andThen_ok, List.map_toArray, List.map_cons, List.map_nil]
    show ((Builtin.append_ #[26, 26] 26 #[lv, .slice (some ⟨w.heap.size, 0, none⟩) 1 1]).run Try.prog W1).andThen _ = _
    rw [hr2]
    rfl
  simp only [Act.put, List.setIfInBounds_toArray, List.set_cons_zero, List.set_cons_succ]
  refine wpAnyG_one (i := 8) (o := { dst := some 55, op := Op.fieldAddr 48 (Operand.tmp 8) 1, type := 0, pos := ps, after := #[{ on := 0, ground := Ground.phase }, { on := 1, ground := Ground.phase }, { on := 2, ground := Ground.phase }, { on := 3, ground := Ground.phase }, { on := 4, ground := Ground.phase }, { on := 5, ground := Ground.phase }, { on := 6, ground := Ground.phase }, { on := 7, ground := Ground.phase }], guard := none }) (by kernel_rfl) rfl (by rfl) ?_
  refine opG (v := .pointer (some ⟨rb, 1, none⟩)) (w' := w2) rfl rfl ?_ ⟨fun _ => ⟨obj_cell hrb2 1, hbc2⟩, ?_⟩
  · go_simp
  have cc : w2.cell? ⟨rb, 1, none⟩ = some lv := obj_cell hrb2 1
  have ff : w2.frozen? ⟨rb, 1, none⟩ = false := by simp [World.frozen?, hrb2]
  obtain ⟨g2, cap2, hlv⟩ : ∃ g2 cap2, lv' = .slice (some ⟨g2, 0, none⟩) (m + 1) cap2 := by
    rcases ho2.2 with hn | ⟨g', cap', cur', e1, e2, e3, e4⟩
    · omega
    · exact ⟨_, _, e1⟩
  subst hlv
  simp only [Act.put, List.setIfInBounds_toArray, List.set_cons_zero, List.set_cons_succ]
  refine wpAnyG_one (i := 9) (o := { dst := none, op := Op.store 26 (Operand.tmp 55) (Operand.tmp 54), type := 0, pos := ps, after := #[{ on := 8, ground := Ground.data }, { on := 7, ground := Ground.data }, { on := 7, ground := Ground.chain }, { on := 0, ground := Ground.phase }, { on := 1, ground := Ground.phase }, { on := 2, ground := Ground.phase }, { on := 3, ground := Ground.phase }, { on := 4, ground := Ground.phase }, { on := 5, ground := Ground.phase }, { on := 6, ground := Ground.phase }, { on := 7, ground := Ground.phase }], guard := none }) (by kernel_rfl) rfl (by rfl) ?_
  refine opG0 (w' := w2.setCell ⟨rb, 1, none⟩ (.slice (some ⟨g2, 0, none⟩) (m + 1) cap2)) rfl rfl ?_ ⟨fun q => absurd rfl q, ?_⟩
  · go_simp
  have hg2B := (ho2.lt g2 rfl).1
  refine wpAnyG_done (by kernel_rfl) (hK _ _ ?_ ?_ ?_ (fun k hk hkr hkl => ?_) ?_ ?_ ?_) _
  · exact ownsRow_setCell_below ho2 (by show rb < B; exact hrB) _
  · simp [World.setCell, Array.getElem?_modify, hrb2]
  · have h1 := hk1.size
    have h2 := hg2.size
    have h3 : (w2.setCell ⟨rb, 1, none⟩ (.slice (some ⟨g2, 0, none⟩) (m + 1) cap2)).heap.size = w2.heap.size := by simp [World.setCell]
    rw [h3]
    exact Nat.le_trans h1 h2
  · rw [Below.heap_setCell _ _ _ _ hkr, hg2.block k (Nat.lt_of_lt_of_le hk hk1.size) (fun e => hkl e.symm)]
    exact hk1.block k hk
  · exact hg2.os.trans hk1.os
  · exact hg2.tape.trans hk1.tape
  · exact hg2.output.trans hk1.output
end Go.Proofs.Ytfjnpmbkmoodnaa
