import Derived.Test.YtgbpfejodpplbaaGreatDoorCPCm
import Derived.Great.BuildSlice
import Derived.Maps.AppendAt
namespace Go.Proofs.YtgbpfejodpplbaaGreatDoor
open Go.RowKit Go.WideShapes Go.Shelf
set_option maxRecDepth 100000
set_option linter.unusedSimpArgs false
attribute [local go_sem] Oper.semAt_some

theorem opG {F : Fence} {n : Nat} {P : Program} {o : Oper} {a : Act} {w w' : World} {K : Act → World → Prop} {Q : Exit → Act → World → Prop} {v : Value} (hro : F.round = none) (hab : o.about P w a.eval = none) (hr : (execOp a.eval o).run P w = .ok (.value v) w') (h : K (a.put o.dst v) w') : o.wpIn F n P a w K Q := by
  unfold Oper.wpIn
  rw [hro, Oper.semAt_none, hr]
  exact ⟨fun f hf => (by rw [hab] at hf; cases hf), h⟩
theorem opG0 {F : Fence} {n : Nat} {P : Program} {o : Oper} {a : Act} {w w' : World} {K : Act → World → Prop} {Q : Exit → Act → World → Prop} (hro : F.round = none) (hab : o.about P w a.eval = none) (hr : (execOp a.eval o).run P w = .ok .skip w') (h : K (a.put o.dst undef) w') : o.wpIn F n P a w K Q := by
  unfold Oper.wpIn
  rw [hro, Oper.semAt_none, hr]
  exact ⟨fun f hf => (by rw [hab] at hf; cases hf), h⟩
theorem Tryz.infoP : (Tryz.prog.info? 94).map (fun i => (i.zero, i.size, i.bytes)) = some (some (.agg #[.int .u32 0, .int .u32 0, .int .u32 0, .int .i64 0]), 4, 24) := by kernel_rfl
/-- the operations that lay a procedure down -/
abbrev cutOps (ps : String) : Array Oper := #[{ dst := some 60, op := Go.Op.load 49 (Go.Operand.tmp 3), type := 49, pos := ps, after := #[], guard := none }, { dst := some 61, op := Go.Op.load 49 (Go.Operand.tmp 3), type := 49, pos := ps, after := #[], guard := none }, { dst := some 62, op := Go.Op.nilCheck (Go.Operand.tmp 61), type := 0, pos := ps, after := #[{ on := 1, ground := Go.Ground.data }], guard := none }, { dst := some 63, op := Go.Op.fieldAddr 111 (Go.Operand.tmp 62) 1, type := 0, pos := ps, after := #[{ on := 2, ground := Go.Ground.data }], guard := none }, { dst := some 64, op := Go.Op.load 55 (Go.Operand.tmp 63), type := 55, pos := ps, after := #[{ on := 3, ground := Go.Ground.data }], guard := none }, { dst := some 65, op := Go.Op.move (Go.Operand.tmp 6), type := 25, pos := ps, after := #[], guard := none }, { dst := some 66, op := Go.Op.load 22 (Go.Operand.tmp 1), type := 22, pos := ps, after := #[], guard := none }, { dst := some 67, op := Go.Op.call { callee := Go.Callee.builtin Go.Builtin.len, args := #[Go.Operand.tmp 66], argTypes := #[22] }, type := 3, pos := ps, after := #[{ on := 6, ground := Go.Ground.data }], guard := none }, { dst := some 68, op := Go.Op.convert 3 25 (Go.Operand.tmp 67), type := 25, pos := ps, after := #[{ on := 7, ground := Go.Ground.data }], guard := none }, { dst := some 69, op := Go.Op.load 22 (Go.Operand.tmp 1), type := 22, pos := ps, after := #[], guard := none }, { dst := some 70, op := Go.Op.move (Go.Operand.tmp 6), type := 25, pos := ps, after := #[], guard := none }, { dst := some 71, op := Go.Op.indexAddr 22 (Go.Operand.tmp 69) (Go.Operand.tmp 70), type := 0, pos := ps, after := #[{ on := 9, ground := Go.Ground.data }, { on := 10, ground := Go.Ground.data }], guard := none }, { dst := some 72, op := Go.Op.fieldAddr 43 (Go.Operand.tmp 71) 1, type := 0, pos := ps, after := #[{ on := 11, ground := Go.Ground.data }], guard := none }, { dst := some 73, op := Go.Op.load 25 (Go.Operand.tmp 72), type := 25, pos := ps, after := #[{ on := 12, ground := Go.Ground.data }], guard := none }, { dst := some 74, op := Go.Op.build 94 #[(0, Go.Operand.tmp 65), (1, Go.Operand.tmp 68), (2, Go.Operand.tmp 73)], type := 94, pos := ps, after := #[{ on := 5, ground := Go.Ground.data }, { on := 8, ground := Go.Ground.data }, { on := 13, ground := Go.Ground.data }], guard := none }, { dst := some 75, op := Go.Op.buildSlice 55 1 #[(0, Go.Operand.tmp 74)], type := 55, pos := ps, after := #[{ on := 14, ground := Go.Ground.data }], guard := none }, { dst := some 76, op := Go.Op.call { callee := Go.Callee.builtin Go.Builtin.append, args := #[Go.Operand.tmp 64, Go.Operand.tmp 75], argTypes := #[55, 55] }, type := 55, pos := ps, after := #[{ on := 4, ground := Go.Ground.data }, { on := 15, ground := Go.Ground.data }], guard := none }, { dst := some 77, op := Go.Op.nilCheck (Go.Operand.tmp 60), type := 0, pos := ps, after := #[{ on := 0, ground := Go.Ground.data }, { on := 0, ground := Go.Ground.phase }, { on := 1, ground := Go.Ground.phase }, { on := 2, ground := Go.Ground.phase }, { on := 3, ground := Go.Ground.phase }, { on := 4, ground := Go.Ground.phase }, { on := 5, ground := Go.Ground.phase }, { on := 6, ground := Go.Ground.phase }, { on := 7, ground := Go.Ground.phase }, { on := 8, ground := Go.Ground.phase }, { on := 9, ground := Go.Ground.phase }, { on := 10, ground := Go.Ground.phase }, { on := 11, ground := Go.Ground.phase }, { on := 12, ground := Go.Ground.phase }, { on := 13, ground := Go.Ground.phase }, { on := 14, ground := Go.Ground.phase }, { on := 15, ground := Go.Ground.phase }, { on := 16, ground := Go.Ground.phase }], guard := none }, { dst := some 78, op := Go.Op.fieldAddr 111 (Go.Operand.tmp 77) 1, type := 0, pos := ps, after := #[{ on := 17, ground := Go.Ground.data }, { on := 0, ground := Go.Ground.phase }, { on := 1, ground := Go.Ground.phase }, { on := 2, ground := Go.Ground.phase }, { on := 3, ground := Go.Ground.phase }, { on := 4, ground := Go.Ground.phase }, { on := 5, ground := Go.Ground.phase }, { on := 6, ground := Go.Ground.phase }, { on := 7, ground := Go.Ground.phase }, { on := 8, ground := Go.Ground.phase }, { on := 9, ground := Go.Ground.phase }, { on := 10, ground := Go.Ground.phase }, { on := 11, ground := Go.Ground.phase }, { on := 12, ground := Go.Ground.phase }, { on := 13, ground := Go.Ground.phase }, { on := 14, ground := Go.Ground.phase }, { on := 15, ground := Go.Ground.phase }, { on := 16, ground := Go.Ground.phase }], guard := none }, { dst := none, op := Go.Op.store 55 (Go.Operand.tmp 78) (Go.Operand.tmp 76), type := 0, pos := ps, after := #[{ on := 18, ground := Go.Ground.data }, { on := 16, ground := Go.Ground.data }, { on := 16, ground := Go.Ground.chain }, { on := 0, ground := Go.Ground.phase }, { on := 1, ground := Go.Ground.phase }, { on := 2, ground := Go.Ground.phase }, { on := 3, ground := Go.Ground.phase }, { on := 4, ground := Go.Ground.phase }, { on := 5, ground := Go.Ground.phase }, { on := 6, ground := Go.Ground.phase }, { on := 7, ground := Go.Ground.phase }, { on := 8, ground := Go.Ground.phase }, { on := 9, ground := Go.Ground.phase }, { on := 10, ground := Go.Ground.phase }, { on := 11, ground := Go.Ground.phase }, { on := 12, ground := Go.Ground.phase }, { on := 13, ground := Go.Ground.phase }, { on := 14, ground := Go.Ground.phase }, { on := 15, ground := Go.Ground.phase }, { on := 16, ground := Go.Ground.phase }], guard := none }]
set_option maxHeartbeats 4000000 in
theorem cut_lay {ps : String} {F : Fence} {n : Nat} {Q : Exit → Act → World → Prop} {w : World} {t0 t2 t4 t5 t7 t8 t9 t10 t11 t12 t13 t14 t15 t16 t17 t18 t19 t20 t21 t22 t23 t24 t25 t26 t27 t28 t29 t30 t31 t32 t33 t34 t35 t36 t37 t38 t39 t40 t41 t42 t43 t44 t45 t46 t47 t48 t49 t50 t51 t52 t53 t54 t55 t56 t57 t58 t59 t60 t61 t62 t63 t64 t65 t66 t67 t68 t69 t70 t71 t72 t73 t74 t75 t76 t77 t78 t79 : Value} (kC kP pp b off x ln cap arg B m : Nat) (Ps : List (Nat × Nat × Nat)) (lv : Value)
    (hx : x < ln) (hln : ln ≤ 16384) (hm : m ≤ 16384) (hB : B ≤ w.heap.size) (hown : w.ownsRow B 94 4 lv m (pv Ps))
    (c1 : w.cell? ⟨kP, 0, none⟩ = some (.pointer (some ⟨pp, 0, none⟩))) (sv a2 a3 : Value) (ob : w.heap[pp]? = some (.cells #[sv, lv, a2, a3] 111 (0, 0))) (c3 : w.cell? ⟨kC, 0, none⟩ = some (.slice (some ⟨b, off, none⟩) ln cap)) (c4 : w.cell? ⟨b, off + x * 2 + 1, none⟩ = some (.int .u32 (arg : Int)))
    (l1 : kP < B ∧ pp < B ∧ kC < B ∧ b < B)
    (hQ : ∀ c a a' w, Q (.panic c) a w → Q (.panic c) a' w)
    (hK : ∀ a' lv' w', w'.ownsRow B 94 4 lv' (m + 1) (pv (Ps ++ [(x, ln, arg)])) → Kp (fun k => lv.ownBlock = some k) w w' → Q .normal a' (w'.setCell ⟨pp, 1, none⟩ lv')) :
    (Code.region 14 (cutOps ps) true).wpIn F n Tryz.prog Q { tmps := (t0 :: .pointer (some ⟨kC, 0, none⟩) :: t2 :: .pointer (some ⟨kP, 0, none⟩) :: t4 :: t5 :: .int .u32 (x : Int) :: t7 :: t8 :: t9 :: t10 :: t11 :: t12 :: t13 :: t14 :: t15 :: t16 :: t17 :: t18 :: t19 :: t20 :: t21 :: t22 :: t23 :: t24 :: t25 :: t26 :: t27 :: t28 :: t29 :: t30 :: t31 :: t32 :: t33 :: t34 :: t35 :: t36 :: t37 :: t38 :: t39 :: t40 :: t41 :: t42 :: t43 :: t44 :: t45 :: t46 :: t47 :: t48 :: t49 :: t50 :: t51 :: t52 :: t53 :: t54 :: t55 :: t56 :: t57 :: t58 :: t59 :: t60 :: t61 :: t62 :: t63 :: t64 :: t65 :: t66 :: t67 :: t68 :: t69 :: t70 :: t71 :: t72 :: t73 :: t74 :: t75 :: t76 :: t77 :: t78 :: t79 :: []).toArray, defers := [] } w := by
  have hxI : (x : Int) < (ln : Int) := Int.ofNat_lt.2 hx
  have c2 : w.cell? ⟨pp, 1, none⟩ = some lv := (obj_cell ob 1).trans rfl
  have hS : (fun V : World => V.cell? ⟨kP, 0, none⟩ = some (.pointer (some ⟨pp, 0, none⟩)) ∧ V.cell? ⟨pp, 1, none⟩ = some lv ∧ V.cell? ⟨kC, 0, none⟩ = some (.slice (some ⟨b, off, none⟩) ln cap) ∧ V.cell? ⟨b, off + x * 2 + 1, none⟩ = some (.int .u32 (arg : Int))) w.drew := ⟨c1, c2, c3, c4⟩
  have hwr : IntKind.u32.wrap (ln : Int) = (ln : Int) := by simp [IntKind.wrap, IntKind.bits, IntKind.signed]; omega
  obtain ⟨i0, hi, hz0, hz1, hz2⟩ := info_parts Tryz.infoP
  have hSK : ∀ (V : World) (T : Nat → Prop), Kp T w V → (∀ k, T k → B ≤ k) → (fun V : World => V.cell? ⟨kP, 0, none⟩ = some (.pointer (some ⟨pp, 0, none⟩)) ∧ V.cell? ⟨pp, 1, none⟩ = some lv ∧ V.cell? ⟨kC, 0, none⟩ = some (.slice (some ⟨b, off, none⟩) ln cap) ∧ V.cell? ⟨b, off + x * 2 + 1, none⟩ = some (.int .u32 (arg : Int))) V := fun V T hk hT => by
    have nT : ∀ k, k < B → ¬ T k := fun k hl q => by have := hT k q; omega
    exact ⟨(hk.cell (p := ⟨kP, 0, none⟩) (Nat.lt_of_lt_of_le l1.1 hB) (nT _ l1.1)).trans c1, (hk.cell (p := ⟨pp, 1, none⟩) (Nat.lt_of_lt_of_le l1.2.1 hB) (nT _ l1.2.1)).trans c2, (hk.cell (p := ⟨kC, 0, none⟩) (Nat.lt_of_lt_of_le l1.2.2.1 hB) (nT _ l1.2.2.1)).trans c3, (hk.cell (p := ⟨b, off + x * 2 + 1, none⟩) (Nat.lt_of_lt_of_le l1.2.2.2 hB) (nT _ l1.2.2.2)).trans c4⟩
  have hkd : Kp (fun _ => False) w (w.drew.alloc (.cells #[.int .u32 (x : Int), .int .u32 (ln : Int), .int .u32 (arg : Int), .int .i64 0] 94)) := ⟨rfl, rfl, rfl, (Kp.alloc (S := fun _ => False) w.drew _).size, fun k hk _ => Below.heap_alloc w.drew _ k hk⟩
  refine region_G (fun V : World => V.cell? ⟨kP, 0, none⟩ = some (.pointer (some ⟨pp, 0, none⟩)) ∧ V.cell? ⟨pp, 1, none⟩ = some lv ∧ V.cell? ⟨kC, 0, none⟩ = some (.slice (some ⟨b, off, none⟩) ln cap) ∧ V.cell? ⟨b, off + x * 2 + 1, none⟩ = some (.int .u32 (arg : Int))) 19 (fun i o h => List.all_eq_true.1 (show (cutOps ps).toList.all noDefer = true by kernel_rfl) o (List.mem_of_getElem? (by simpa using h))) (by first | assumption | kernel_rfl) ?_
  refine wpAnyG_take (i := 0) (oi := { dst := some 60, op := Go.Op.load 49 (Go.Operand.tmp 3), type := 49, pos := ps, after := #[], guard := none }) (v := ?_) rfl rfl (by kernel_rfl) (by kernel_rfl) (by kernel_rfl) (fun _ _ _ h => hQ _ _ _ _ h) (by kernel_rfl) ⟨Or.inl ⟨by rfl, ?_⟩, fun _ => rfl⟩ hS ?_
  rotate_left
  · intro w' hS'; obtain ⟨s1, s2, s3, s4⟩ := hS'; go_simp; try with_reducible rfl
  simp only [Act.put, List.setIfInBounds_toArray, List.set_cons_zero, List.set_cons_succ]
  refine wpAnyG_take (i := 1) (oi := { dst := some 61, op := Go.Op.load 49 (Go.Operand.tmp 3), type := 49, pos := ps, after := #[], guard := none }) (v := ?_) rfl rfl (by kernel_rfl) (by kernel_rfl) (by kernel_rfl) (fun _ _ _ h => hQ _ _ _ _ h) (by kernel_rfl) ⟨Or.inl ⟨by rfl, ?_⟩, fun _ => rfl⟩ hS ?_
  rotate_left
  · intro w' hS'; obtain ⟨s1, s2, s3, s4⟩ := hS'; go_simp; try with_reducible rfl
  simp only [Act.put, List.setIfInBounds_toArray, List.set_cons_zero, List.set_cons_succ]
  refine wpAnyG_take (i := 2) (oi := { dst := some 62, op := Go.Op.nilCheck (Go.Operand.tmp 61), type := 0, pos := ps, after := #[{ on := 1, ground := Go.Ground.data }], guard := none }) (v := ?_) rfl rfl (by kernel_rfl) (by kernel_rfl) (by kernel_rfl) (fun _ _ _ h => hQ _ _ _ _ h) (by kernel_rfl) ⟨Or.inl ⟨by rfl, ?_⟩, fun _ => rfl⟩ hS ?_
  rotate_left
  · intro w' hS'; obtain ⟨s1, s2, s3, s4⟩ := hS'; go_simp; try with_reducible rfl
  simp only [Act.put, List.setIfInBounds_toArray, List.set_cons_zero, List.set_cons_succ]
  refine wpAnyG_take (i := 3) (oi := { dst := some 63, op := Go.Op.fieldAddr 111 (Go.Operand.tmp 62) 1, type := 0, pos := ps, after := #[{ on := 2, ground := Go.Ground.data }], guard := none }) (v := ?_) rfl rfl (by kernel_rfl) (by kernel_rfl) (by kernel_rfl) (fun _ _ _ h => hQ _ _ _ _ h) (by kernel_rfl) ⟨Or.inl ⟨by rfl, ?_⟩, fun _ => rfl⟩ hS ?_
  rotate_left
  · intro w' hS'; obtain ⟨s1, s2, s3, s4⟩ := hS'; go_simp; try with_reducible rfl
  simp only [Act.put, List.setIfInBounds_toArray, List.set_cons_zero, List.set_cons_succ]
  refine wpAnyG_take (i := 4) (oi := { dst := some 64, op := Go.Op.load 55 (Go.Operand.tmp 63), type := 55, pos := ps, after := #[{ on := 3, ground := Go.Ground.data }], guard := none }) (v := ?_) rfl rfl (by kernel_rfl) (by kernel_rfl) (by kernel_rfl) (fun _ _ _ h => hQ _ _ _ _ h) (by kernel_rfl) ⟨Or.inl ⟨by rfl, ?_⟩, fun _ => rfl⟩ hS ?_
  rotate_left
  · intro w' hS'; obtain ⟨s1, s2, s3, s4⟩ := hS'; go_simp; try with_reducible rfl
  simp only [Act.put, List.setIfInBounds_toArray, List.set_cons_zero, List.set_cons_succ]
  refine wpAnyG_take (i := 5) (oi := { dst := some 65, op := Go.Op.move (Go.Operand.tmp 6), type := 25, pos := ps, after := #[], guard := none }) (v := ?_) rfl rfl (by kernel_rfl) (by kernel_rfl) (by kernel_rfl) (fun _ _ _ h => hQ _ _ _ _ h) (by kernel_rfl) ⟨Or.inl ⟨by rfl, ?_⟩, fun _ => rfl⟩ hS ?_
  rotate_left
  · intro w' hS'; obtain ⟨s1, s2, s3, s4⟩ := hS'; go_simp; try with_reducible rfl
  simp only [Act.put, List.setIfInBounds_toArray, List.set_cons_zero, List.set_cons_succ]
  refine wpAnyG_take (i := 6) (oi := { dst := some 66, op := Go.Op.load 22 (Go.Operand.tmp 1), type := 22, pos := ps, after := #[], guard := none }) (v := ?_) rfl rfl (by kernel_rfl) (by kernel_rfl) (by kernel_rfl) (fun _ _ _ h => hQ _ _ _ _ h) (by kernel_rfl) ⟨Or.inl ⟨by rfl, ?_⟩, fun _ => rfl⟩ hS ?_
  rotate_left
  · intro w' hS'; obtain ⟨s1, s2, s3, s4⟩ := hS'; go_simp; try with_reducible rfl
  simp only [Act.put, List.setIfInBounds_toArray, List.set_cons_zero, List.set_cons_succ]
  refine wpAnyG_take (i := 7) (oi := { dst := some 67, op := Go.Op.call { callee := Go.Callee.builtin Go.Builtin.len, args := #[Go.Operand.tmp 66], argTypes := #[22] }, type := 3, pos := ps, after := #[{ on := 6, ground := Go.Ground.data }], guard := none }) (v := ?_) rfl rfl (by kernel_rfl) (by kernel_rfl) (by kernel_rfl) (fun _ _ _ h => hQ _ _ _ _ h) (by kernel_rfl) ⟨Or.inl ⟨by rfl, ?_⟩, fun _ => rfl⟩ hS ?_
  rotate_left
  · intro w' hS'; obtain ⟨s1, s2, s3, s4⟩ := hS'; go_simp; try with_reducible rfl
  simp only [Act.put, List.setIfInBounds_toArray, List.set_cons_zero, List.set_cons_succ]
  refine wpAnyG_take (i := 8) (oi := { dst := some 68, op := Go.Op.convert 3 25 (Go.Operand.tmp 67), type := 25, pos := ps, after := #[{ on := 7, ground := Go.Ground.data }], guard := none }) (v := ?_) rfl rfl (by kernel_rfl) (by kernel_rfl) (by kernel_rfl) (fun _ _ _ h => hQ _ _ _ _ h) (by kernel_rfl) ⟨Or.inl ⟨by rfl, ?_⟩, fun _ => rfl⟩ hS ?_
  rotate_left
  · intro w' hS'; obtain ⟨s1, s2, s3, s4⟩ := hS'; go_simp; try with_reducible rfl
  simp only [Act.put, List.setIfInBounds_toArray, List.set_cons_zero, List.set_cons_succ]
  refine wpAnyG_take (i := 9) (oi := { dst := some 69, op := Go.Op.load 22 (Go.Operand.tmp 1), type := 22, pos := ps, after := #[], guard := none }) (v := ?_) rfl rfl (by kernel_rfl) (by kernel_rfl) (by kernel_rfl) (fun _ _ _ h => hQ _ _ _ _ h) (by kernel_rfl) ⟨Or.inl ⟨by rfl, ?_⟩, fun _ => rfl⟩ hS ?_
  rotate_left
  · intro w' hS'; obtain ⟨s1, s2, s3, s4⟩ := hS'; go_simp; try with_reducible rfl
  simp only [Act.put, List.setIfInBounds_toArray, List.set_cons_zero, List.set_cons_succ]
  refine wpAnyG_take (i := 10) (oi := { dst := some 70, op := Go.Op.move (Go.Operand.tmp 6), type := 25, pos := ps, after := #[], guard := none }) (v := ?_) rfl rfl (by kernel_rfl) (by kernel_rfl) (by kernel_rfl) (fun _ _ _ h => hQ _ _ _ _ h) (by kernel_rfl) ⟨Or.inl ⟨by rfl, ?_⟩, fun _ => rfl⟩ hS ?_
  rotate_left
  · intro w' hS'; obtain ⟨s1, s2, s3, s4⟩ := hS'; go_simp; try with_reducible rfl
  simp only [Act.put, List.setIfInBounds_toArray, List.set_cons_zero, List.set_cons_succ]
  refine wpAnyG_take (i := 11) (oi := { dst := some 71, op := Go.Op.indexAddr 22 (Go.Operand.tmp 69) (Go.Operand.tmp 70), type := 0, pos := ps, after := #[{ on := 9, ground := Go.Ground.data }, { on := 10, ground := Go.Ground.data }], guard := none }) (v := ?_) rfl rfl (by kernel_rfl) (by kernel_rfl) (by kernel_rfl) (fun _ _ _ h => hQ _ _ _ _ h) (by kernel_rfl) ⟨Or.inl ⟨by rfl, ?_⟩, fun _ => rfl⟩ hS ?_
  rotate_left
  · intro w' hS'; obtain ⟨s1, s2, s3, s4⟩ := hS'; go_simp; try with_reducible rfl
  simp only [Act.put, List.setIfInBounds_toArray, List.set_cons_zero, List.set_cons_succ]
  refine wpAnyG_take (i := 12) (oi := { dst := some 72, op := Go.Op.fieldAddr 43 (Go.Operand.tmp 71) 1, type := 0, pos := ps, after := #[{ on := 11, ground := Go.Ground.data }], guard := none }) (v := ?_) rfl rfl (by kernel_rfl) (by kernel_rfl) (by kernel_rfl) (fun _ _ _ h => hQ _ _ _ _ h) (by kernel_rfl) ⟨Or.inl ⟨by rfl, ?_⟩, fun _ => rfl⟩ hS ?_
  rotate_left
  · intro w' hS'; obtain ⟨s1, s2, s3, s4⟩ := hS'; go_simp; try with_reducible rfl
  simp only [Act.put, List.setIfInBounds_toArray, List.set_cons_zero, List.set_cons_succ]
  refine wpAnyG_take (i := 13) (oi := { dst := some 73, op := Go.Op.load 25 (Go.Operand.tmp 72), type := 25, pos := ps, after := #[{ on := 12, ground := Go.Ground.data }], guard := none }) (v := ?_) rfl rfl (by kernel_rfl) (by kernel_rfl) (by kernel_rfl) (fun _ _ _ h => hQ _ _ _ _ h) (by kernel_rfl) ⟨Or.inl ⟨by rfl, ?_⟩, fun _ => rfl⟩ hS ?_
  rotate_left
  · intro w' hS'; obtain ⟨s1, s2, s3, s4⟩ := hS'; go_simp; try with_reducible rfl
  simp only [Act.put, List.setIfInBounds_toArray, List.set_cons_zero, List.set_cons_succ]
  refine wpAnyG_take (i := 14) (oi := { dst := some 74, op := Go.Op.build 94 #[(0, Go.Operand.tmp 65), (1, Go.Operand.tmp 68), (2, Go.Operand.tmp 73)], type := 94, pos := ps, after := #[{ on := 5, ground := Go.Ground.data }, { on := 8, ground := Go.Ground.data }, { on := 13, ground := Go.Ground.data }], guard := none }) (v := ?_) rfl rfl (by kernel_rfl) (by kernel_rfl) (by kernel_rfl) (fun _ _ _ h => hQ _ _ _ _ h) (by kernel_rfl) ⟨Or.inl ⟨by rfl, ?_⟩, fun _ => rfl⟩ hS ?_
  rotate_left
  · intro w' hS'; obtain ⟨s1, s2, s3, s4⟩ := hS'; go_simp; try with_reducible rfl
  simp only [Act.put, List.setIfInBounds_toArray, List.set_cons_zero, List.set_cons_succ]
  refine wpAnyG_one (i := 15) (o := { dst := some 75, op := Go.Op.buildSlice 55 1 #[(0, Go.Operand.tmp 74)], type := 55, pos := ps, after := #[{ on := 14, ground := Go.Ground.data }], guard := none }) (by kernel_rfl) rfl (by rfl) ?_
  refine opG (v := .slice (some ⟨w.heap.size, 0, none⟩) 1 1) (w' := w.drew.alloc (.cells #[.int .u32 (x : Int), .int .u32 (ln : Int), .int .u32 (arg : Int), .int .i64 0] 94)) rfl rfl ?_ ⟨fun _ => ?_, ?_⟩
  · unfold execOp
    simp only [Sem.run_bind]
    rw [run_buildSlice w.drew 55 94 1 _ #[.int .u32 (x : Int), .int .u32 (ln : Int), .int .u32 (arg : Int), .int .i64 0] i0 _ Tryz.underlying55 hi hz0 (by rw [hz1]; decide) (by rw [hz1]; decide) (by rw [hz1]; kernel_rfl)]
    rfl
  · exact hSK _ _ hkd (fun _ q => q.elim)
  simp only [Act.put, List.setIfInBounds_toArray, List.set_cons_zero, List.set_cons_succ]
  generalize hW1 : w.drew.alloc (.cells #[.int .u32 (x : Int), .int .u32 (ln : Int), .int .u32 (arg : Int), .int .i64 0] 94) = W1 at hkd ⊢
  have hnews : ∀ j u, [Value.int .u32 (x : Int), .int .u32 (ln : Int), .int .u32 (arg : Int), .int .i64 0][j]? = some u → W1.cell? ((⟨w.heap.size, 0, none⟩ : Addr).add j) = some u := by
    rw [← hW1]
    intro j u hj
    match j, hj with
    | 0, hj => simp at hj; subst hj; exact (obj_cell (heap_alloc_new w.drew _) 0).trans rfl
    | 1, hj => simp at hj; subst hj; exact (obj_cell (heap_alloc_new w.drew _) 1).trans rfl
    | 2, hj => simp at hj; subst hj; exact (obj_cell (heap_alloc_new w.drew _) 2).trans rfl
    | 3, hj => simp at hj; subst hj; exact (obj_cell (heap_alloc_new w.drew _) 3).trans rfl
    | k + 4, hj => simp at hj
  have hown1 := hkd.own hown (fun _ _ q => q)
  obtain ⟨lv', w2, hr2, ho2, hg2, _, hb2⟩ := run_append_own_at (P := Tryz.prog) W1 B 55 55 94 i0 (.agg #[.int .u32 0, .int .u32 0, .int .u32 0, .int .i64 0]) 4 24 Tryz.underlying55 hi hz0 hz1 hz2 rfl (by decide) lv m (pv Ps) hown1 ⟨w.heap.size, 0, none⟩ 1 1 [.int .u32 (x : Int), .int .u32 (ln : Int), .int .u32 (arg : Int), .int .i64 0] rfl hnews (by intro u hu; simp at hu; rcases hu with rfl | rfl | rfl | rfl <;> rfl) (by unfold maxLen; omega) (by omega) (Nat.le_trans hB hkd.size)
  have hk2 : Kp (fun k => lv.ownBlock = some k) w w2 := (hkd.mono (S' := fun k => lv.ownBlock = some k) (fun _ _ q => q.elim)).trans (Kp.ofGrown (S := fun k => lv.ownBlock = some k) hg2 (fun i e _ => e)) (fun _ _ q => q)
  refine wpAnyG_one (i := 16) (o := { dst := some 76, op := Go.Op.call { callee := Go.Callee.builtin Go.Builtin.append, args := #[Go.Operand.tmp 64, Go.Operand.tmp 75], argTypes := #[55, 55] }, type := 55, pos := ps, after := #[{ on := 4, ground := Go.Ground.data }, { on := 15, ground := Go.Ground.data }], guard := none }) (by kernel_rfl) rfl (by rfl) ?_
  refine opG (v := lv') (w' := w2) rfl rfl ?_ ⟨fun _ => ?_, ?_⟩
  · unfold execOp
    simp only [resolve, invoke, builtin, Sem.run_bind, Sem.run_pure, Result.andThen_ok, List.map_toArray, List.map_cons, List.map_nil]
    show ((Builtin.append_ #[55, 55] 55 #[lv, .slice (some ⟨w.heap.size, 0, none⟩) 1 1]).run Tryz.prog W1).andThen _ = _
    rw [hr2]
    rfl
  · exact hSK _ _ hk2 (fun k q => (hown.lt k q).1)
  simp only [Act.put, List.setIfInBounds_toArray, List.set_cons_zero, List.set_cons_succ]
  refine wpAnyG_one (i := 17) (o := { dst := some 77, op := Go.Op.nilCheck (Go.Operand.tmp 60), type := 0, pos := ps, after := #[{ on := 0, ground := Go.Ground.data }, { on := 0, ground := Go.Ground.phase }, { on := 1, ground := Go.Ground.phase }, { on := 2, ground := Go.Ground.phase }, { on := 3, ground := Go.Ground.phase }, { on := 4, ground := Go.Ground.phase }, { on := 5, ground := Go.Ground.phase }, { on := 6, ground := Go.Ground.phase }, { on := 7, ground := Go.Ground.phase }, { on := 8, ground := Go.Ground.phase }, { on := 9, ground := Go.Ground.phase }, { on := 10, ground := Go.Ground.phase }, { on := 11, ground := Go.Ground.phase }, { on := 12, ground := Go.Ground.phase }, { on := 13, ground := Go.Ground.phase }, { on := 14, ground := Go.Ground.phase }, { on := 15, ground := Go.Ground.phase }, { on := 16, ground := Go.Ground.phase }], guard := none }) (by kernel_rfl) rfl (by rfl) ?_
  refine opG (v := .pointer (some ⟨pp, 0, none⟩)) (w' := w2) rfl rfl ?_ ⟨fun _ => hSK _ _ hk2 (fun k q => (hown.lt k q).1), ?_⟩
  · go_simp
  simp only [Act.put, List.setIfInBounds_toArray, List.set_cons_zero, List.set_cons_succ]
  refine wpAnyG_one (i := 18) (o := { dst := some 78, op := Go.Op.fieldAddr 111 (Go.Operand.tmp 77) 1, type := 0, pos := ps, after := #[{ on := 17, ground := Go.Ground.data }, { on := 0, ground := Go.Ground.phase }, { on := 1, ground := Go.Ground.phase }, { on := 2, ground := Go.Ground.phase }, { on := 3, ground := Go.Ground.phase }, { on := 4, ground := Go.Ground.phase }, { on := 5, ground := Go.Ground.phase }, { on := 6, ground := Go.Ground.phase }, { on := 7, ground := Go.Ground.phase }, { on := 8, ground := Go.Ground.phase }, { on := 9, ground := Go.Ground.phase }, { on := 10, ground := Go.Ground.phase }, { on := 11, ground := Go.Ground.phase }, { on := 12, ground := Go.Ground.phase }, { on := 13, ground := Go.Ground.phase }, { on := 14, ground := Go.Ground.phase }, { on := 15, ground := Go.Ground.phase }, { on := 16, ground := Go.Ground.phase }], guard := none }) (by kernel_rfl) rfl (by rfl) ?_
  refine opG (v := .pointer (some ⟨pp, 1, none⟩)) (w' := w2) rfl rfl ?_ ⟨fun _ => hSK _ _ hk2 (fun k q => (hown.lt k q).1), ?_⟩
  · go_simp
  have npp : ¬ lv.ownBlock = some pp := fun q => by have := (hown.lt pp q).1; omega
  have ob2 := (hk2.block pp (Nat.lt_of_lt_of_le l1.2.1 hB) npp).trans ob
  have cc := (obj_cell ob2 1).trans rfl
  have ff := obj_frozen ob2 1
  have hlv : ∃ ao2 len2 cap2, lv' = .slice ao2 len2 cap2 := by
    rcases ho2.2 with hn | ⟨g', cap', cur', e1, e2, e3, e4⟩
    · exact ⟨_, _, _, hn.1⟩
    · exact ⟨_, _, _, e1⟩
  obtain ⟨ao2, len2, cap2, rfl⟩ := hlv
  simp only [Act.put, List.setIfInBounds_toArray, List.set_cons_zero, List.set_cons_succ]
  refine wpAnyG_one (i := 19) (o := { dst := none, op := Go.Op.store 55 (Go.Operand.tmp 78) (Go.Operand.tmp 76), type := 0, pos := ps, after := #[{ on := 18, ground := Go.Ground.data }, { on := 16, ground := Go.Ground.data }, { on := 16, ground := Go.Ground.chain }, { on := 0, ground := Go.Ground.phase }, { on := 1, ground := Go.Ground.phase }, { on := 2, ground := Go.Ground.phase }, { on := 3, ground := Go.Ground.phase }, { on := 4, ground := Go.Ground.phase }, { on := 5, ground := Go.Ground.phase }, { on := 6, ground := Go.Ground.phase }, { on := 7, ground := Go.Ground.phase }, { on := 8, ground := Go.Ground.phase }, { on := 9, ground := Go.Ground.phase }, { on := 10, ground := Go.Ground.phase }, { on := 11, ground := Go.Ground.phase }, { on := 12, ground := Go.Ground.phase }, { on := 13, ground := Go.Ground.phase }, { on := 14, ground := Go.Ground.phase }, { on := 15, ground := Go.Ground.phase }, { on := 16, ground := Go.Ground.phase }], guard := none }) (by kernel_rfl) rfl (by rfl) ?_
  refine opG0 (w' := w2.setCell ⟨pp, 1, none⟩ (.slice ao2 len2 cap2)) rfl rfl ?_ ⟨fun q => absurd rfl q, ?_⟩
  · go_simp
  refine wpAnyG_done (by kernel_rfl) (hK _ _ _ (by rw [pv_append]; exact ho2) hk2) _
end Go.Proofs.YtgbpfejodpplbaaGreatDoor
