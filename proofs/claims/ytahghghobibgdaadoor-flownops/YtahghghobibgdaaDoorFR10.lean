import Derived.Test.YtahghghobibgdaaDoorFR8
import Derived.Laws.Cover1
namespace Go.Proofs.YtahghghobibgdaaDoor
open Go.RowKit Go.WideShapes Go.Shelf
set_option maxRecDepth 100000
set_option linter.unusedSimpArgs false
attribute [local go_sem] Oper.semAt_some

abbrev r10Ops (ps : String) : Array Oper := #[{ dst := some 44, op := Op.move (Operand.tmp 6), type := 3, pos := ps, after := #[], guard := none }, { dst := some 45, op := Op.load 27 (Operand.tmp 5), type := 27, pos := ps, after := #[], guard := none }, { dst := some 46, op := Op.move (Operand.tmp 7), type := 36, pos := ps, after := #[], guard := none }, { dst := some 47, op := Op.indexAddr 27 (Operand.tmp 45) (Operand.tmp 46), type := 0, pos := ps, after := #[{ on := 1, ground := Ground.data }, { on := 2, ground := Ground.data }], guard := none }, { dst := some 48, op := Op.load 3 (Operand.tmp 47), type := 3, pos := ps, after := #[{ on := 3, ground := Ground.data }], guard := none }, { dst := some 49, op := Op.load 3 (Operand.tmp 12), type := 3, pos := ps, after := #[], guard := none }, { dst := some 50, op := Op.call { callee := Callee.builtin Builtin.max, args := #[Operand.tmp 44, Operand.tmp 48, Operand.tmp 49], argTypes := #[3, 3, 3] }, type := 3, pos := ps, after := #[{ on := 0, ground := Ground.data }, { on := 4, ground := Ground.data }, { on := 5, ground := Ground.data }], guard := none }, { dst := some 6, op := Op.assign (Operand.tmp 50), type := 3, pos := ps, after := #[{ on := 6, ground := Ground.data }, { on := 0, ground := Ground.phase }, { on := 1, ground := Ground.phase }, { on := 2, ground := Ground.phase }, { on := 3, ground := Ground.phase }, { on := 4, ground := Ground.phase }, { on := 5, ground := Ground.phase }, { on := 6, ground := Ground.phase }], guard := none }]
set_option maxHeartbeats 4000000 in
theorem r10_lay {ps : String} {n : Nat} {Q : Exit → Act → World → Prop} {w : World} {ds : List Deferred} {t0 t1 t2 t3 t4 t8 t9 t10 t11 t13 t14 t15 t16 t17 t18 t19 t20 t21 t22 t23 t24 t25 t26 t27 t28 t29 t30 t31 t32 t33 t34 t35 t36 t37 t38 t39 t40 t41 t42 t43 t44 t45 t46 t47 t48 t49 t50 t51 t52 t53 t54 t55 t56 t57 t58 t59 t60 t61 t62 t63 t64 t65 t66 t67 t68 t69 t70 t71 t72 t73 t74 t75 t76 t77 t78 t79 t80 t81 t82 t83 t84 t85 t86 t87 : Value} (kd kr gd nD cp x : Nat) (d r need nd : Int)
    (hx : x < nD) (hS0 : (fun V : World => V.cell? ⟨kd, 0, none⟩ = some (.slice (some ⟨gd, 0, none⟩) nD cp) ∧ V.cell? ⟨gd, x, none⟩ = some (.int .i64 d) ∧ V.cell? ⟨kr, 0, none⟩ = some (.int .i64 r)) w) (hmx : (if (if need < d then d else need) < r then r else if need < d then d else need) = nd)
    (hQ : ∀ c (a : Act) d v w, Q (.panic c) (a.put d v) w → Q (.panic c) a w)
    (hK : Q .normal { tmps := (t0 :: t1 :: t2 :: t3 :: t4 :: .pointer (some ⟨kd, 0, none⟩) :: .int .i64 nd :: .int .u32 (x : Int) :: t8 :: t9 :: t10 :: t11 :: .pointer (some ⟨kr, 0, none⟩) :: t13 :: t14 :: t15 :: t16 :: t17 :: t18 :: t19 :: t20 :: t21 :: t22 :: t23 :: t24 :: t25 :: t26 :: t27 :: t28 :: t29 :: t30 :: t31 :: t32 :: t33 :: t34 :: t35 :: t36 :: t37 :: t38 :: t39 :: t40 :: t41 :: t42 :: t43 :: .int .i64 need :: .slice (some ⟨gd, 0, none⟩) nD cp :: .int .u32 (x : Int) :: .pointer (some ⟨gd, x, none⟩) :: .int .i64 d :: .int .i64 r :: .int .i64 nd :: t51 :: t52 :: t53 :: t54 :: t55 :: t56 :: t57 :: t58 :: t59 :: t60 :: t61 :: t62 :: t63 :: t64 :: t65 :: t66 :: t67 :: t68 :: t69 :: t70 :: t71 :: t72 :: t73 :: t74 :: t75 :: t76 :: t77 :: t78 :: t79 :: t80 :: t81 :: t82 :: t83 :: t84 :: t85 :: t86 :: t87 :: []).toArray, defers := ds } w.drew) :
    (Code.region 10 (r10Ops ps) true).wpIn Fence.wide n Tryd.prog Q { tmps := (t0 :: t1 :: t2 :: t3 :: t4 :: .pointer (some ⟨kd, 0, none⟩) :: .int .i64 need :: .int .u32 (x : Int) :: t8 :: t9 :: t10 :: t11 :: .pointer (some ⟨kr, 0, none⟩) :: t13 :: t14 :: t15 :: t16 :: t17 :: t18 :: t19 :: t20 :: t21 :: t22 :: t23 :: t24 :: t25 :: t26 :: t27 :: t28 :: t29 :: t30 :: t31 :: t32 :: t33 :: t34 :: t35 :: t36 :: t37 :: t38 :: t39 :: t40 :: t41 :: t42 :: t43 :: t44 :: t45 :: t46 :: t47 :: t48 :: t49 :: t50 :: t51 :: t52 :: t53 :: t54 :: t55 :: t56 :: t57 :: t58 :: t59 :: t60 :: t61 :: t62 :: t63 :: t64 :: t65 :: t66 :: t67 :: t68 :: t69 :: t70 :: t71 :: t72 :: t73 :: t74 :: t75 :: t76 :: t77 :: t78 :: t79 :: t80 :: t81 :: t82 :: t83 :: t84 :: t85 :: t86 :: t87 :: []).toArray, defers := ds } w := by
  have hxI : (x : Int) < (nD : Int) := Int.ofNat_lt.2 hx
  have hS : (fun V : World => V.cell? ⟨kd, 0, none⟩ = some (.slice (some ⟨gd, 0, none⟩) nD cp) ∧ V.cell? ⟨gd, x, none⟩ = some (.int .i64 d) ∧ V.cell? ⟨kr, 0, none⟩ = some (.int .i64 r)) w.drew := hS0
  refine region_G (fun V : World => V.cell? ⟨kd, 0, none⟩ = some (.slice (some ⟨gd, 0, none⟩) nD cp) ∧ V.cell? ⟨gd, x, none⟩ = some (.int .i64 d) ∧ V.cell? ⟨kr, 0, none⟩ = some (.int .i64 r)) 7 (fun i o h => List.all_eq_true.1 (show (r10Ops ps).toList.all noDefer = true by kernel_rfl) o (List.mem_of_getElem? (by simpa using h))) (by first | assumption | kernel_rfl) ?_
  refine wpAnyG_take (i := 0) (oi := { dst := some 44, op := Op.move (Operand.tmp 6), type := 3, pos := ps, after := #[], guard := none }) (v := ?_) rfl rfl (by kernel_rfl) (by kernel_rfl) (by kernel_rfl) (fun _ _ _ h => hQ _ _ _ _ _ h) (by kernel_rfl) ⟨Or.inl ⟨by rfl, ?_⟩, fun _ => rfl⟩ hS ?_
  rotate_left
  · intro w' hS'; obtain ⟨s0, s1, s2⟩ := hS'; go_simp; try with_reducible rfl
  simp only [Act.put, List.setIfInBounds_toArray, List.set_cons_zero, List.set_cons_succ]
  refine wpAnyG_take (i := 1) (oi := { dst := some 45, op := Op.load 27 (Operand.tmp 5), type := 27, pos := ps, after := #[], guard := none }) (v := ?_) rfl rfl (by kernel_rfl) (by kernel_rfl) (by kernel_rfl) (fun _ _ _ h => hQ _ _ _ _ _ h) (by kernel_rfl) ⟨Or.inl ⟨by rfl, ?_⟩, fun _ => rfl⟩ hS ?_
  rotate_left
  · intro w' hS'; obtain ⟨s0, s1, s2⟩ := hS'; go_simp; try with_reducible rfl
  simp only [Act.put, List.setIfInBounds_toArray, List.set_cons_zero, List.set_cons_succ]
  refine wpAnyG_take (i := 2) (oi := { dst := some 46, op := Op.move (Operand.tmp 7), type := 36, pos := ps, after := #[], guard := none }) (v := ?_) rfl rfl (by kernel_rfl) (by kernel_rfl) (by kernel_rfl) (fun _ _ _ h => hQ _ _ _ _ _ h) (by kernel_rfl) ⟨Or.inl ⟨by rfl, ?_⟩, fun _ => rfl⟩ hS ?_
  rotate_left
  · intro w' hS'; obtain ⟨s0, s1, s2⟩ := hS'; go_simp; try with_reducible rfl
  simp only [Act.put, List.setIfInBounds_toArray, List.set_cons_zero, List.set_cons_succ]
  refine wpAnyG_take (i := 3) (oi := { dst := some 47, op := Op.indexAddr 27 (Operand.tmp 45) (Operand.tmp 46), type := 0, pos := ps, after := #[{ on := 1, ground := Ground.data }, { on := 2, ground := Ground.data }], guard := none }) (v := ?_) rfl rfl (by kernel_rfl) (by kernel_rfl) (by kernel_rfl) (fun _ _ _ h => hQ _ _ _ _ _ h) (by kernel_rfl) ⟨Or.inl ⟨by rfl, ?_⟩, fun _ => rfl⟩ hS ?_
  rotate_left
  · intro w' hS'; obtain ⟨s0, s1, s2⟩ := hS'; go_simp; try with_reducible rfl
  simp only [Act.put, List.setIfInBounds_toArray, List.set_cons_zero, List.set_cons_succ]
  refine wpAnyG_take (i := 4) (oi := { dst := some 48, op := Op.load 3 (Operand.tmp 47), type := 3, pos := ps, after := #[{ on := 3, ground := Ground.data }], guard := none }) (v := ?_) rfl rfl (by kernel_rfl) (by kernel_rfl) (by kernel_rfl) (fun _ _ _ h => hQ _ _ _ _ _ h) (by kernel_rfl) ⟨Or.inl ⟨by rfl, ?_⟩, fun _ => rfl⟩ hS ?_
  rotate_left
  · intro w' hS'; obtain ⟨s0, s1, s2⟩ := hS'; go_simp; try with_reducible rfl
  simp only [Act.put, List.setIfInBounds_toArray, List.set_cons_zero, List.set_cons_succ]
  refine wpAnyG_take (i := 5) (oi := { dst := some 49, op := Op.load 3 (Operand.tmp 12), type := 3, pos := ps, after := #[], guard := none }) (v := ?_) rfl rfl (by kernel_rfl) (by kernel_rfl) (by kernel_rfl) (fun _ _ _ h => hQ _ _ _ _ _ h) (by kernel_rfl) ⟨Or.inl ⟨by rfl, ?_⟩, fun _ => rfl⟩ hS ?_
  rotate_left
  · intro w' hS'; obtain ⟨s0, s1, s2⟩ := hS'; go_simp; try with_reducible rfl
  simp only [Act.put, List.setIfInBounds_toArray, List.set_cons_zero, List.set_cons_succ]
  refine wpAnyG_take (i := 6) (oi := { dst := some 50, op := Op.call { callee := Callee.builtin Builtin.max, args := #[Operand.tmp 44, Operand.tmp 48, Operand.tmp 49], argTypes := #[3, 3, 3] }, type := 3, pos := ps, after := #[{ on := 0, ground := Ground.data }, { on := 4, ground := Ground.data }, { on := 5, ground := Ground.data }], guard := none }) (v := .int .i64 nd) rfl rfl (by kernel_rfl) (by kernel_rfl) (by kernel_rfl) (fun _ _ _ h => hQ _ _ _ _ _ h) (by kernel_rfl) ⟨Or.inl ⟨by rfl, ?_⟩, fun _ => rfl⟩ hS ?_

  · intro w' hS'; obtain ⟨s0, s1, s2⟩ := hS'; go_simp
  simp only [Act.put, List.setIfInBounds_toArray, List.set_cons_zero, List.set_cons_succ]
  refine wpAnyG_one (i := 7) (o := { dst := some 6, op := Op.assign (Operand.tmp 50), type := 3, pos := ps, after := #[{ on := 6, ground := Ground.data }, { on := 0, ground := Ground.phase }, { on := 1, ground := Ground.phase }, { on := 2, ground := Ground.phase }, { on := 3, ground := Ground.phase }, { on := 4, ground := Ground.phase }, { on := 5, ground := Ground.phase }, { on := 6, ground := Ground.phase }], guard := none }) (by kernel_rfl) rfl (by rfl) ?_
  refine opG (v := .int .i64 nd) (w' := w.drew) rfl rfl ?_ ⟨fun q => absurd rfl q, ?_⟩
  · go_simp
  simp only [Act.put, List.setIfInBounds_toArray, List.set_cons_zero, List.set_cons_succ]
  exact wpAnyG_done (by kernel_rfl) hK _
end Go.Proofs.YtahghghobibgdaaDoor
