import Derived.Test.YtgbpfejodpplbaaGreatDoorCFHr
import Derived.Test.YtgbpfejodpplbaaGreatDoorCPRg
import Derived.Laws.Cover1
namespace Go.Proofs.YtgbpfejodpplbaaGreatDoor
open Go.RowKit Go.WideShapes Go.Shelf
set_option maxRecDepth 100000
set_option linter.unusedSimpArgs false
attribute [local go_sem] Oper.semAt_some

theorem opGe {F : Fence} {n : Nat} {P : Program} {o : Oper} {a : Act} {w w' : World} {K : Act → World → Prop} {Q : Exit → Act → World → Prop} {f : FuncId} {args : Array Value} (hro : F.round = none) (hab : ∀ g, o.about P w a.eval = some g → F.fn g) (hr : (execOp a.eval o).run P w = .ok (.enter f args) w') (hn : F.depth.isSome = true → 1 ≤ n)
    (h : CallsIn F (n - 1) P f args w' fun e w'' => ∃ v, e = .returned v ∧ K (a.put o.dst v) w'') : o.wpIn F n P a w K Q := by
  unfold Oper.wpIn
  rw [hro, Oper.semAt_none, hr]
  refine ⟨hab, hn, h.mono ?_⟩
  rintro e w'' ⟨v, rfl, hk⟩
  exact hk
abbrev r8Ops (ps : String) (tt : Nat) : Array Oper := #[{ dst := some 34, op := Op.load 101 (Operand.tmp 11), type := 101, pos := ps, after := #[], guard := none }, { dst := some 35, op := Op.load 52 (Operand.tmp 5), type := 52, pos := ps, after := #[], guard := none }, { dst := some 36, op := Op.move (Operand.tmp 7), type := 25, pos := ps, after := #[], guard := none }, { dst := some 37, op := Op.indexAddr 52 (Operand.tmp 35) (Operand.tmp 36), type := 0, pos := ps, after := #[{ on := 1, ground := Ground.data }, { on := 2, ground := Ground.data }], guard := none }, { dst := some 38, op := Op.load 3 (Operand.tmp 37), type := 3, pos := ps, after := #[{ on := 3, ground := Ground.data }], guard := none }, { dst := some 39, op := Op.call { callee := Callee.value (Operand.func 84), args := #[Operand.tmp 34, Operand.tmp 38], argTypes := #[101, 3] }, type := tt, pos := ps, after := #[{ on := 0, ground := Ground.data }, { on := 4, ground := Ground.data }], guard := none }, { dst := some 33, op := Op.move (Operand.tmp 39), type := tt, pos := ps, after := #[{ on := 5, ground := Ground.data }], guard := none }, { dst := some 40, op := Op.extract (Operand.tmp 33) 0, type := 3, pos := ps, after := #[{ on := 6, ground := Ground.data }], guard := none }, { dst := some 41, op := Op.extract (Operand.tmp 33) 1, type := 30, pos := ps, after := #[{ on := 6, ground := Ground.data }, { on := 9, ground := Ground.gcOnly Departure.lateStores }], guard := none }, { dst := none, op := Op.store 3 (Operand.tmp 12) (Operand.tmp 40), type := 0, pos := ps, after := #[{ on := 7, ground := Ground.data }, { on := 5, ground := Ground.chain }, { on := 0, ground := Ground.phase }, { on := 1, ground := Ground.phase }, { on := 2, ground := Ground.phase }, { on := 3, ground := Ground.phase }, { on := 4, ground := Ground.phase }, { on := 5, ground := Ground.phase }, { on := 6, ground := Ground.phase }, { on := 7, ground := Ground.phase }, { on := 8, ground := Ground.textOnly Departure.lateStores }], guard := none }, { dst := none, op := Op.store 30 (Operand.tmp 8) (Operand.tmp 41), type := 0, pos := ps, after := #[{ on := 8, ground := Ground.data }, { on := 9, ground := Ground.chain }, { on := 0, ground := Ground.phase }, { on := 1, ground := Ground.phase }, { on := 2, ground := Ground.phase }, { on := 3, ground := Ground.phase }, { on := 4, ground := Ground.phase }, { on := 5, ground := Ground.phase }, { on := 6, ground := Ground.phase }, { on := 7, ground := Ground.phase }, { on := 8, ground := Ground.phase }, { on := 9, ground := Ground.phase }], guard := none }]
set_option maxHeartbeats 4000000 in
theorem r8_lay {ps : String} {tt : Nat} {n : Nat} {Q : Exit → Act → World → Prop} {w : World} {ds : List Deferred} {t0 t1 t2 t3 t4 t6 t9 t10 t13 t14 t15 t16 t17 t18 t19 t20 t21 t22 t23 t24 t25 t26 t27 t28 t29 t30 t31 t32 t33 t34 t35 t36 t37 t38 t39 t40 t41 t42 t43 t44 t45 t46 t47 t48 t49 t50 t51 t52 t53 t54 t55 t56 t57 t58 t59 t60 t61 t62 t63 t64 t65 t66 t67 t68 t69 t70 t71 t72 t73 t74 t75 t76 t77 t78 t79 t80 t81 t82 t83 t84 t85 t86 t87 : Value} (kd ke ki kr gd nD cp x op e : Nat) (d r : Int)
    (hx : x < nD)
    (hS0 : (fun V : World => V.cell? ⟨ki, 0, none⟩ = some (.string (opWd op)) ∧ V.cell? ⟨ki, 1, none⟩ = some (.int .i64 (opWi op : Nat)) ∧ V.cell? ⟨ki, 2, none⟩ = some (.int .u32 (opMo op : Nat)) ∧ V.cell? ⟨ki, 3, none⟩ = some (.int .i64 (opTa op : Nat)) ∧ V.cell? ⟨ki, 4, none⟩ = some (.int .i64 (opGi op : Nat)) ∧ V.cell? ⟨ki, 5, none⟩ = some (.int .u8 (opKi op : Nat)) ∧ V.cell? ⟨kd, 0, none⟩ = some (.slice (some ⟨gd, 0, none⟩) nD cp) ∧ V.cell? ⟨gd, x, none⟩ = some (.int .i64 d)) w)
    (hl : ki < w.heap.size ∧ kd < w.heap.size ∧ gd < w.heap.size ∧ kr < w.heap.size ∧ ke < w.heap.size) (hne : kr ≠ ki ∧ kr ≠ kd ∧ kr ≠ gd ∧ kr ≠ ke)
    (hr : ∃ v, w.heap[kr]? = some (.cells #[.int .i64 v] 3 (0, 0))) (he : ∃ v, w.heap[ke]? = some (.cells #[.int .i64 v] 30 (0, 0)))
    (hC : ∀ W, Calls Tryz.prog 84 #[infoV op, .int .i64 d] W fun y w' => y = .returned (.tuple #[.int .i64 r, .int .i64 e]) ∧ Below W.heap.size W w')
    (hQ : ∀ c (a : Act) d v w, Q (.panic c) (a.put d v) w → Q (.panic c) a w)
    (hK : ∀ w', Below w.heap.size w w' → Q .normal { tmps := (t0 :: t1 :: t2 :: t3 :: t4 :: .pointer (some ⟨kd, 0, none⟩) :: t6 :: .int .u32 (x : Int) :: .pointer (some ⟨ke, 0, none⟩) :: t9 :: t10 :: .pointer (some ⟨ki, 0, none⟩) :: .pointer (some ⟨kr, 0, none⟩) :: t13 :: t14 :: t15 :: t16 :: t17 :: t18 :: t19 :: t20 :: t21 :: t22 :: t23 :: t24 :: t25 :: t26 :: t27 :: t28 :: t29 :: t30 :: t31 :: t32 :: .tuple #[.int .i64 r, .int .i64 e] :: infoV op :: .slice (some ⟨gd, 0, none⟩) nD cp :: .int .u32 (x : Int) :: .pointer (some ⟨gd, x, none⟩) :: .int .i64 d :: .tuple #[.int .i64 r, .int .i64 e] :: .int .i64 r :: .int .i64 e :: t42 :: t43 :: t44 :: t45 :: t46 :: t47 :: t48 :: t49 :: t50 :: t51 :: t52 :: t53 :: t54 :: t55 :: t56 :: t57 :: t58 :: t59 :: t60 :: t61 :: t62 :: t63 :: t64 :: t65 :: t66 :: t67 :: t68 :: t69 :: t70 :: t71 :: t72 :: t73 :: t74 :: t75 :: t76 :: t77 :: t78 :: t79 :: t80 :: t81 :: t82 :: t83 :: t84 :: t85 :: t86 :: t87 :: []).toArray, defers := ds } ((w'.setCell ⟨kr, 0, none⟩ (.int .i64 r)).setCell ⟨ke, 0, none⟩ (.int .i64 e))) :
    (Code.region 8 (r8Ops ps tt) true).wpIn Fence.wide (n + 1) Tryz.prog Q { tmps := (t0 :: t1 :: t2 :: t3 :: t4 :: .pointer (some ⟨kd, 0, none⟩) :: t6 :: .int .u32 (x : Int) :: .pointer (some ⟨ke, 0, none⟩) :: t9 :: t10 :: .pointer (some ⟨ki, 0, none⟩) :: .pointer (some ⟨kr, 0, none⟩) :: t13 :: t14 :: t15 :: t16 :: t17 :: t18 :: t19 :: t20 :: t21 :: t22 :: t23 :: t24 :: t25 :: t26 :: t27 :: t28 :: t29 :: t30 :: t31 :: t32 :: t33 :: t34 :: t35 :: t36 :: t37 :: t38 :: t39 :: t40 :: t41 :: t42 :: t43 :: t44 :: t45 :: t46 :: t47 :: t48 :: t49 :: t50 :: t51 :: t52 :: t53 :: t54 :: t55 :: t56 :: t57 :: t58 :: t59 :: t60 :: t61 :: t62 :: t63 :: t64 :: t65 :: t66 :: t67 :: t68 :: t69 :: t70 :: t71 :: t72 :: t73 :: t74 :: t75 :: t76 :: t77 :: t78 :: t79 :: t80 :: t81 :: t82 :: t83 :: t84 :: t85 :: t86 :: t87 :: []).toArray, defers := ds } w := by
  have hxI : (x : Int) < (nD : Int) := Int.ofNat_lt.2 hx
  have hS : (fun V : World => V.cell? ⟨ki, 0, none⟩ = some (.string (opWd op)) ∧ V.cell? ⟨ki, 1, none⟩ = some (.int .i64 (opWi op : Nat)) ∧ V.cell? ⟨ki, 2, none⟩ = some (.int .u32 (opMo op : Nat)) ∧ V.cell? ⟨ki, 3, none⟩ = some (.int .i64 (opTa op : Nat)) ∧ V.cell? ⟨ki, 4, none⟩ = some (.int .i64 (opGi op : Nat)) ∧ V.cell? ⟨ki, 5, none⟩ = some (.int .u8 (opKi op : Nat)) ∧ V.cell? ⟨kd, 0, none⟩ = some (.slice (some ⟨gd, 0, none⟩) nD cp) ∧ V.cell? ⟨gd, x, none⟩ = some (.int .i64 d)) w.drew := hS0
  have hSb : ∀ V, Kp (fun i => i = kr) w V → (fun V : World => V.cell? ⟨ki, 0, none⟩ = some (.string (opWd op)) ∧ V.cell? ⟨ki, 1, none⟩ = some (.int .i64 (opWi op : Nat)) ∧ V.cell? ⟨ki, 2, none⟩ = some (.int .u32 (opMo op : Nat)) ∧ V.cell? ⟨ki, 3, none⟩ = some (.int .i64 (opTa op : Nat)) ∧ V.cell? ⟨ki, 4, none⟩ = some (.int .i64 (opGi op : Nat)) ∧ V.cell? ⟨ki, 5, none⟩ = some (.int .u8 (opKi op : Nat)) ∧ V.cell? ⟨kd, 0, none⟩ = some (.slice (some ⟨gd, 0, none⟩) nD cp) ∧ V.cell? ⟨gd, x, none⟩ = some (.int .i64 d)) V := fun V hk => by
    obtain ⟨s0, s1, s2, s3, s4, s5, s6, s7⟩ := hS0
    exact ⟨(hk.cell (p := ⟨ki, 0, none⟩) hl.1 hne.1.symm).trans s0, (hk.cell (p := ⟨ki, 1, none⟩) hl.1 hne.1.symm).trans s1, (hk.cell (p := ⟨ki, 2, none⟩) hl.1 hne.1.symm).trans s2, (hk.cell (p := ⟨ki, 3, none⟩) hl.1 hne.1.symm).trans s3, (hk.cell (p := ⟨ki, 4, none⟩) hl.1 hne.1.symm).trans s4, (hk.cell (p := ⟨ki, 5, none⟩) hl.1 hne.1.symm).trans s5, (hk.cell (p := ⟨kd, 0, none⟩) hl.2.1 hne.2.1.symm).trans s6, (hk.cell (p := ⟨gd, x, none⟩) hl.2.2.1 hne.2.2.1.symm).trans s7⟩
  refine region_G (fun V : World => V.cell? ⟨ki, 0, none⟩ = some (.string (opWd op)) ∧ V.cell? ⟨ki, 1, none⟩ = some (.int .i64 (opWi op : Nat)) ∧ V.cell? ⟨ki, 2, none⟩ = some (.int .u32 (opMo op : Nat)) ∧ V.cell? ⟨ki, 3, none⟩ = some (.int .i64 (opTa op : Nat)) ∧ V.cell? ⟨ki, 4, none⟩ = some (.int .i64 (opGi op : Nat)) ∧ V.cell? ⟨ki, 5, none⟩ = some (.int .u8 (opKi op : Nat)) ∧ V.cell? ⟨kd, 0, none⟩ = some (.slice (some ⟨gd, 0, none⟩) nD cp) ∧ V.cell? ⟨gd, x, none⟩ = some (.int .i64 d)) 10 (fun i o h => List.all_eq_true.1 (show (r8Ops ps tt).toList.all noDefer = true by kernel_rfl) o (List.mem_of_getElem? (by simpa using h))) (by first | assumption | kernel_rfl) ?_
  refine wpAnyG_take (i := 0) (oi := { dst := some 34, op := Op.load 101 (Operand.tmp 11), type := 101, pos := ps, after := #[], guard := none }) (v := ?_) rfl rfl (by kernel_rfl) (by kernel_rfl) (by kernel_rfl) (fun _ _ _ h => hQ _ _ _ _ _ h) (by kernel_rfl) ⟨Or.inl ⟨by rfl, ?_⟩, fun _ => rfl⟩ hS ?_
  rotate_left
  · intro w' hS'; obtain ⟨s0, s1, s2, s3, s4, s5, s6, s7⟩ := hS'; go_simp; try with_reducible rfl
  simp only [Act.put, List.setIfInBounds_toArray, List.set_cons_zero, List.set_cons_succ]
  refine wpAnyG_take (i := 1) (oi := { dst := some 35, op := Op.load 52 (Operand.tmp 5), type := 52, pos := ps, after := #[], guard := none }) (v := ?_) rfl rfl (by kernel_rfl) (by kernel_rfl) (by kernel_rfl) (fun _ _ _ h => hQ _ _ _ _ _ h) (by kernel_rfl) ⟨Or.inl ⟨by rfl, ?_⟩, fun _ => rfl⟩ hS ?_
  rotate_left
  · intro w' hS'; obtain ⟨s0, s1, s2, s3, s4, s5, s6, s7⟩ := hS'; go_simp; try with_reducible rfl
  simp only [Act.put, List.setIfInBounds_toArray, List.set_cons_zero, List.set_cons_succ]
  refine wpAnyG_take (i := 2) (oi := { dst := some 36, op := Op.move (Operand.tmp 7), type := 25, pos := ps, after := #[], guard := none }) (v := ?_) rfl rfl (by kernel_rfl) (by kernel_rfl) (by kernel_rfl) (fun _ _ _ h => hQ _ _ _ _ _ h) (by kernel_rfl) ⟨Or.inl ⟨by rfl, ?_⟩, fun _ => rfl⟩ hS ?_
  rotate_left
  · intro w' hS'; obtain ⟨s0, s1, s2, s3, s4, s5, s6, s7⟩ := hS'; go_simp; try with_reducible rfl
  simp only [Act.put, List.setIfInBounds_toArray, List.set_cons_zero, List.set_cons_succ]
  refine wpAnyG_take (i := 3) (oi := { dst := some 37, op := Op.indexAddr 52 (Operand.tmp 35) (Operand.tmp 36), type := 0, pos := ps, after := #[{ on := 1, ground := Ground.data }, { on := 2, ground := Ground.data }], guard := none }) (v := ?_) rfl rfl (by kernel_rfl) (by kernel_rfl) (by kernel_rfl) (fun _ _ _ h => hQ _ _ _ _ _ h) (by kernel_rfl) ⟨Or.inl ⟨by rfl, ?_⟩, fun _ => rfl⟩ hS ?_
  rotate_left
  · intro w' hS'; obtain ⟨s0, s1, s2, s3, s4, s5, s6, s7⟩ := hS'; go_simp; try with_reducible rfl
  simp only [Act.put, List.setIfInBounds_toArray, List.set_cons_zero, List.set_cons_succ]
  refine wpAnyG_take (i := 4) (oi := { dst := some 38, op := Op.load 3 (Operand.tmp 37), type := 3, pos := ps, after := #[{ on := 3, ground := Ground.data }], guard := none }) (v := ?_) rfl rfl (by kernel_rfl) (by kernel_rfl) (by kernel_rfl) (fun _ _ _ h => hQ _ _ _ _ _ h) (by kernel_rfl) ⟨Or.inl ⟨by rfl, ?_⟩, fun _ => rfl⟩ hS ?_
  rotate_left
  · intro w' hS'; obtain ⟨s0, s1, s2, s3, s4, s5, s6, s7⟩ := hS'; go_simp; try with_reducible rfl
  simp only [Act.put, List.setIfInBounds_toArray, List.set_cons_zero, List.set_cons_succ]
  refine wpAnyG_one (i := 5) (o := { dst := some 39, op := Op.call { callee := Callee.value (Operand.func 84), args := #[Operand.tmp 34, Operand.tmp 38], argTypes := #[101, 3] }, type := tt, pos := ps, after := #[{ on := 0, ground := Ground.data }, { on := 4, ground := Ground.data }], guard := none }) (by kernel_rfl) rfl (by rfl) ?_
  refine opGe (f := 84) (args := #[infoV op, .int .i64 d]) (w' := w.drew) rfl (fun _ _ => trivial) ?_ (fun _ => Nat.succ_pos n) ?_
  · kernel_rfl
  refine ((callsIn_wide (n := n)).2 (hC w.drew)).mono ?_
  rintro y w1 ⟨rfl, hb1⟩
  have hb1 : Below w.heap.size w w1 := ⟨hb1.os, hb1.tape, hb1.output, hb1.size, hb1.block⟩
  refine ⟨_, rfl, fun _ => hSb _ (Kp.ofBelow hb1), ?_⟩
  replace hS := hSb _ (Kp.ofBelow hb1)
  simp only [Act.put, List.setIfInBounds_toArray, List.set_cons_zero, List.set_cons_succ]
  refine wpAnyG_take (i := 6) (oi := { dst := some 33, op := Op.move (Operand.tmp 39), type := tt, pos := ps, after := #[{ on := 5, ground := Ground.data }], guard := none }) (v := ?_) rfl rfl (by kernel_rfl) (by kernel_rfl) (by kernel_rfl) (fun _ _ _ h => hQ _ _ _ _ _ h) (by kernel_rfl) ⟨Or.inl ⟨by rfl, ?_⟩, fun _ => rfl⟩ hS ?_
  rotate_left
  · intro w' hS'; obtain ⟨s0, s1, s2, s3, s4, s5, s6, s7⟩ := hS'; go_simp; try with_reducible rfl
  simp only [Act.put, List.setIfInBounds_toArray, List.set_cons_zero, List.set_cons_succ]
  refine wpAnyG_take (i := 7) (oi := { dst := some 40, op := Op.extract (Operand.tmp 33) 0, type := 3, pos := ps, after := #[{ on := 6, ground := Ground.data }], guard := none }) (v := ?_) rfl rfl (by kernel_rfl) (by kernel_rfl) (by kernel_rfl) (fun _ _ _ h => hQ _ _ _ _ _ h) (by kernel_rfl) ⟨Or.inl ⟨by rfl, ?_⟩, fun _ => rfl⟩ hS ?_
  rotate_left
  · intro w' hS'; obtain ⟨s0, s1, s2, s3, s4, s5, s6, s7⟩ := hS'; go_simp; try with_reducible rfl
  simp only [Act.put, List.setIfInBounds_toArray, List.set_cons_zero, List.set_cons_succ]
  refine wpAnyG_take (i := 8) (oi := { dst := some 41, op := Op.extract (Operand.tmp 33) 1, type := 30, pos := ps, after := #[{ on := 6, ground := Ground.data }, { on := 9, ground := Ground.gcOnly Departure.lateStores }], guard := none }) (v := ?_) rfl rfl (by kernel_rfl) (by kernel_rfl) (by kernel_rfl) (fun _ _ _ h => hQ _ _ _ _ _ h) (by kernel_rfl) ⟨Or.inl ⟨by rfl, ?_⟩, fun _ => rfl⟩ hS ?_
  rotate_left
  · intro w' hS'; obtain ⟨s0, s1, s2, s3, s4, s5, s6, s7⟩ := hS'; go_simp; try with_reducible rfl
  simp only [Act.put, List.setIfInBounds_toArray, List.set_cons_zero, List.set_cons_succ]
  refine wpAnyG_one (i := 9) (o := { dst := none, op := Op.store 3 (Operand.tmp 12) (Operand.tmp 40), type := 0, pos := ps, after := #[{ on := 7, ground := Ground.data }, { on := 5, ground := Ground.chain }, { on := 0, ground := Ground.phase }, { on := 1, ground := Ground.phase }, { on := 2, ground := Ground.phase }, { on := 3, ground := Ground.phase }, { on := 4, ground := Ground.phase }, { on := 5, ground := Ground.phase }, { on := 6, ground := Ground.phase }, { on := 7, ground := Ground.phase }, { on := 8, ground := Ground.textOnly Departure.lateStores }], guard := none }) (by kernel_rfl) rfl (by rfl) ?_
  obtain ⟨v0, hr⟩ := hr
  have or1 := heap_thru hb1 hr
  have cr := (obj_cell or1 0).trans rfl
  have fr := obj_frozen or1 0
  refine opG0 (w' := w1.setCell ⟨kr, 0, none⟩ (.int .i64 r)) rfl rfl ?_ ⟨fun _ => hSb _ ((Kp.ofBelow hb1).trans (Kp.setCell (S := fun i => i = kr) _ _ _ rfl) (fun _ _ q => q)), ?_⟩
  · go_simp
  simp only [Act.put, List.setIfInBounds_toArray, List.set_cons_zero, List.set_cons_succ]
  refine wpAnyG_one (i := 10) (o := { dst := none, op := Op.store 30 (Operand.tmp 8) (Operand.tmp 41), type := 0, pos := ps, after := #[{ on := 8, ground := Ground.data }, { on := 9, ground := Ground.chain }, { on := 0, ground := Ground.phase }, { on := 1, ground := Ground.phase }, { on := 2, ground := Ground.phase }, { on := 3, ground := Ground.phase }, { on := 4, ground := Ground.phase }, { on := 5, ground := Ground.phase }, { on := 6, ground := Ground.phase }, { on := 7, ground := Ground.phase }, { on := 8, ground := Ground.phase }, { on := 9, ground := Ground.phase }], guard := none }) (by kernel_rfl) rfl (by rfl) ?_
  obtain ⟨v1, he⟩ := he
  have oe1 := (Below.heap_setCell w1 ⟨kr, 0, none⟩ (.int .i64 r) ke (fun q => hne.2.2.2 q.symm)).trans (heap_thru hb1 he)
  have ce := (obj_cell oe1 0).trans rfl
  have fe := obj_frozen oe1 0
  refine opG0 (w' := (w1.setCell ⟨kr, 0, none⟩ (.int .i64 r)).setCell ⟨ke, 0, none⟩ (.int .i64 e)) rfl rfl ?_ ⟨fun q => absurd rfl q, ?_⟩
  · go_simp
  simp only [Act.put, List.setIfInBounds_toArray, List.set_cons_zero, List.set_cons_succ]
  exact wpAnyG_done (by kernel_rfl) (hK w1 hb1) _
end Go.Proofs.YtgbpfejodpplbaaGreatDoor
namespace Go.Proofs.YtgbpfejodpplbaaGreatDoor
open Go.RowKit Go.WideShapes Go.Shelf
set_option maxRecDepth 100000
set_option linter.unusedSimpArgs false
attribute [local go_sem] Oper.semAt_some

abbrev r10Ops (ps : String) : Array Oper := #[{ dst := some 44, op := Op.move (Operand.tmp 6), type := 3, pos := ps, after := #[], guard := none }, { dst := some 45, op := Op.load 52 (Operand.tmp 5), type := 52, pos := ps, after := #[], guard := none }, { dst := some 46, op := Op.move (Operand.tmp 7), type := 25, pos := ps, after := #[], guard := none }, { dst := some 47, op := Op.indexAddr 52 (Operand.tmp 45) (Operand.tmp 46), type := 0, pos := ps, after := #[{ on := 1, ground := Ground.data }, { on := 2, ground := Ground.data }], guard := none }, { dst := some 48, op := Op.load 3 (Operand.tmp 47), type := 3, pos := ps, after := #[{ on := 3, ground := Ground.data }], guard := none }, { dst := some 49, op := Op.load 3 (Operand.tmp 12), type := 3, pos := ps, after := #[], guard := none }, { dst := some 50, op := Op.call { callee := Callee.builtin Builtin.max, args := #[Operand.tmp 44, Operand.tmp 48, Operand.tmp 49], argTypes := #[3, 3, 3] }, type := 3, pos := ps, after := #[{ on := 0, ground := Ground.data }, { on := 4, ground := Ground.data }, { on := 5, ground := Ground.data }], guard := none }, { dst := some 6, op := Op.assign (Operand.tmp 50), type := 3, pos := ps, after := #[{ on := 6, ground := Ground.data }, { on := 0, ground := Ground.phase }, { on := 1, ground := Ground.phase }, { on := 2, ground := Ground.phase }, { on := 3, ground := Ground.phase }, { on := 4, ground := Ground.phase }, { on := 5, ground := Ground.phase }, { on := 6, ground := Ground.phase }], guard := none }]
set_option maxHeartbeats 4000000 in
theorem r10_lay {ps : String} {n : Nat} {Q : Exit → Act → World → Prop} {w : World} {ds : List Deferred} {t0 t1 t2 t3 t4 t8 t9 t10 t11 t13 t14 t15 t16 t17 t18 t19 t20 t21 t22 t23 t24 t25 t26 t27 t28 t29 t30 t31 t32 t33 t34 t35 t36 t37 t38 t39 t40 t41 t42 t43 t44 t45 t46 t47 t48 t49 t50 t51 t52 t53 t54 t55 t56 t57 t58 t59 t60 t61 t62 t63 t64 t65 t66 t67 t68 t69 t70 t71 t72 t73 t74 t75 t76 t77 t78 t79 t80 t81 t82 t83 t84 t85 t86 t87 : Value} (kd kr gd nD cp x : Nat) (d r need nd : Int)
    (hx : x < nD) (hS0 : (fun V : World => V.cell? ⟨kd, 0, none⟩ = some (.slice (some ⟨gd, 0, none⟩) nD cp) ∧ V.cell? ⟨gd, x, none⟩ = some (.int .i64 d) ∧ V.cell? ⟨kr, 0, none⟩ = some (.int .i64 r)) w) (hmx : (if (if need < d then d else need) < r then r else if need < d then d else need) = nd)
    (hQ : ∀ c (a : Act) d v w, Q (.panic c) (a.put d v) w → Q (.panic c) a w)
    (hK : Q .normal { tmps := (t0 :: t1 :: t2 :: t3 :: t4 :: .pointer (some ⟨kd, 0, none⟩) :: .int .i64 nd :: .int .u32 (x : Int) :: t8 :: t9 :: t10 :: t11 :: .pointer (some ⟨kr, 0, none⟩) :: t13 :: t14 :: t15 :: t16 :: t17 :: t18 :: t19 :: t20 :: t21 :: t22 :: t23 :: t24 :: t25 :: t26 :: t27 :: t28 :: t29 :: t30 :: t31 :: t32 :: t33 :: t34 :: t35 :: t36 :: t37 :: t38 :: t39 :: t40 :: t41 :: t42 :: t43 :: .int .i64 need :: .slice (some ⟨gd, 0, none⟩) nD cp :: .int .u32 (x : Int) :: .pointer (some ⟨gd, x, none⟩) :: .int .i64 d :: .int .i64 r :: .int .i64 nd :: t51 :: t52 :: t53 :: t54 :: t55 :: t56 :: t57 :: t58 :: t59 :: t60 :: t61 :: t62 :: t63 :: t64 :: t65 :: t66 :: t67 :: t68 :: t69 :: t70 :: t71 :: t72 :: t73 :: t74 :: t75 :: t76 :: t77 :: t78 :: t79 :: t80 :: t81 :: t82 :: t83 :: t84 :: t85 :: t86 :: t87 :: []).toArray, defers := ds } w.drew) :
    (Code.region 10 (r10Ops ps) true).wpIn Fence.wide n Tryz.prog Q { tmps := (t0 :: t1 :: t2 :: t3 :: t4 :: .pointer (some ⟨kd, 0, none⟩) :: .int .i64 need :: .int .u32 (x : Int) :: t8 :: t9 :: t10 :: t11 :: .pointer (some ⟨kr, 0, none⟩) :: t13 :: t14 :: t15 :: t16 :: t17 :: t18 :: t19 :: t20 :: t21 :: t22 :: t23 :: t24 :: t25 :: t26 :: t27 :: t28 :: t29 :: t30 :: t31 :: t32 :: t33 :: t34 :: t35 :: t36 :: t37 :: t38 :: t39 :: t40 :: t41 :: t42 :: t43 :: t44 :: t45 :: t46 :: t47 :: t48 :: t49 :: t50 :: t51 :: t52 :: t53 :: t54 :: t55 :: t56 :: t57 :: t58 :: t59 :: t60 :: t61 :: t62 :: t63 :: t64 :: t65 :: t66 :: t67 :: t68 :: t69 :: t70 :: t71 :: t72 :: t73 :: t74 :: t75 :: t76 :: t77 :: t78 :: t79 :: t80 :: t81 :: t82 :: t83 :: t84 :: t85 :: t86 :: t87 :: []).toArray, defers := ds } w := by
  have hxI : (x : Int) < (nD : Int) := Int.ofNat_lt.2 hx
  have hS : (fun V : World => V.cell? ⟨kd, 0, none⟩ = some (.slice (some ⟨gd, 0, none⟩) nD cp) ∧ V.cell? ⟨gd, x, none⟩ = some (.int .i64 d) ∧ V.cell? ⟨kr, 0, none⟩ = some (.int .i64 r)) w.drew := hS0
  refine region_G (fun V : World => V.cell? ⟨kd, 0, none⟩ = some (.slice (some ⟨gd, 0, none⟩) nD cp) ∧ V.cell? ⟨gd, x, none⟩ = some (.int .i64 d) ∧ V.cell? ⟨kr, 0, none⟩ = some (.int .i64 r)) 7 (fun i o h => List.all_eq_true.1 (show (r10Ops ps).toList.all noDefer = true by kernel_rfl) o (List.mem_of_getElem? (by simpa using h))) (by first | assumption | kernel_rfl) ?_
  refine wpAnyG_take (i := 0) (oi := { dst := some 44, op := Op.move (Operand.tmp 6), type := 3, pos := ps, after := #[], guard := none }) (v := ?_) rfl rfl (by kernel_rfl) (by kernel_rfl) (by kernel_rfl) (fun _ _ _ h => hQ _ _ _ _ _ h) (by kernel_rfl) ⟨Or.inl ⟨by rfl, ?_⟩, fun _ => rfl⟩ hS ?_
  rotate_left
  · intro w' hS'; obtain ⟨s0, s1, s2⟩ := hS'; go_simp; try with_reducible rfl
  simp only [Act.put, List.setIfInBounds_toArray, List.set_cons_zero, List.set_cons_succ]
  refine wpAnyG_take (i := 1) (oi := { dst := some 45, op := Op.load 52 (Operand.tmp 5), type := 52, pos := ps, after := #[], guard := none }) (v := ?_) rfl rfl (by kernel_rfl) (by kernel_rfl) (by kernel_rfl) (fun _ _ _ h => hQ _ _ _ _ _ h) (by kernel_rfl) ⟨Or.inl ⟨by rfl, ?_⟩, fun _ => rfl⟩ hS ?_
  rotate_left
  · intro w' hS'; obtain ⟨s0, s1, s2⟩ := hS'; go_simp; try with_reducible rfl
  simp only [Act.put, List.setIfInBounds_toArray, List.set_cons_zero, List.set_cons_succ]
  refine wpAnyG_take (i := 2) (oi := { dst := some 46, op := Op.move (Operand.tmp 7), type := 25, pos := ps, after := #[], guard := none }) (v := ?_) rfl rfl (by kernel_rfl) (by kernel_rfl) (by kernel_rfl) (fun _ _ _ h => hQ _ _ _ _ _ h) (by kernel_rfl) ⟨Or.inl ⟨by rfl, ?_⟩, fun _ => rfl⟩ hS ?_
  rotate_left
  · intro w' hS'; obtain ⟨s0, s1, s2⟩ := hS'; go_simp; try with_reducible rfl
  simp only [Act.put, List.setIfInBounds_toArray, List.set_cons_zero, List.set_cons_succ]
  refine wpAnyG_take (i := 3) (oi := { dst := some 47, op := Op.indexAddr 52 (Operand.tmp 45) (Operand.tmp 46), type := 0, pos := ps, after := #[{ on := 1, ground := Ground.data }, { on := 2, ground := Ground.data }], guard := none }) (v := ?_) rfl rfl (by kernel_rfl) (by kernel_rfl) (by kernel_rfl) (fun _ _ _ h => hQ _ _ _ _ _ h) (by kernel_rfl) ⟨Or.inl ⟨by rfl, ?_⟩, fun _ => rfl⟩ hS ?_
  rotate_left
  · intro w' hS'; obtain ⟨s0, s1, s2⟩ := hS'; go_simp; try with_reducible rfl
  simp only [Act.put, List.setIfInBounds_toArray, List.set_cons_zero, List.set_cons_succ]
  refine wpAnyG_take (i := 4) (oi := { dst := some 48, op := Op.load 3 (Operand.tmp 47), type := 3, pos := ps, after := #[{ on := 3, ground := Ground.data }], guard := none }) (v := ?_) rfl rfl (by kernel_rfl) (by kernel_rfl) (by kernel_rfl) (fun _ _ _ h => hQ _ _ _ _ _ h) (by kernel_rfl) ⟨Or.inl ⟨by rfl, ?_⟩, fun _ => rfl⟩ hS ?_
  rotate_left
  · intro w' hS'; obtain ⟨s0, s1, s2⟩ := hS'; go_simp; try with_reducible rfl
  simp only [Act.put, List.setIfInBounds_toArray, List.set_cons_zero, List.set_cons_succ]
  refine wpAnyG_take (i := 5) (oi := { dst := some 49, op := Op.load 3 (Operand.tmp 12), type := 3, pos := ps, after := #[], guard := none }) (v := ?_) rfl rfl (by kernel_rfl) (by kernel_rfl) (by kernel_rfl) (fun _ _ _ h => hQ _ _ _ _ _ h) (by kernel_rfl) ⟨Or.inl ⟨by rfl, ?_⟩, fun _ => rfl⟩ hS ?_
  rotate_left
  · intro w' hS'; obtain ⟨s0, s1, s2⟩ := hS'; go_simp; try with_reducible rfl
  simp only [Act.put, List.setIfInBounds_toArray, List.set_cons_zero, List.set_cons_succ]
  refine wpAnyG_take (i := 6) (oi := { dst := some 50, op := Op.call { callee := Callee.builtin Builtin.max, args := #[Operand.tmp 44, Operand.tmp 48, Operand.tmp 49], argTypes := #[3, 3, 3] }, type := 3, pos := ps, after := #[{ on := 0, ground := Ground.data }, { on := 4, ground := Ground.data }, { on := 5, ground := Ground.data }], guard := none }) (v := .int .i64 nd) rfl rfl (by kernel_rfl) (by kernel_rfl) (by kernel_rfl) (fun _ _ _ h => hQ _ _ _ _ _ h) (by kernel_rfl) ⟨Or.inl ⟨by rfl, ?_⟩, fun _ => rfl⟩ hS ?_

  · intro w' hS'; obtain ⟨s0, s1, s2⟩ := hS'; go_simp
  simp only [Act.put, List.setIfInBounds_toArray, List.set_cons_zero, List.set_cons_succ]
  refine wpAnyG_one (i := 7) (o := { dst := some 6, op := Op.assign (Operand.tmp 50), type := 3, pos := ps, after := #[{ on := 6, ground := Ground.data }, { on := 0, ground := Ground.phase }, { on := 1, ground := Ground.phase }, { on := 2, ground := Ground.phase }, { on := 3, ground := Ground.phase }, { on := 4, ground := Ground.phase }, { on := 5, ground := Ground.phase }, { on := 6, ground := Ground.phase }], guard := none }) (by kernel_rfl) rfl (by rfl) ?_
  refine opG (v := .int .i64 nd) (w' := w.drew) rfl rfl ?_ ⟨fun q => absurd rfl q, ?_⟩
  · go_simp
  simp only [Act.put, List.setIfInBounds_toArray, List.set_cons_zero, List.set_cons_succ]
  exact wpAnyG_done (by kernel_rfl) hK _
end Go.Proofs.YtgbpfejodpplbaaGreatDoor
namespace Go.Proofs.YtgbpfejodpplbaaGreatDoor
open Go.RowKit Go.WideShapes Go.Shelf
set_option maxRecDepth 100000

/-- what abides while ways are gone through -/
def RgI (L : List (Nat × Nat)) (J : List Nat) (k : Nat) (w0 w : World) (gd cp kr B1 m x : Nat) (D0 D : List Int) (Ds : List Nat) (nd jd r : Int) (pre : List Nat) (U : World) : Prop :=
  ∃ (E : List Int) (Wt : List Nat) (g c : Nat), WkS w0 w gd cp 0 E Wt Ds U ∧ HpW U w.heap.size (w.heap.size + 1 + 1 + 1) g c Wt ∧ (g < B1 ∨ B1 + 3 ≤ g) ∧ WkM L J k D0 E Wt nd jd x pre ∧ Boxed U kr 3 (.int .i64 r) ∧ 2 * unr E (bAt L k) (bAt L (k + 1)) + Wt.length < m ∧ E.getD x (-1) = D.getD x (-1)
def RgX (L : List (Nat × Nat)) (J : List Nat) (k x : Nat) (w0 w : World) (gd cp : Nat) (Ds : List Nat) (c : Code) (U : World) : Prop := c = .exit 0 ∧ ∃ (E : List Int) (Wt : List Nat), WkS w0 w gd cp 142 E Wt Ds U ∧ FltP L J k x 142
theorem RgI.step {L : List (Nat × Nat)} {J : List Nat} {k : Nat} {w0 w : World} {gd cp kr B1 m x : Nat} {D0 D : List Int} {Ds : List Nat} {nd jd r : Int} {pre : List Nat} {A C : World} {row : Option Nat} (h : RgI L J k w0 w gd cp kr B1 m x D0 D Ds nd jd r pre A) (hg : A.grownBy C row) (hr : ∀ r, row = some r → (∀ d ∈ Ds, d ≠ r) ∧ w.heap.size ≤ r ∧ ∃ o : Obj, A.heap[r]? = some o ∧ o.isCells = false) : RgI L J k w0 w gd cp kr B1 m x D0 D Ds nd jd r pre C := by
  obtain ⟨E, Wt, g, c, h1, h2, h3, h4, h5, h6⟩ := h
  have hk : Kp (fun k => row = some k) A C := Kp.ofGrown hg (fun i e _ => e)
  have no : ∀ b cs t fr, A.heap[b]? = some (.cells cs t fr) → ¬ row = some b := fun b cs t fr hb e => by
    obtain ⟨_, _, o, ho, hc⟩ := hr b e
    rw [hb] at ho
    cases ho
    cases hc
  obtain ⟨_, cur, ho⟩ := h2.obj
  exact ⟨E, Wt, g, c, h1.step hg hr, h2.kept hk (no _ _ _ _ h2.bx) (no _ _ _ _ ho), h3, h4, boxed_stepP h5 hg (fun r q => (hr r q).2.2), h6⟩
theorem RgX.step {L : List (Nat × Nat)} {J : List Nat} {k x : Nat} {w0 w : World} {gd cp : Nat} {Ds : List Nat} {c : Code} {A C : World} {row : Option Nat} (h : RgX L J k x w0 w gd cp Ds c A) (hg : A.grownBy C row) (hr : ∀ r, row = some r → (∀ d ∈ Ds, d ≠ r) ∧ w.heap.size ≤ r ∧ ∃ o : Obj, A.heap[r]? = some o ∧ o.isCells = false) : RgX L J k x w0 w gd cp Ds c C := by
  obtain ⟨h0, E, Wt, h1, h2⟩ := h
  exact ⟨h0, E, Wt, h1.step hg hr, h2⟩
theorem KeW.refl (w0 : World) (gd kw f e kc b1 b2 b3 : Nat) (U : World) : KeW w0 gd kw f e kc b1 b2 b3 U U := ⟨Nat.le_refl _, fun x => x, fun _ _ _ _ h1 h2 => ⟨h1, h2⟩⟩
theorem ke_kp {w0 w : World} {gd cp y g c g' c' f e kc b1 b2 b3 : Nat} {E : List Int} {Wt Wp Ds : List Nat} {U U' : World} (hw : HpW U w.heap.size (w.heap.size + 1 + 1 + 1) g c Wt) (hS' : WkS w0 w gd cp y E Wp Ds U') (hw' : HpW U' w.heap.size (w.heap.size + 1 + 1 + 1) g' c' Wp) (hk : Kp (fun i => i = gd ∨ i = g ∨ i = w.heap.size + 1 + 1 + 1) U U') (hg : g' = g ∨ U.heap.size ≤ g') (hb0 : Below w0.heap.size w0 w) (hb : ∀ b, b = b1 ∨ b = b2 ∨ b = b3 → ¬ (b = gd ∨ b = g ∨ b = w.heap.size + 1 + 1 + 1)) : KeW w0 gd (w.heap.size + 1 + 1 + 1) f e kc b1 b2 b3 U U' := by
  refine ⟨hk.size, fun q => ⟨hS'.base hb0, (hk.block b1 q.x1.lt (hb b1 (.inl rfl))).trans q.x1, (hk.block b2 q.x2.lt (hb b2 (.inr (.inl rfl)))).trans q.x2, (hk.block b3 q.x3.lt (hb b3 (.inr (.inr rfl)))).trans q.x3⟩, fun i cs t fr h1 h2 => ?_⟩
  have n1 : i ≠ gd := fun q => h2 (.inl q)
  have n2 : i ≠ w.heap.size + 1 + 1 + 1 := fun q => h2 (.inr (.inl q))
  have n3 : i ≠ g := fun q => h2 (.inr (.inr ⟨Wt.length, c, by rw [q]; exact hw.bx⟩))
  have hlt := (Array.getElem?_eq_some_iff.1 h1).1
  refine ⟨(hk.block i hlt (fun q => by rcases q with q | q | q <;> contradiction)).trans h1, fun q => ?_⟩
  rcases q with q | q | ⟨n, c2, q⟩
  · exact n1 q
  · exact n2 q
  · have h3 : U'.heap[w.heap.size + 1 + 1 + 1]? = _ := hw'.bx
    rw [h3] at q
    cases q
    rcases hg with q | q
    · exact n3 q
    · omega
theorem upon_kp {S : Nat → Prop} {B : Nat} {U U' : World} (hk : Kp S U U') (hs : ∀ i, S i → ∃ cs t fr, U.heap[i]? = some (.cells cs t fr)) : Upon B U U' :=
  ⟨hk.size, fun i o _ hi hc => (hk.block i (Array.getElem?_eq_some_iff.1 hi).1 (fun q => by
    obtain ⟨cs, t, fr, h⟩ := hs i q
    rw [h] at hi
    cases hi
    cases hc)).trans hi⟩
end Go.Proofs.YtgbpfejodpplbaaGreatDoor
