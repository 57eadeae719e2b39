import Derived.Great.BuildSlice
import Derived.Maps.AppendAt
import Derived.Test.YtpahpdgkahomlaaGreatDoorCVRw
import Derived.Test.YtpahpdgkahomlaaGreatDoorCFR8
import Derived.Test.YtpahpdgkahomlaaGreatDoorCVMd
import Derived.Test.YtpahpdgkahomlaaGreatDoorVWn
import Derived.Test.YtpahpdgkahomlaaGreatDoorCIFit
import Derived.Deep.MidRow
namespace Go.Proofs.YtpahpdgkahomlaaGreatDoor
open Go.RowKit Go.WideShapes
set_option maxRecDepth 100000
set_option linter.unusedSimpArgs false
attribute [local go_sem] Oper.semAt_some

abbrev vlOps (ps : String) : Array Oper := #[{ dst := some 25, op := Op.fieldAddr 34 (Operand.tmp 3) 4, type := 0, pos := ps, after := #[], guard := none }, { dst := some 26, op := Op.load 26 (Operand.tmp 25), type := 26, pos := ps, after := #[{ on := 0, ground := Ground.data }], guard := none }, { dst := some 27, op := Op.fieldAddr 28 (Operand.tmp 1) 5, type := 0, pos := ps, after := #[], guard := none }, { dst := some 28, op := Op.load 26 (Operand.tmp 27), type := 26, pos := ps, after := #[{ on := 2, ground := Ground.data }], guard := none }, { dst := some 29, op := Op.move (Operand.tmp 4), type := 3, pos := ps, after := #[], guard := none }, { dst := some 30, op := Op.indexAddr 26 (Operand.tmp 28) (Operand.tmp 29), type := 0, pos := ps, after := #[{ on := 3, ground := Ground.data }, { on := 4, ground := Ground.data }], guard := none }, { dst := some 31, op := Op.load 66 (Operand.tmp 30), type := 66, pos := ps, after := #[{ on := 5, ground := Ground.data }], guard := none }, { dst := some 32, op := Op.buildSlice 26 1 #[(0, Operand.tmp 31)], type := 26, pos := ps, after := #[{ on := 6, ground := Ground.data }], guard := none }, { dst := some 33, op := Op.call { callee := Callee.builtin Builtin.append, args := #[Operand.tmp 26, Operand.tmp 32], argTypes := #[26, 26] }, type := 26, pos := ps, after := #[{ on := 1, ground := Ground.data }, { on := 7, ground := Ground.data }], guard := none }, { dst := some 34, op := Op.fieldAddr 34 (Operand.tmp 3) 4, type := 0, pos := ps, after := #[{ on := 0, ground := Ground.phase }, { on := 1, ground := Ground.phase }, { on := 2, ground := Ground.phase }, { on := 3, ground := Ground.phase }, { on := 4, ground := Ground.phase }, { on := 5, ground := Ground.phase }, { on := 6, ground := Ground.phase }, { on := 7, ground := Ground.phase }, { on := 8, ground := Ground.phase }], guard := none }, { dst := none, op := Op.store 26 (Operand.tmp 34) (Operand.tmp 33), type := 0, pos := ps, after := #[{ on := 9, ground := Ground.data }, { on := 8, ground := Ground.data }, { on := 8, ground := Ground.chain }, { on := 0, ground := Ground.phase }, { on := 1, ground := Ground.phase }, { on := 2, ground := Ground.phase }, { on := 3, ground := Ground.phase }, { on := 4, ground := Ground.phase }, { on := 5, ground := Ground.phase }, { on := 6, ground := Ground.phase }, { on := 7, ground := Ground.phase }, { on := 8, ground := Ground.phase }], guard := none }]
set_option maxHeartbeats 4000000 in
theorem vl_lay {ps : String} {F : Fence} {n : Nat} {Q : Exit → Act → World → Prop} {w : World} {t0 t2 t5 t6 t7 t8 t9 t10 t11 t12 t13 t14 t15 t16 t17 t18 t19 t20 t21 t22 t23 t24 t25 t26 t27 t28 t29 t30 t31 t32 t33 t34 t35 t36 t37 t38 t39 t40 t41 t42 t43 t44 t45 t46 t47 t48 t49 t50 t51 t52 t53 t54 t55 t56 t57 t58 t59 t60 t61 t62 t63 t64 t65 t66 t67 t68 t69 t70 t71 t72 t73 t74 t75 t76 t77 t78 t79 t80 t81 : Value} (B lb ib b2 off2 e n0 cb m : Nat) (s : ByteArray) (x : Int) (lv : Value) (xs : List Value) (cs : Array Value) (hm : (m + 1) * 24 ≤ 140737488355328) (hB : B ≤ w.heap.size) (hen : (e : Int) < (n0 : Int)) (hlb : lb < B) (hib : ib < B) (hb2 : b2 < B)
    (hob : w.heap[lb]? = some (.cells cs 34)) (h9 : cs[9]? = some lv) (hi5 : w.cell? ⟨ib, 5, none⟩ = some (.slice (some ⟨b2, off2, none⟩) n0 cb)) (hc : w.cell? ⟨b2, off2 + e * 2, none⟩ = some (.string s)) (hc1 : w.cell? ⟨b2, off2 + e * 2 + 1, none⟩ = some (.int .u32 x)) (h : w.ownsRow B 66 2 lv m xs)
    (hQ : ∀ c (a : Act) d v w, Q (.panic c) (a.put d v) w → Q (.panic c) a w)
    (hK : ∀ lv' w', w'.ownsRow B 66 2 lv' (m + 1) (xs ++ [.string s, .int .u32 x]) → w'.heap[lb]? = some (.cells (cs.setIfInBounds 9 lv') 34) → Kp (fun k => k = lb ∨ lv.ownBlock = some k) w w' →
      Q .normal { tmps := (t0 :: .pointer (some ⟨ib, 0, none⟩) :: t2 :: .pointer (some ⟨lb, 0, none⟩) :: .int .i64 (e : Int) :: t5 :: t6 :: t7 :: t8 :: t9 :: t10 :: t11 :: t12 :: t13 :: t14 :: t15 :: t16 :: t17 :: t18 :: t19 :: t20 :: t21 :: t22 :: t23 :: t24 :: .pointer (some ⟨lb, 9, none⟩) :: lv :: .pointer (some ⟨ib, 5, none⟩) :: .slice (some ⟨b2, off2, none⟩) n0 cb :: .int .i64 (e : Int) :: .pointer (some ⟨b2, off2 + e * 2, none⟩) :: .agg #[.string s, .int .u32 x] :: .slice (some ⟨w.heap.size, 0, none⟩) 1 1 :: lv' :: .pointer (some ⟨lb, 9, none⟩) :: t35 :: t36 :: t37 :: t38 :: t39 :: t40 :: t41 :: t42 :: t43 :: t44 :: t45 :: t46 :: t47 :: t48 :: t49 :: t50 :: t51 :: t52 :: t53 :: t54 :: t55 :: t56 :: t57 :: t58 :: t59 :: t60 :: t61 :: t62 :: t63 :: t64 :: t65 :: t66 :: t67 :: t68 :: t69 :: t70 :: t71 :: t72 :: t73 :: t74 :: t75 :: t76 :: t77 :: t78 :: t79 :: t80 :: t81 :: []).toArray, defers := [] } w') :
    (Code.region 8 (vlOps ps) true).wpIn F n Tryz.prog Q { tmps := (t0 :: .pointer (some ⟨ib, 0, none⟩) :: t2 :: .pointer (some ⟨lb, 0, none⟩) :: .int .i64 (e : Int) :: t5 :: t6 :: t7 :: t8 :: t9 :: t10 :: t11 :: t12 :: t13 :: t14 :: t15 :: t16 :: t17 :: t18 :: t19 :: t20 :: t21 :: t22 :: t23 :: t24 :: t25 :: t26 :: t27 :: t28 :: t29 :: t30 :: t31 :: t32 :: t33 :: t34 :: t35 :: t36 :: t37 :: t38 :: t39 :: t40 :: t41 :: t42 :: t43 :: t44 :: t45 :: t46 :: t47 :: t48 :: t49 :: t50 :: t51 :: t52 :: t53 :: t54 :: t55 :: t56 :: t57 :: t58 :: t59 :: t60 :: t61 :: t62 :: t63 :: t64 :: t65 :: t66 :: t67 :: t68 :: t69 :: t70 :: t71 :: t72 :: t73 :: t74 :: t75 :: t76 :: t77 :: t78 :: t79 :: t80 :: t81 :: []).toArray, defers := [] } w := by
  have cL : w.cell? ⟨lb, 9, none⟩ = some lv := (obj_cell hob 9).trans h9
  have hS : (fun V : World => V.cell? ⟨lb, 9, none⟩ = some lv ∧ V.cell? ⟨ib, 5, none⟩ = some (.slice (some ⟨b2, off2, none⟩) n0 cb) ∧ V.cell? ⟨b2, off2 + e * 2, none⟩ = some (.string s) ∧ V.cell? ⟨b2, off2 + e * 2 + 1, none⟩ = some (.int .u32 x)) w.drew := ⟨cL, hi5, hc, hc1⟩
  have hSK : ∀ (V : World) (T : Nat → Prop), Kp T w V → (∀ k, k < w.heap.size → T k → B ≤ k) → (fun V : World => V.cell? ⟨lb, 9, none⟩ = some lv ∧ V.cell? ⟨ib, 5, none⟩ = some (.slice (some ⟨b2, off2, none⟩) n0 cb) ∧ V.cell? ⟨b2, off2 + e * 2, none⟩ = some (.string s) ∧ V.cell? ⟨b2, off2 + e * 2 + 1, none⟩ = some (.int .u32 x)) V := fun V T hk hT => by
    have nT : ∀ k, k < B → ¬ T k := fun k hl q => by have := hT k (by omega) q; omega
    exact ⟨(hk.cell (p := ⟨lb, 9, none⟩) (Nat.lt_of_lt_of_le hlb hB) (nT _ hlb)).trans cL, (hk.cell (p := ⟨ib, 5, none⟩) (Nat.lt_of_lt_of_le hib hB) (nT _ hib)).trans hi5, (hk.cell (p := ⟨b2, off2 + e * 2, none⟩) (Nat.lt_of_lt_of_le hb2 hB) (nT _ hb2)).trans hc, (hk.cell (p := ⟨b2, off2 + e * 2 + 1, none⟩) (Nat.lt_of_lt_of_le hb2 hB) (nT _ hb2)).trans hc1⟩
  obtain ⟨i0, hi, hz0, hz1, hz2⟩ := info_parts infoVE
  refine region_G (fun V : World => V.cell? ⟨lb, 9, none⟩ = some lv ∧ V.cell? ⟨ib, 5, none⟩ = some (.slice (some ⟨b2, off2, none⟩) n0 cb) ∧ V.cell? ⟨b2, off2 + e * 2, none⟩ = some (.string s) ∧ V.cell? ⟨b2, off2 + e * 2 + 1, none⟩ = some (.int .u32 x)) 10 (fun i o h => List.all_eq_true.1 (show (vlOps ps).toList.all noDefer = true by kernel_rfl) o (List.mem_of_getElem? (by simpa using h))) (by first | assumption | kernel_rfl) ?_
  refine wpAnyG_take (i := 0) (oi := { dst := some 25, op := Op.fieldAddr 34 (Operand.tmp 3) 4, type := 0, pos := ps, after := #[], guard := none }) (v := ?_) rfl rfl (by kernel_rfl) (by kernel_rfl) (by kernel_rfl) (fun _ _ _ h => hQ _ _ _ _ _ h) (by kernel_rfl) ⟨Or.inl ⟨by rfl, ?_⟩, fun _ => rfl⟩ hS ?_
  rotate_left
  · intro w' hS'; obtain ⟨s1, s2, s3, s4⟩ := hS'; go_simp; try with_reducible rfl
  simp only [Act.put, List.setIfInBounds_toArray, List.set_cons_zero, List.set_cons_succ]
  refine wpAnyG_take (i := 1) (oi := { dst := some 26, op := Op.load 26 (Operand.tmp 25), type := 26, pos := ps, after := #[{ on := 0, ground := Ground.data }], guard := none }) (v := ?_) rfl rfl (by kernel_rfl) (by kernel_rfl) (by kernel_rfl) (fun _ _ _ h => hQ _ _ _ _ _ h) (by kernel_rfl) ⟨Or.inl ⟨by rfl, ?_⟩, fun _ => rfl⟩ hS ?_
  rotate_left
  · intro w' hS'; obtain ⟨s1, s2, s3, s4⟩ := hS'; go_simp; try with_reducible rfl
  simp only [Act.put, List.setIfInBounds_toArray, List.set_cons_zero, List.set_cons_succ]
  refine wpAnyG_take (i := 2) (oi := { dst := some 27, op := Op.fieldAddr 28 (Operand.tmp 1) 5, type := 0, pos := ps, after := #[], guard := none }) (v := ?_) rfl rfl (by kernel_rfl) (by kernel_rfl) (by kernel_rfl) (fun _ _ _ h => hQ _ _ _ _ _ h) (by kernel_rfl) ⟨Or.inl ⟨by rfl, ?_⟩, fun _ => rfl⟩ hS ?_
  rotate_left
  · intro w' hS'; obtain ⟨s1, s2, s3, s4⟩ := hS'; go_simp; try with_reducible rfl
  simp only [Act.put, List.setIfInBounds_toArray, List.set_cons_zero, List.set_cons_succ]
  refine wpAnyG_take (i := 3) (oi := { dst := some 28, op := Op.load 26 (Operand.tmp 27), type := 26, pos := ps, after := #[{ on := 2, ground := Ground.data }], guard := none }) (v := ?_) rfl rfl (by kernel_rfl) (by kernel_rfl) (by kernel_rfl) (fun _ _ _ h => hQ _ _ _ _ _ h) (by kernel_rfl) ⟨Or.inl ⟨by rfl, ?_⟩, fun _ => rfl⟩ hS ?_
  rotate_left
  · intro w' hS'; obtain ⟨s1, s2, s3, s4⟩ := hS'; go_simp; try with_reducible rfl
  simp only [Act.put, List.setIfInBounds_toArray, List.set_cons_zero, List.set_cons_succ]
  refine wpAnyG_take (i := 4) (oi := { dst := some 29, op := Op.move (Operand.tmp 4), type := 3, pos := ps, after := #[], guard := none }) (v := ?_) rfl rfl (by kernel_rfl) (by kernel_rfl) (by kernel_rfl) (fun _ _ _ h => hQ _ _ _ _ _ h) (by kernel_rfl) ⟨Or.inl ⟨by rfl, ?_⟩, fun _ => rfl⟩ hS ?_
  rotate_left
  · intro w' hS'; obtain ⟨s1, s2, s3, s4⟩ := hS'; go_simp; try with_reducible rfl
  simp only [Act.put, List.setIfInBounds_toArray, List.set_cons_zero, List.set_cons_succ]
  refine wpAnyG_take (i := 5) (oi := { dst := some 30, op := Op.indexAddr 26 (Operand.tmp 28) (Operand.tmp 29), type := 0, pos := ps, after := #[{ on := 3, ground := Ground.data }, { on := 4, ground := Ground.data }], guard := none }) (v := ?_) rfl rfl (by kernel_rfl) (by kernel_rfl) (by kernel_rfl) (fun _ _ _ h => hQ _ _ _ _ _ h) (by kernel_rfl) ⟨Or.inl ⟨by rfl, ?_⟩, fun _ => rfl⟩ hS ?_
  rotate_left
  · intro w' hS'; obtain ⟨s1, s2, s3, s4⟩ := hS'; go_simp; try with_reducible rfl
  simp only [Act.put, List.setIfInBounds_toArray, List.set_cons_zero, List.set_cons_succ]
  refine wpAnyG_take (i := 6) (oi := { dst := some 31, op := Op.load 66 (Operand.tmp 30), type := 66, pos := ps, after := #[{ on := 5, ground := Ground.data }], guard := none }) (v := ?_) rfl rfl (by kernel_rfl) (by kernel_rfl) (by kernel_rfl) (fun _ _ _ h => hQ _ _ _ _ _ h) (by kernel_rfl) ⟨Or.inl ⟨by rfl, ?_⟩, fun _ => rfl⟩ hS ?_
  rotate_left
  · intro w' hS'; obtain ⟨s1, s2, s3, s4⟩ := hS'; go_simp; try with_reducible rfl
  simp only [Act.put, List.setIfInBounds_toArray, List.set_cons_zero, List.set_cons_succ]
  refine wpAnyG_one (i := 7) (o := { dst := some 32, op := Op.buildSlice 26 1 #[(0, Operand.tmp 31)], type := 26, pos := ps, after := #[{ on := 6, ground := Ground.data }], guard := none }) (by kernel_rfl) rfl (by rfl) ?_
  refine opG (v := .slice (some ⟨w.heap.size, 0, none⟩) 1 1) (w' := w.drew.alloc (.cells #[.string s, .int .u32 x] 66)) rfl rfl ?_ ⟨fun _ => ?_, ?_⟩
  · unfold execOp
    simp only [Sem.run_bind]
    rw [run_buildSlice w.drew 26 66 1 _ #[.string s, .int .u32 x] i0 _ Tryz.underlying26 hi hz0 (by rw [hz1]; decide) (by rw [hz1]; decide) (by rw [hz1]; kernel_rfl)]
    rfl
  · exact hSK _ (fun _ => False) (Kp.ofBelow (belP (below_drewN (Below.refl _ _) 1))) (fun _ _ q => q.elim)
  simp only [Act.put, List.setIfInBounds_toArray, List.set_cons_zero, List.set_cons_succ]
  have hkd : Kp (fun _ => False) w (w.drew.alloc (.cells #[.string s, .int .u32 x] 66)) := Kp.ofBelow (belP (below_drewN (Below.refl _ _) 1))
  have hzW : (w.drew.alloc (.cells #[.string s, .int .u32 x] 66)).heap.size = w.heap.size + 1 := by simp
  have hnews : ∀ j u, [Value.string s, Value.int .u32 x][j]? = some u → (w.drew.alloc (.cells #[.string s, .int .u32 x] 66)).cell? ((⟨w.heap.size, 0, none⟩ : Addr).add j) = some u := by
    intro j u hj
    match j, hj with
    | 0, hj => simp at hj; subst hj; exact (obj_cell (heap_alloc_new w.drew _) 0).trans rfl
    | 1, hj => simp at hj; subst hj; exact (obj_cell (heap_alloc_new w.drew _) 1).trans rfl
    | k + 2, hj => simp at hj
  generalize w.drew.alloc (.cells #[.string s, .int .u32 x] 66) = W1 at hkd hnews hzW ⊢
  have hown2 := hkd.own h (fun _ _ q => q)
  obtain ⟨tv', w2, hr2, ho2, hg2, _, hb2'⟩ := run_append_own_at (P := Tryz.prog) W1 B 26 26 66 i0 (.agg #[.string ⟨#[]⟩, .int .u32 0]) 2 24 Tryz.underlying26 hi hz0 hz1 hz2 rfl (by decide) lv m xs hown2 ⟨w.heap.size, 0, none⟩ 1 1 [.string s, .int .u32 x] rfl hnews (by intro u hu; simp at hu; rcases hu with rfl | rfl <;> rfl) (by unfold maxLen; omega) (by omega) (Nat.le_trans hB hkd.size)
  have hk2a : Kp (fun k => lv.ownBlock = some k) W1 w2 := Kp.ofGrown hg2 (fun i e _ => e)
  have hk2 : Kp (fun k => lv.ownBlock = some k) w w2 := (hkd.mono (S' := fun k => lv.ownBlock = some k) (fun _ _ q => q.elim)).trans hk2a (fun _ _ q => q)
  refine wpAnyG_one (i := 8) (o := { dst := some 33, op := Op.call { callee := Callee.builtin Builtin.append, args := #[Operand.tmp 26, Operand.tmp 32], argTypes := #[26, 26] }, type := 26, pos := ps, after := #[{ on := 1, ground := Ground.data }, { on := 7, ground := Ground.data }], guard := none }) (by kernel_rfl) rfl (by rfl) ?_
  refine opG (v := tv') (w' := w2) rfl rfl ?_ ⟨fun _ => ?_, ?_⟩
  · unfold execOp
    simp only [resolve, invoke, builtin, Sem.run_bind, Sem.run_pure, Result.andThen_ok, List.map_toArray, List.map_cons, List.map_nil]
    show ((Builtin.append_ #[26, 26] 26 #[lv, .slice (some ⟨w.heap.size, 0, none⟩) 1 1]).run Tryz.prog W1).andThen _ = _
    rw [hr2]
    rfl
  · exact hSK _ _ hk2 (fun k _ q => (h.lt k q).1)
  simp only [Act.put, List.setIfInBounds_toArray, List.set_cons_zero, List.set_cons_succ]
  refine wpAnyG_one (i := 9) (o := { dst := some 34, op := Op.fieldAddr 34 (Operand.tmp 3) 4, type := 0, pos := ps, after := #[{ on := 0, ground := Ground.phase }, { on := 1, ground := Ground.phase }, { on := 2, ground := Ground.phase }, { on := 3, ground := Ground.phase }, { on := 4, ground := Ground.phase }, { on := 5, ground := Ground.phase }, { on := 6, ground := Ground.phase }, { on := 7, ground := Ground.phase }, { on := 8, ground := Ground.phase }], guard := none }) (by kernel_rfl) rfl (by rfl) ?_
  refine opG (v := .pointer (some ⟨lb, 9, none⟩)) (w' := w2) rfl rfl ?_ ⟨fun _ => hSK _ _ hk2 (fun k _ q => (h.lt k q).1), ?_⟩
  · go_simp
  have nlb : ¬ lv.ownBlock = some lb := fun q => by have := (h.lt lb q).1; omega
  have ob2 := (hk2.block lb (Nat.lt_of_lt_of_le hlb hB) nlb).trans hob
  have cc := (obj_cell ob2 9).trans h9
  have ff := obj_frozen ob2 9
  have hlv : ∃ ao2 len2 cap2, tv' = .slice ao2 len2 cap2 := by
    rcases ho2.2 with hn | ⟨g', cap', cur', e1, e2, e3, e4⟩
    · exact ⟨_, _, _, hn.1⟩
    · exact ⟨_, _, _, e1⟩
  obtain ⟨ao2, len2, cap2, rfl⟩ := hlv
  simp only [Act.put, List.setIfInBounds_toArray, List.set_cons_zero, List.set_cons_succ]
  refine wpAnyG_one (i := 10) (o := { dst := none, op := Op.store 26 (Operand.tmp 34) (Operand.tmp 33), type := 0, pos := ps, after := #[{ on := 9, ground := Ground.data }, { on := 8, ground := Ground.data }, { on := 8, ground := Ground.chain }, { on := 0, ground := Ground.phase }, { on := 1, ground := Ground.phase }, { on := 2, ground := Ground.phase }, { on := 3, ground := Ground.phase }, { on := 4, ground := Ground.phase }, { on := 5, ground := Ground.phase }, { on := 6, ground := Ground.phase }, { on := 7, ground := Ground.phase }, { on := 8, ground := Ground.phase }], guard := none }) (by kernel_rfl) rfl (by rfl) ?_
  refine opG0 (w' := w2.setCell ⟨lb, 9, none⟩ (.slice ao2 len2 cap2)) rfl rfl ?_ ⟨fun q => absurd rfl q, ?_⟩
  · go_simp
  refine wpAnyG_done (by kernel_rfl) (hK _ _ ?_ ?_ ?_) _
  · exact ownsRow_setCell_below (a := ⟨lb, 9, none⟩) ho2 hlb _
  · exact heap_setCell_same w2 lb 9 _ _ _ ob2
  · exact (hk2.mono (S' := fun k => k = lb ∨ lv.ownBlock = some k) (fun _ _ q => .inr q)).trans (Kp.setCell (S := fun i => i = lb) w2 ⟨lb, 9, none⟩ _ rfl) (fun _ _ q => .inl q)
end Go.Proofs.YtpahpdgkahomlaaGreatDoor
namespace Go.Proofs.YtpahpdgkahomlaaGreatDoor
open Go.RowKit Go.WideShapes Go.Shelf
set_option maxRecDepth 100000

abbrev zeL : Array Value := #[.slice none 0 0, .slice none 0 0, .slice none 0 0, .int .u32 0, .int .u32 0, .slice none 0 0, .slice none 0 0, .slice none 0 0, .slice none 0 0, .slice none 0 0]
/-- the three boxes of lend -/
structure Ld3 (w W : World) (ci cl : Array Value) : Prop where
  oi : W.heap[w.heap.size]? = some (.cells ci 28 (0, 0))
  oz : W.heap[w.heap.size + 1]? = some (.cells zeL 34 (0, 0))
  ol : W.heap[w.heap.size + 1 + 1]? = some (.cells cl 34 (0, 0))
  bl : Below w.heap.size w W
  sz : w.heap.size + 3 ≤ W.heap.size
theorem Ld3.call {w W W' : World} {ci cl : Array Value} (h : Ld3 w W ci cl) (hb : Below W.heap.size W W') : Ld3 w W' ci cl :=
  ⟨(hb.block _ (Array.getElem?_eq_some_iff.1 h.oi).1).trans h.oi, (hb.block _ (Array.getElem?_eq_some_iff.1 h.oz).1).trans h.oz, (hb.block _ (Array.getElem?_eq_some_iff.1 h.ol).1).trans h.ol, h.bl.trans (hb.mono h.bl.size), Nat.le_trans h.sz hb.size⟩
theorem Ld3.set {w W : World} {ci cl : Array Value} (h : Ld3 w W ci cl) (i : Nat) (v : Value) : Ld3 w (W.setCell ⟨w.heap.size + 1 + 1, i, none⟩ v) ci (cl.setIfInBounds i v) :=
  ⟨(Below.heap_setCell _ _ _ _ (by show w.heap.size ≠ w.heap.size + 1 + 1; omega)).trans h.oi, (Below.heap_setCell _ _ _ _ (by show w.heap.size + 1 ≠ w.heap.size + 1 + 1; omega)).trans h.oz, heap_setCell_same W _ i _ _ _ h.ol, h.bl.setCell (by show w.heap.size ≤ w.heap.size + 1 + 1; omega) _, by have := h.sz; simp; omega⟩
theorem Ld3.kp {w W W' : World} {ci cl cl' : Array Value} {S : Nat → Prop} (h : Ld3 w W ci cl) (hk : Kp S W W') (hS : ∀ k, S k → k = w.heap.size + 1 + 1 ∨ w.heap.size + 3 ≤ k) (ho : W'.heap[w.heap.size + 1 + 1]? = some (.cells cl' 34 (0, 0))) : Ld3 w W' ci cl' :=
  ⟨(hk.block _ (Array.getElem?_eq_some_iff.1 h.oi).1 (fun q => by have := hS _ q; omega)).trans h.oi, (hk.block _ (Array.getElem?_eq_some_iff.1 h.oz).1 (fun q => by have := hS _ q; omega)).trans h.oz, ho, h.bl.trans (hk.below h.bl.size (fun k q => by have := hS _ q; omega)), Nat.le_trans h.sz hk.size⟩
/-- what abides in lend -/
structure LdI (w W : World) (ci cl : Array Value) (v1 v2 v3 v4 : Value) (L : List (Nat × Nat)) (J : List Nat) (ds : List Int) (n4 : Nat) (xs : List Value) : Prop where
  x : Ld3 w W ci cl
  code : W.ownsRow (w.heap.size + 3) 70 2 v1 (L.length + 64) (cv (L ++ mksC 64))
  jumps : W.ownsRow (w.heap.size + 3) 25 1 v2 (J.length + 64) (dv (J ++ mksW 64))
  data : W.ownsRow (w.heap.size + 3) 5 1 v3 (ds.length + 64) (bv (ds ++ marks 0 64))
  names : W.ownsRow (w.heap.size + 3) 66 2 v4 n4 xs
theorem LdI.set {w W : World} {ci cl : Array Value} {v1 v2 v3 v4 : Value} {L : List (Nat × Nat)} {J : List Nat} {ds : List Int} {n4 : Nat} {xs : List Value} (h : LdI w W ci cl v1 v2 v3 v4 L J ds n4 xs) (i : Nat) (v : Value) : LdI w (W.setCell ⟨w.heap.size + 1 + 1, i, none⟩ v) ci (cl.setIfInBounds i v) v1 v2 v3 v4 L J ds n4 xs :=
  ⟨h.x.set i v, own_setg h.x.ol h.code (by decide), own_setg h.x.ol h.jumps (by decide), own_setg h.x.ol h.data (by decide), own_setg h.x.ol h.names (by decide)⟩
theorem LdI.grow {w W W' : World} {ci cl cl' : Array Value} {v1 v2 v3 v4 v4' : Value} {L : List (Nat × Nat)} {J : List Nat} {ds : List Int} {n4 n4' : Nat} {xs xs' : List Value} (h : LdI w W ci cl v1 v2 v3 v4 L J ds n4 xs) (hk : Kp (fun k => k = w.heap.size + 1 + 1 ∨ v4.ownBlock = some k) W W') (ho : W'.heap[w.heap.size + 1 + 1]? = some (.cells cl' 34 (0, 0))) (hn : W'.ownsRow (w.heap.size + 3) 66 2 v4' n4' xs') : LdI w W' ci cl' v1 v2 v3 v4' L J ds n4' xs' := by
  have ne : ∀ {e s n : Nat} {v : Value} {ys : List Value}, W.ownsRow (w.heap.size + 3) e s v n ys → e ≠ 66 → ∀ k, v.ownBlock = some k → ¬ (k = w.heap.size + 1 + 1 ∨ v4.ownBlock = some k) := fun {e s n v ys} hv he k hk' q => by
    rcases q with q | q
    · have := (hv.lt k hk').1
      omega
    · rcases hv.2 with ⟨e1, _⟩ | ⟨g1, _, cur1, e1, _, o1, _⟩
      · rw [e1] at hk'
        cases hk'
      · rw [e1] at hk'
        cases hk'
        rcases h.names.2 with ⟨e2, _⟩ | ⟨g2, _, cur2, e2, _, o2, _⟩
        · rw [e2] at q
          cases q
        · rw [e2] at q
          cases q
          exact blk_ne o1 o2 he rfl
  refine ⟨h.x.kp hk (fun k q => ?_) ho, hk.own h.code (ne h.code (by decide)), hk.own h.jumps (ne h.jumps (by decide)), hk.own h.data (ne h.data (by decide)), hn⟩
  rcases q with q | q
  · exact .inl q
  · exact .inr (h.names.lt k q).1
/-- the marks behind the names -/
def mkN (k : Nat) : List Value := (List.range k).flatMap fun i => [.string ⟨#[109, 97, 114, 107]⟩, .int .u32 (i : Nat)]
theorem mkN_succ (k : Nat) : mkN (k + 1) = mkN k ++ [.string ⟨#[109, 97, 114, 107]⟩, .int .u32 (k : Nat)] := by
  unfold mkN
  rw [List.range_succ, List.flatMap_append]
  rfl
theorem nmv_take (M : List (ByteArray × Nat)) (k : Nat) (h : k < M.length) : nmv (M.take (k + 1)) = nmv (M.take k) ++ [.string (M.getD k (.empty, 0)).1, .int .u32 ((M.getD k (.empty, 0)).2 : Nat)] := by
  rw [ptake (.empty, 0) M k h]
  simp [nmv]
/-- what lend leaves -/
def LeP (w : World) (L : List (Nat × Nat)) (J : List Nat) (ds : List Int) (z st : Nat) (M : List (ByteArray × Nat)) (e : Ending) (w' : World) : Prop :=
  ∃ a1 c1 a2 c2 a3 c3 a4 c4 r1 r2 r3 r4, e = .returned (.agg #[.slice a1 L.length c1, .slice a2 J.length c2, .slice a3 ds.length c3, .int .u32 (z : Nat), .int .u32 (st : Nat), .slice a4 M.length c4, r1, r2, r3, r4]) ∧ (r1.oneCell' = true ∧ r2.oneCell' = true ∧ r3.oneCell' = true ∧ r4.oneCell' = true) ∧ M.length ≤ c4 ∧ CRd w' a1 L w'.heap.size ∧ JRd w' a2 J w'.heap.size ∧ Reads w' a3 ds w'.heap.size ∧ NRd w' a4 M w'.heap.size ∧ Below w.heap.size w w'
theorem own_sl {w : World} {B e sz n : Nat} {v : Value} {xs : List Value} (h : w.ownsRow B e sz v (n + 64) xs) : ∃ g c, v = .slice (some ⟨g, 0, none⟩) (n + 64) c ∧ n + 64 ≤ c := by
  rcases h.2 with ⟨_, hz⟩ | ⟨g, c, cur, e1, _, _, hc, _⟩
  · omega
  · exact ⟨g, c, e1, hc⟩
theorem store_im {ops : Array Oper} {rest : List Oper} {o : Oper} {a : Act} {W : World} {Q : Exit → Act → World → Prop} (hg : o.guard = none) (p q : Operand) (ho : o.op = .store 28 p q)
    {w : World} {ci cl : Array Value} {v1 v2 v3 v4 : Value} {L : List (Nat × Nat)} {J : List Nat} {ds : List Int} {n4 : Nat} {xs : List Value} (hI : LdI w W ci cl v1 v2 v3 v4 L J ds n4 xs) (hz : cl.size = 10) (x0 x1 x2 x3 x4 x5 : Value) (h0 : a.eval p = .pointer (some ⟨w.heap.size + 1 + 1, 0, none⟩)) (h1 : a.eval q = .agg #[x0, x1, x2, x3, x4, x5]) (hx : (#[x0, x1, x2, x3, x4, x5] : Array Value).all (·.oneCell') = true)
    (cl' : Array Value) (hcl : (((((cl.setIfInBounds 0 x0).setIfInBounds 1 x1).setIfInBounds 2 x2).setIfInBounds 3 x3).setIfInBounds 4 x4).setIfInBounds 5 x5 = cl') (h : ∀ W', LdI w W' ci cl' v1 v2 v3 v4 L J ds n4 xs → wpList Tryz.prog ops Q rest (a.put o.dst undef) W') : wpList Tryz.prog ops Q (o :: rest) a W := by
  refine wpList_store_mid hg _ p q ho (w.heap.size + 1 + 1) 0 #[x0, x1, x2, x3, x4, x5] h0 h1 (fun j hj => ⟨?_, obj_frozen hI.x.ol _⟩) (by rw [sizeVIm]; rfl) hx (h _ ?_)
  · have hj' : 0 + j < cl.size := by have : j < 6 := hj; omega
    rw [obj_cell hI.x.ol, Array.getElem?_eq_getElem hj']
    rfl
  · rw [← hcl]
    exact (((((hI.set 0 x0).set 1 x1).set 2 x2).set 3 x3).set 4 x4).set 5 x5
theorem run_store_sl {P : Program} (W : World) (b i : Nat) (t : TypeId) (a : Option Addr) (n c : Nat) (hc : (W.cell? ⟨b, i, none⟩).isSome = true) (hf : W.frozen? ⟨b, i, none⟩ = false) (hi : (P.info? t).map (·.size) = some 1) :
    (storeVar t ⟨b, i, none⟩ (.slice a n c)).run P W = .ok () (W.setCell ⟨b, i, none⟩ (.slice a n c)) := by
  have := run_storeCells_cells (P := P) b i [.slice a n c] 0 W
    (fun j hj => by
      have h0 : j = 0 := by simpa using hj
      rw [h0]; simpa using hc)
    (fun j hj => by
      have h0 : j = 0 := by simpa using hj
      rw [h0]; simpa using hf)
    (fun v hv => by
      have h0 : v = .slice a n c := by simpa using hv
      rw [h0]; rfl)
  cases hq : P.info? t with
  | none => simp [hq] at hi
  | some x =>
    have hs : x.size = 1 := by simpa [hq] using hi
    simp only [Nat.add_zero] at this
    simp [storeVar, sizeOf, typeInfo, hq, Value.cells, hs]
    simpa [World.setCells] using this
theorem store_ld {ops : Array Oper} {rest : List Oper} {o : Oper} {a : Act} {W : World} {Q : Exit → Act → World → Prop} (hg : o.guard = none) (t : TypeId) (p q : Operand) (ho : o.op = .store t p q)
    {w : World} {ci cl : Array Value} {v1 v2 v3 v4 : Value} {L : List (Nat × Nat)} {J : List Nat} {ds : List Int} {n4 : Nat} {xs : List Value} (hI : LdI w W ci cl v1 v2 v3 v4 L J ds n4 xs) (hz : cl.size = 10) (i : Nat) (hi : i < 10) (hs : (Tryz.prog.info? t).map (·.size) = some 1) (x : Option Addr) (n c : Nat) (h0 : a.eval p = .pointer (some ⟨w.heap.size + 1 + 1, i, none⟩)) (h1 : a.eval q = .slice x n c)
    (cl' : Array Value) (hcl : cl.setIfInBounds i (.slice x n c) = cl') (h : ∀ W', LdI w W' ci cl' v1 v2 v3 v4 L J ds n4 xs → wpList Tryz.prog ops Q rest (a.put o.dst undef) W') : wpList Tryz.prog ops Q (o :: rest) a W := by
  have hc : (W.cell? ⟨w.heap.size + 1 + 1, i, none⟩).isSome = true := by
    have hj' : i < cl.size := by omega
    rw [obj_cell hI.x.ol, Array.getElem?_eq_getElem hj']
    rfl
  refine wpList_plain hg fun _ hK => ?_
  unfold Oper.wp execOp
  simp only [ho, h0, h1, Instr.storeAt, Instr.sureAddr, Sem.run_bind, Sem.run_pure, Result.andThen_ok, run_store_sl W _ i t x n c hc (obj_frozen hI.x.ol _) hs]
  exact hK _ _ (h _ (by rw [← hcl]; exact hI.set i _))
theorem szI1 : (Tryz.prog.info? 22).map (·.size) = some 1 := by kernel_rfl
theorem szI2 : (Tryz.prog.info? 23).map (·.size) = some 1 := by kernel_rfl
theorem szI3 : (Tryz.prog.info? 24).map (·.size) = some 1 := by kernel_rfl
theorem szI4 : (Tryz.prog.info? 26).map (·.size) = some 1 := by kernel_rfl
theorem range_obj {W : World} {b : Nat} {cs : List Value} {t : TypeId} (h : W.heap[b]? = some (.cells cs.toArray t (0, 0))) : W.rangeAt b 0 cs := fun j v hv => by
  rw [obj_cell h]
  simpa using hv
theorem getD_app {α : Type} (d : α) (L X : List α) (j : Nat) (h : j < L.length) : (L ++ X).getD j d = L.getD j d := by
  simp [List.getD_eq_getElem?_getD, List.getElem?_append_left h]
theorem crd_own {W : World} {B g m c : Nat} {L X : List (Nat × Nat)} (h : W.ownsRow B 70 2 (.slice (some ⟨g, 0, none⟩) m c) m (cv (L ++ X))) : CRd W (some ⟨g, 0, none⟩) L W.heap.size := fun _ =>
  ⟨g, 0, rfl, (h.lt g rfl).2, fun j hj => by
    have hj' : j < (L ++ X).length := by simp; omega
    obtain ⟨s0, s1⟩ := get2 (fun p : Nat × Nat => Value.int .u8 p.1) (fun p => Value.int .u32 p.2) (0, 0) (L ++ X) j hj'
    rw [getD_app _ _ _ _ hj] at s0 s1
    have a0 := h.cells (g := g) rfl _ _ s0
    have a1 := h.cells (g := g) rfl _ _ s1
    rw [add_plain] at a0 a1
    exact ⟨a0, by rw [Nat.add_assoc]; exact a1⟩⟩
theorem nrd_own {W : World} {B g m c : Nat} {M : List (ByteArray × Nat)} {X : List Value} (h : W.ownsRow B 66 2 (.slice (some ⟨g, 0, none⟩) m c) m (nmv M ++ X)) : NRd W (some ⟨g, 0, none⟩) M W.heap.size := fun _ =>
  ⟨g, 0, rfl, (h.lt g rfl).2, fun j hj => by
    obtain ⟨s0, s1⟩ := get2 (fun p : ByteArray × Nat => Value.string p.1) (fun p => Value.int .u32 (p.2 : Nat)) (.empty, 0) M j hj
    have t0 : (nmv M ++ X)[j * 2]? = some (.string (M.getD j (.empty, 0)).1) := by have q : (nmv M)[j * 2]? = _ := s0; rw [List.getElem?_append_left (List.getElem?_eq_some_iff.1 q).1]; exact q
    have t1 : (nmv M ++ X)[j * 2 + 1]? = some (.int .u32 ((M.getD j (.empty, 0)).2 : Nat)) := by have q : (nmv M)[j * 2 + 1]? = _ := s1; rw [List.getElem?_append_left (List.getElem?_eq_some_iff.1 q).1]; exact q
    have a0 := h.cells (g := g) rfl _ _ t0
    have a1 := h.cells (g := g) rfl _ _ t1
    rw [add_plain] at a0 a1
    exact ⟨a0, by rw [Nat.add_assoc]; exact a1⟩⟩
theorem jrd_own {W : World} {B g m c : Nat} {J X : List Nat} (h : W.ownsRow B 25 1 (.slice (some ⟨g, 0, none⟩) m c) m (dv (J ++ X))) : JRd W (some ⟨g, 0, none⟩) J W.heap.size := fun _ =>
  ⟨g, 0, rfl, (h.lt g rfl).2, fun j hj => by
    have s0 : (dv (J ++ X))[j]? = some (.int .u32 (J.getD j 0 : Nat)) := by
      rw [dv, List.getElem?_map, List.getElem?_append_left hj, List.getD_eq_getElem?_getD, List.getElem?_eq_getElem hj]; rfl
    have a0 := h.cells (g := g) rfl _ _ s0
    rw [add_plain] at a0
    exact a0⟩
theorem rds_own {W : World} {B g m c : Nat} {ds X : List Int} (h : W.ownsRow B 5 1 (.slice (some ⟨g, 0, none⟩) m c) m (bv (ds ++ X))) : Reads W (some ⟨g, 0, none⟩) ds W.heap.size := fun _ =>
  ⟨g, 0, rfl, (h.lt g rfl).2, fun j hj => by
    have s0 : (bv (ds ++ X))[j]? = some (.int .u8 (ds.getD j 0)) := by
      rw [bv, List.getElem?_map, List.getElem?_append_left hj, List.getD_eq_getElem?_getD, List.getElem?_eq_getElem hj]; rfl
    have a0 := h.cells (g := g) rfl _ _ s0
    rw [add_plain] at a0
    exact a0⟩
theorem at_store {P : Program} {ops : Array Oper} {Q : Exit → Act → World → Prop} {rest : List Oper} {o : Oper} {a : Act} {W : World} (t : TypeId) {p q : Operand} (_ : o.op = .store t p q) (h : wpList P ops Q (o :: rest) a W) : wpList P ops Q (o :: rest) a W := h
theorem at_load {P : Program} {ops : Array Oper} {Q : Exit → Act → World → Prop} {rest : List Oper} {o : Oper} {a : Act} {W : World} (t : TypeId) {p : Operand} (_ : o.op = .load t p) (h : wpList P ops Q (o :: rest) a W) : wpList P ops Q (o :: rest) a W := h
theorem n_add1 (a k b : Nat) (h : k < b) : a + k + 1 ≤ a + b := by omega
set_option maxHeartbeats 16000000 in
theorem lend_any (ac aj ad an : Option Addr) (cc cj cd z st cn : Nat) (L : List (Nat × Nat)) (J : List Nat) (ds : List Int) (M : List (ByteArray × Nat)) (w : World) (hn : L.length ≤ 17592186044352) (hjn : J.length ≤ 35184372088704) (hdn : ds.length ≤ 140737488351232) (hMn : (M.length + 64) * 24 ≤ 140737488355328)
    (hr : CRd w ac L w.heap.size) (hrJ : JRd w aj J w.heap.size) (hrD : Reads w ad ds w.heap.size) (hrN : NRd w an M w.heap.size) :
    Calls Tryz.prog 5 #[imV ac L.length cc aj J.length cj ad ds.length cd z st an M.length cn] w (LeP w L J ds z st M) := by
  have HR : Hid (∀ W, Below w.heap.size w W → CRd W ac L W.heap.size ∧ JRd W aj J W.heap.size ∧ Reads W ad ds W.heap.size ∧ NRd W an M w.heap.size) := hidS (fun W hW => ⟨(hr.below hW).mono hW.size, jrd_monoV (hrJ.below hW) hW.size, (hrD.below hW).mono hW.size, hrN.below hW⟩)
  clear hr hrJ hrD hrN
  obtain ⟨W0, hW0⟩ : ∃ W0, (((w.alloc (.cells (imC ac L.length cc aj J.length cj ad ds.length cd z st an M.length cn) 28)).alloc (.cells zeL 34)).alloc (.cells zeL 34)) = W0 := ⟨_, rfl⟩
  have hx0 : Ld3 w W0 (imC ac L.length cc aj J.length cj ad ds.length cd z st an M.length cn) zeL := by
    rw [← hW0]
    have q1 := heap_alloc_new w (.cells (imC ac L.length cc aj J.length cj ad ds.length cd z st an M.length cn) 28)
    have q2 := heap_alloc_new (w.alloc (.cells (imC ac L.length cc aj J.length cj ad ds.length cd z st an M.length cn) 28)) (.cells zeL 34)
    have q3 := heap_alloc_new ((w.alloc (.cells (imC ac L.length cc aj J.length cj ad ds.length cd z st an M.length cn) 28)).alloc (.cells zeL 34)) (.cells zeL 34)
    simp only [World.size_alloc] at q2 q3
    refine ⟨(Below.heap_alloc _ _ _ (by simp only [World.size_alloc]; omega)).trans ((Below.heap_alloc _ _ _ (by simp only [World.size_alloc]; omega)).trans q1), (Below.heap_alloc _ _ _ (by simp only [World.size_alloc]; omega)).trans q2, q3, belP (belP (belP (Below.refl _ _))), by simp only [World.size_alloc]; omega⟩
  have HX0 := hidS hx0
  have c0 : W0.cell? ⟨w.heap.size, 0, none⟩ = some (.slice ac L.length cc) := (obj_cell hx0.oi 0).trans rfl
  have HL1 := hidS (lentc_any ac cc L W0 hn (HR.out W0 hx0.bl).1)
  clear hx0
  go_enter Tryz.func5, Tryz.ntmps5
  go_wp2_with fail
  refine HL1.out.mono ?_
  rintro e w1 ⟨v1, rfl, own1, hb1⟩
  obtain ⟨s1, k1, rfl, hk1⟩ := own_sl own1
  have hx1 := HX0.out.call hb1
  have d1 : w1.cell? ⟨w.heap.size, 1, none⟩ = some (.slice aj J.length cj) := (obj_cell hx1.oi 1).trans rfl
  have e6 : w1.cell? ⟨w.heap.size + 1 + 1, 6, none⟩ = some (.slice none 0 0) := (obj_cell hx1.ol 6).trans rfl
  have f6 := obj_frozen hx1.ol 6
  have hy1 := hx1.set 6 (.slice (some ⟨s1, 0, none⟩) (L.length + 64) k1)
  have HL2 := hidS (lentw_any aj cj J _ hjn (HR.out _ hy1.bl).2.1)
  have HY1 := hidS (And.intro hx1 (And.intro hy1 own1))
  clear hx1 hy1 own1 c0 HL1 hW0 hb1
  go_wp2_with fail
  refine HL2.out.mono ?_
  rintro e w2 ⟨v2, rfl, own2, hb2⟩
  obtain ⟨s2, k2, rfl, hk2⟩ := own_sl own2
  have hx2 := HY1.out.2.1.call hb2
  have d2 : w2.cell? ⟨w.heap.size, 2, none⟩ = some (.slice ad ds.length cd) := (obj_cell hx2.oi 2).trans rfl
  have e7 : w2.cell? ⟨w.heap.size + 1 + 1, 7, none⟩ = some (.slice none 0 0) := (obj_cell hx2.ol 7).trans rfl
  have f7 := obj_frozen hx2.ol 7
  have hy2 := hx2.set 7 (.slice (some ⟨s2, 0, none⟩) (J.length + 64) k2)
  have HL3 := hidS (lent_any ad cd ds _ hdn (HR.out _ hy2.bl).2.2.1)
  have HY2 := hidS (And.intro hx2 (And.intro hy2 (And.intro own2 hb2)))
  clear hx2 hy2 own2 d1 e6 f6 HL2 hb2
  go_wp2_with fail
  refine HL3.out.mono ?_
  rintro e w3 ⟨v3, rfl, own3, hb3⟩
  obtain ⟨s3, k3, rfl, hk3⟩ := own_sl own3
  have hx3 := HY2.out.2.1.call hb3
  have e8 : w3.cell? ⟨w.heap.size + 1 + 1, 8, none⟩ = some (.slice none 0 0) := (obj_cell hx3.ol 8).trans rfl
  have f8 := obj_frozen hx3.ol 8
  have hy3 := hx3.set 8 (.slice (some ⟨s3, 0, none⟩) (ds.length + 64) k3)
  have z1 := HY1.out.1.sz
  have z2 := HY2.out.1.sz
  have z0 := HX0.out.sz
  have hI3 : LdI w (w3.setCell ⟨w.heap.size + 1 + 1, 8, none⟩ (.slice (some ⟨s3, 0, none⟩) (ds.length + 64) k3)) (imC ac L.length cc aj J.length cj ad ds.length cd z st an M.length cn) #[.slice none 0 0, .slice none 0 0, .slice none 0 0, .int .u32 0, .int .u32 0, .slice none 0 0, .slice (some ⟨s1, 0, none⟩) (L.length + 64) k1, .slice (some ⟨s2, 0, none⟩) (J.length + 64) k2, .slice (some ⟨s3, 0, none⟩) (ds.length + 64) k3, .slice none 0 0] (.slice (some ⟨s1, 0, none⟩) (L.length + 64) k1) (.slice (some ⟨s2, 0, none⟩) (J.length + 64) k2) (.slice (some ⟨s3, 0, none⟩) (ds.length + 64) k3) (.slice none 0 0) L J ds 0 (nmv (M.take 0)) :=
    ⟨hy3, own_setg hx3.ol (own_belowW (own_setg HY2.out.1.ol (own_belowW (own_setg HY1.out.1.ol (own_monoV HY1.out.2.2 z0) (by decide)) HY2.out.2.2.2) (by decide)) hb3) (by decide),
      own_setg hx3.ol (own_belowW (own_setg HY2.out.1.ol (own_monoV HY2.out.2.2.1 (by have := HY1.out.2.1.sz; exact this)) (by decide)) hb3) (by decide),
      own_setg hx3.ol (own_monoV own3 (by have := HY2.out.2.1.sz; exact this)) (by decide), World.ownsRow_nil _ _ _ _⟩
  have HI3 := hidS hI3
  clear hx3 hy3 own3 d2 e7 f7 HL3 hb3 HY1 HY2 HX0 z0 z1 z2 hI3
  go_wp2_with fail
  go_loopw [4] (fun u wr => ∃ (k : Nat) (v4 : Value), u = .int .i64 k ∧ k ≤ M.length ∧ LdI w wr (imC ac L.length cc aj J.length cj ad ds.length cd z st an M.length cn) #[.slice none 0 0, .slice none 0 0, .slice none 0 0, .int .u32 0, .int .u32 0, .slice none 0 0, .slice (some ⟨s1, 0, none⟩) (L.length + 64) k1, .slice (some ⟨s2, 0, none⟩) (J.length + 64) k2, .slice (some ⟨s3, 0, none⟩) (ds.length + 64) k3, v4] (.slice (some ⟨s1, 0, none⟩) (L.length + 64) k1) (.slice (some ⟨s2, 0, none⟩) (J.length + 64) k2) (.slice (some ⟨s3, 0, none⟩) (ds.length + 64) k3) v4 L J ds k (nmv (M.take k)))
    (fun u _ => M.length - (intOf u).toNat)
  case atStart => exact ⟨0, .slice none 0 0, rfl, Nat.zero_le _, HI3.out⟩
  case round =>
    clear HI3 e8 f8
    obtain ⟨k, v4, rfl, hk, hI⟩ := hrel
    have d5 : wr.cell? ⟨w.heap.size, 5, none⟩ = some (.slice an M.length cn) := (obj_cell hI.x.oi 5).trans rfl
    by_cases hlt : k < M.length
    · have hltI : (k : Int) < (M.length : Int) := by omega
      obtain ⟨b2, off2, rfl, hb2, hc⟩ := (HR.out wr hI.x.bl).2.2.2 (by omega)
      have v0 := (hc k hlt).1
      have v1 := (hc k hlt).2
      have HTk := hidS (nmv_take M k hlt)
      generalize (M.getD k (.empty, 0)).1 = s at v0 HTk
      generalize (M.getD k (.empty, 0)).2 = x at v1 HTk
      have HI := hidS hI
      have HD5 := hidS d5
      clear hI hc
      go_wp2_with fail
      refine (wpIn_wide (n := 1)).1 ?_
      refine vl_lay (w.heap.size + 3) (w.heap.size + 1 + 1) w.heap.size b2 off2 k M.length cn k s (x : Nat) v4 (nmv (M.take k)) #[.slice none 0 0, .slice none 0 0, .slice none 0 0, .int .u32 0, .int .u32 0, .slice none 0 0, .slice (some ⟨s1, 0, none⟩) (L.length + 64) k1, .slice (some ⟨s2, 0, none⟩) (J.length + 64) k2, .slice (some ⟨s3, 0, none⟩) (ds.length + 64) k3, v4] (by omega) HI.out.x.sz hltI (by omega) (by omega) (by omega) HI.out.x.ol rfl HD5.out v0 v1 HI.out.names (by rintro c a (_ | d) v w h <;> exact h) ?_
      intro lv' w5 own5 hob5 hkp5
      have HI5 := hidS (HI.out.grow hkp5 hob5 own5)
      rw [← HTk.out] at HI5
      clear own5 hob5 hkp5
      simp only [Exit.inBlock, Exit.then]
      go_wp2_with fail
      go_roundw
      case rel => exact ⟨k + 1, lv', by go_num, by omega, HI5.out⟩
      case measure => simp [intOf]; omega
    · have hltI : ¬ (k : Int) < (M.length : Int) := by omega
      have hke : M.take k = M := List.take_of_length_le (by omega)
      have hkl : k = M.length := by omega
      rw [hke] at hI
      subst hkl
      have HI := hidS hI
      obtain ⟨i0, hi, hz0, hz1, hz2⟩ := info_parts infoVE
      clear hI hke hk
      go_wp2_with fail
      go_loopw [5] (fun u wr => ∃ (k : Nat) (v4 : Value), u = .int .i64 k ∧ k ≤ 64 ∧ LdI w wr (imC ac L.length cc aj J.length cj ad ds.length cd z st an M.length cn) #[.slice none 0 0, .slice none 0 0, .slice none 0 0, .int .u32 0, .int .u32 0, .slice none 0 0, .slice (some ⟨s1, 0, none⟩) (L.length + 64) k1, .slice (some ⟨s2, 0, none⟩) (J.length + 64) k2, .slice (some ⟨s3, 0, none⟩) (ds.length + 64) k3, v4] (.slice (some ⟨s1, 0, none⟩) (L.length + 64) k1) (.slice (some ⟨s2, 0, none⟩) (J.length + 64) k2) (.slice (some ⟨s3, 0, none⟩) (ds.length + 64) k3) v4 L J ds (M.length + k) (nmv M ++ mkN k))
        (fun u _ => 64 - (intOf u).toNat)
      case atStart => exact ⟨0, v4, rfl, Nat.zero_le _, by simpa [mkN] using HI.out⟩
      case round =>
        clear HI d5
        obtain ⟨k, v4, rfl, hk, hI⟩ := hrel
        have c9 : wr.cell? ⟨w.heap.size + 1 + 1, 9, none⟩ = some v4 := (obj_cell hI.x.ol 9).trans rfl
        by_cases hlt : k < 64
        · have hltI : (k : Int) < 64 := by omega
          have hcv : (k : Int) % 4294967296 = (k : Int) := by omega
          have hcv2 : IntKind.u32.wrap (k : Int) = (k : Int) := by rw [IntKind.wrap_u32]; exact hcv
          obtain ⟨la, lc, hlv⟩ : ∃ la lc, v4 = .slice la (M.length + k) lc := by
            rcases hI.names.2 with ⟨hn0, hz0'⟩ | ⟨g', cap', cur', e1, e2⟩
            · exact ⟨none, 0, by rw [hn0, hz0']⟩
            · exact ⟨_, _, e1⟩
          subst hlv
          have HI := hidS hI
          clear hI
          go_wp2_with (at_builtin; refine wpList_append_lies _ rfl _ _ 26 rfl (w.heap.size + 3) 66 i0 (.agg #[.string ⟨#[]⟩, .int .u32 0]) 2 24 Tryz.underlying26 hi hz0 hz1 hz2 rfl (by decide) _ (M.length + k) (nmv M ++ mkN k) rfl (HI.out.names.alloc _) ⟨_, 0, none⟩ 1 1 [.string ⟨#[109, 97, 114, 107]⟩, .int .u32 (k : Nat)] rfl rfl ?x1 ?x2 (by decide) ?x3 ?x4 ?x5 (wr.heap.size + 1) (by simp) ?_)
          case x1 =>
            intro j u hj
            match j, hj with
            | 0, hj => simp at hj; subst hj; exact (new_cell _ _ _ _ _ (by simp)).trans rfl
            | 1, hj => simp at hj; subst hj; exact (new_cell _ _ _ _ _ (by simp)).trans rfl
            | (j + 2), hj => simp at hj
          case x2 => intro u hu; simp at hu; rcases hu with rfl | rfl <;> rfl
          case x3 => unfold maxLen; omega
          case x4 => exact Nat.le_trans (Nat.mul_le_mul_right 24 (n_add1 M.length k 64 hlt)) hMn
          case x5 => have := HI.out.x.sz; simp; omega
          intro g7 c7 w7 own7 hg7 hor7 _
          have hkW : Kp (fun q => (Value.slice la (M.length + k) lc).ownBlock = some q) wr w7 := (Kp.alloc wr _).trans (Kp.ofGrown (S := fun q => (Value.slice la (M.length + k) lc).ownBlock = some q) hg7 (fun i e _ => e)) (fun _ _ q => q)
          have ol7 := (hkW.block _ (Array.getElem?_eq_some_iff.1 HI.out.x.ol).1 (fun e => by have := (HI.out.names.lt _ e).1; omega)).trans HI.out.x.ol
          have m9 : w7.cell? ⟨w.heap.size + 1 + 1, 9, none⟩ = some (.slice la (M.length + k) lc) := (obj_cell ol7 9).trans rfl
          have f9 := obj_frozen ol7 9
          have HI7 : Hid (LdI w (w7.setCell ⟨w.heap.size + 1 + 1, 9, none⟩ (.slice (some ⟨g7, 0, none⟩) (M.length + k + 1) c7)) (imC ac L.length cc aj J.length cj ad ds.length cd z st an M.length cn) #[.slice none 0 0, .slice none 0 0, .slice none 0 0, .int .u32 0, .int .u32 0, .slice none 0 0, .slice (some ⟨s1, 0, none⟩) (L.length + 64) k1, .slice (some ⟨s2, 0, none⟩) (J.length + 64) k2, .slice (some ⟨s3, 0, none⟩) (ds.length + 64) k3, (.slice (some ⟨g7, 0, none⟩) (M.length + k + 1) c7)] (.slice (some ⟨s1, 0, none⟩) (L.length + 64) k1) (.slice (some ⟨s2, 0, none⟩) (J.length + 64) k2) (.slice (some ⟨s3, 0, none⟩) (ds.length + 64) k3) (.slice (some ⟨g7, 0, none⟩) (M.length + k + 1) c7) L J ds (M.length + (k + 1)) (nmv M ++ mkN (k + 1))) := hidS (HI.out.grow ((hkW.mono (S' := fun q => q = w.heap.size + 1 + 1 ∨ (Value.slice la (M.length + k) lc).ownBlock = some q) (fun _ _ q => .inr q)).trans (Kp.setCell (S := fun i => i = w.heap.size + 1 + 1) w7 ⟨w.heap.size + 1 + 1, 9, none⟩ _ rfl) (fun _ _ q => .inl q)) (heap_setCell_same w7 _ 9 _ _ _ ol7) (by
            rw [mkN_succ]
            exact ownsRow_setCell_below (a := ⟨w.heap.size + 1 + 1, 9, none⟩) own7 (by show w.heap.size + 1 + 1 < w.heap.size + 3; omega) _))
          clear own7 hg7 hor7 hkW ol7 c9
          go_wp2_with fail
          go_roundw
          case rel => exact ⟨k + 1, _, by go_num, by omega, HI7.out⟩
          case measure => simp [intOf]; omega
        · have hltI : ¬ (k : Int) < 64 := by omega
          have hke : k = 64 := by omega
          subst hke
          obtain ⟨s4, k4, rfl, hk4⟩ := own_sl hI.names
          have HI := hidS hI
          have g0 : wr.cell? ⟨w.heap.size, 0, none⟩ = some (.slice ac L.length cc) := (obj_cell hI.x.oi 0).trans rfl
          have g1 : wr.cell? ⟨w.heap.size, 1, none⟩ = some (.slice aj J.length cj) := (obj_cell hI.x.oi 1).trans rfl
          have g2 : wr.cell? ⟨w.heap.size, 2, none⟩ = some (.slice ad ds.length cd) := (obj_cell hI.x.oi 2).trans rfl
          have g3 : wr.cell? ⟨w.heap.size, 3, none⟩ = some (.int .u32 (z : Nat)) := (obj_cell hI.x.oi 3).trans rfl
          have g4 : wr.cell? ⟨w.heap.size, 4, none⟩ = some (.int .u32 (st : Nat)) := (obj_cell hI.x.oi 4).trans rfl
          have g5 : wr.cell? ⟨w.heap.size, 5, none⟩ = some (.slice an M.length cn) := (obj_cell hI.x.oi 5).trans rfl
          clear c9 hlt hk HR
          have ik1 : (L.length : Int) ≤ (k1 : Int) := by omega
          have ik2 : (J.length : Int) ≤ (k2 : Int) := by omega
          have ik3 : (ds.length : Int) ≤ (k3 : Int) := by omega
          have ik4 : (M.length : Int) ≤ (k4 : Int) := by omega
          clear hI
          rename_i K2 wrx Q0 K1 a1 K0 a0 hltx
          clear a1 K1 Q0 K2 hltx hlt
          obtain ⟨fsL, huL⟩ := undVLe
          go_wp2_with (first | (with_reducible refine at_store 28 rfl ?_; refine store_im rfl _ _ rfl HI.out rfl (.slice ac L.length cc) (.slice aj J.length cj) (.slice ad ds.length cd) (.int .u32 (z : Nat)) (.int .u32 (st : Nat)) (.slice an M.length cn) rfl rfl (by simp [Value.oneCell']) #[.slice ac L.length cc, .slice aj J.length cj, .slice ad ds.length cd, .int .u32 (z : Nat), .int .u32 (st : Nat), .slice an M.length cn, .slice (some ⟨s1, 0, none⟩) (L.length + 64) k1, .slice (some ⟨s2, 0, none⟩) (J.length + 64) k2, .slice (some ⟨s3, 0, none⟩) (ds.length + 64) k3, .slice (some ⟨s4, 0, none⟩) (M.length + 64) k4] rfl ?_; intro W4 hI4; clear g0 g1 g2 g3 g4 g5; have g0 : W4.cell? ⟨w.heap.size, 0, none⟩ = some (.slice ac L.length cc) := (obj_cell hI4.x.oi 0).trans rfl; have q6 : W4.cell? ⟨w.heap.size + 1 + 1, 6, none⟩ = some (.slice (some ⟨s1, 0, none⟩) (L.length + 64) k1) := (obj_cell hI4.x.ol 6).trans rfl; replace HI := hidS hI4; clear hI4) | (with_reducible refine at_store 22 rfl ?_; refine store_ld rfl 22 _ _ rfl HI.out rfl 0 (by decide) szI1 (some ⟨s1, 0, none⟩) L.length k1 rfl rfl #[.slice (some ⟨s1, 0, none⟩) L.length k1, .slice aj J.length cj, .slice ad ds.length cd, .int .u32 (z : Nat), .int .u32 (st : Nat), .slice an M.length cn, .slice (some ⟨s1, 0, none⟩) (L.length + 64) k1, .slice (some ⟨s2, 0, none⟩) (J.length + 64) k2, .slice (some ⟨s3, 0, none⟩) (ds.length + 64) k3, .slice (some ⟨s4, 0, none⟩) (M.length + 64) k4] rfl ?_; intro W5 hI5; clear g0 q6; have g1 : W5.cell? ⟨w.heap.size, 1, none⟩ = some (.slice aj J.length cj) := (obj_cell hI5.x.oi 1).trans rfl; have q7 : W5.cell? ⟨w.heap.size + 1 + 1, 7, none⟩ = some (.slice (some ⟨s2, 0, none⟩) (J.length + 64) k2) := (obj_cell hI5.x.ol 7).trans rfl; replace HI := hidS hI5; clear hI5) | (with_reducible refine at_store 23 rfl ?_; refine store_ld rfl 23 _ _ rfl HI.out rfl 1 (by decide) szI2 (some ⟨s2, 0, none⟩) J.length k2 rfl rfl #[.slice (some ⟨s1, 0, none⟩) L.length k1, .slice (some ⟨s2, 0, none⟩) J.length k2, .slice ad ds.length cd, .int .u32 (z : Nat), .int .u32 (st : Nat), .slice an M.length cn, .slice (some ⟨s1, 0, none⟩) (L.length + 64) k1, .slice (some ⟨s2, 0, none⟩) (J.length + 64) k2, .slice (some ⟨s3, 0, none⟩) (ds.length + 64) k3, .slice (some ⟨s4, 0, none⟩) (M.length + 64) k4] rfl ?_; intro W6 hI5; clear g1 q7; have g2 : W6.cell? ⟨w.heap.size, 2, none⟩ = some (.slice ad ds.length cd) := (obj_cell hI5.x.oi 2).trans rfl; have q8 : W6.cell? ⟨w.heap.size + 1 + 1, 8, none⟩ = some (.slice (some ⟨s3, 0, none⟩) (ds.length + 64) k3) := (obj_cell hI5.x.ol 8).trans rfl; replace HI := hidS hI5; clear hI5) | (with_reducible refine at_store 24 rfl ?_; refine store_ld rfl 24 _ _ rfl HI.out rfl 2 (by decide) szI3 (some ⟨s3, 0, none⟩) ds.length k3 rfl rfl #[.slice (some ⟨s1, 0, none⟩) L.length k1, .slice (some ⟨s2, 0, none⟩) J.length k2, .slice (some ⟨s3, 0, none⟩) ds.length k3, .int .u32 (z : Nat), .int .u32 (st : Nat), .slice an M.length cn, .slice (some ⟨s1, 0, none⟩) (L.length + 64) k1, .slice (some ⟨s2, 0, none⟩) (J.length + 64) k2, .slice (some ⟨s3, 0, none⟩) (ds.length + 64) k3, .slice (some ⟨s4, 0, none⟩) (M.length + 64) k4] rfl ?_; intro W7 hI5; clear g2 q8; have g5 : W7.cell? ⟨w.heap.size, 5, none⟩ = some (.slice an M.length cn) := (obj_cell hI5.x.oi 5).trans rfl; have q9 : W7.cell? ⟨w.heap.size + 1 + 1, 9, none⟩ = some (.slice (some ⟨s4, 0, none⟩) (M.length + 64) k4) := (obj_cell hI5.x.ol 9).trans rfl; replace HI := hidS hI5; clear hI5) | (with_reducible refine at_store 26 rfl ?_; refine store_ld rfl 26 _ _ rfl HI.out rfl 5 (by decide) szI4 (some ⟨s4, 0, none⟩) M.length k4 rfl rfl #[.slice (some ⟨s1, 0, none⟩) L.length k1, .slice (some ⟨s2, 0, none⟩) J.length k2, .slice (some ⟨s3, 0, none⟩) ds.length k3, .int .u32 (z : Nat), .int .u32 (st : Nat), .slice (some ⟨s4, 0, none⟩) M.length k4, .slice (some ⟨s1, 0, none⟩) (L.length + 64) k1, .slice (some ⟨s2, 0, none⟩) (J.length + 64) k2, .slice (some ⟨s3, 0, none⟩) (ds.length + 64) k3, .slice (some ⟨s4, 0, none⟩) (M.length + 64) k4] rfl ?_; intro W8 hI5; clear g5 q9; have q0 : W8.cell? ⟨w.heap.size + 1 + 1, 0, none⟩ = some (.slice (some ⟨s1, 0, none⟩) L.length k1) := (obj_cell hI5.x.ol 0).trans rfl; have q1 : W8.cell? ⟨w.heap.size + 1 + 1, 1, none⟩ = some (.slice (some ⟨s2, 0, none⟩) J.length k2) := (obj_cell hI5.x.ol 1).trans rfl; have q2 : W8.cell? ⟨w.heap.size + 1 + 1, 2, none⟩ = some (.slice (some ⟨s3, 0, none⟩) ds.length k3) := (obj_cell hI5.x.ol 2).trans rfl; have q3 : W8.cell? ⟨w.heap.size + 1 + 1, 3, none⟩ = some (.int .u32 (z : Nat)) := (obj_cell hI5.x.ol 3).trans rfl; have q4 : W8.cell? ⟨w.heap.size + 1 + 1, 4, none⟩ = some (.int .u32 (st : Nat)) := (obj_cell hI5.x.ol 4).trans rfl; have q5 : W8.cell? ⟨w.heap.size + 1 + 1, 5, none⟩ = some (.slice (some ⟨s4, 0, none⟩) M.length k4) := (obj_cell hI5.x.ol 5).trans rfl; have q6 : W8.cell? ⟨w.heap.size + 1 + 1, 6, none⟩ = some (.slice (some ⟨s1, 0, none⟩) (L.length + 64) k1) := (obj_cell hI5.x.ol 6).trans rfl; have q7 : W8.cell? ⟨w.heap.size + 1 + 1, 7, none⟩ = some (.slice (some ⟨s2, 0, none⟩) (J.length + 64) k2) := (obj_cell hI5.x.ol 7).trans rfl; have q8 : W8.cell? ⟨w.heap.size + 1 + 1, 8, none⟩ = some (.slice (some ⟨s3, 0, none⟩) (ds.length + 64) k3) := (obj_cell hI5.x.ol 8).trans rfl; have q9 : W8.cell? ⟨w.heap.size + 1 + 1, 9, none⟩ = some (.slice (some ⟨s4, 0, none⟩) (M.length + 64) k4) := (obj_cell hI5.x.ol 9).trans rfl; replace HI := hidS hI5; clear hI5) | (with_reducible refine at_store 34 rfl ?_; refine wpList_store_rowV rfl _ _ _ rfl (w.heap.size + 1) _ #[.slice (some ⟨s1, 0, none⟩) L.length k1, .slice (some ⟨s2, 0, none⟩) J.length k2, .slice (some ⟨s3, 0, none⟩) ds.length k3, .int .u32 (z : Nat), .int .u32 (st : Nat), .slice (some ⟨s4, 0, none⟩) M.length k4, .slice (some ⟨s1, 0, none⟩) (L.length + 64) k1, .slice (some ⟨s2, 0, none⟩) (J.length + 64) k2, .slice (some ⟨s3, 0, none⟩) (ds.length + 64) k3, .slice (some ⟨s4, 0, none⟩) (M.length + 64) k4] rfl rfl HI.out.x.oz (sizeVLe.trans rfl) rfl (by simp [Value.oneCell']) ?_))
          have HN := hidS (setRow_heap W8 (w.heap.size + 1) _ #[.slice (some ⟨s1, 0, none⟩) L.length k1, .slice (some ⟨s2, 0, none⟩) J.length k2, .slice (some ⟨s3, 0, none⟩) ds.length k3, .int .u32 (z : Nat), .int .u32 (st : Nat), .slice (some ⟨s4, 0, none⟩) M.length k4, .slice (some ⟨s1, 0, none⟩) (L.length + 64) k1, .slice (some ⟨s2, 0, none⟩) (J.length + 64) k2, .slice (some ⟨s3, 0, none⟩) (ds.length + 64) k3, .slice (some ⟨s4, 0, none⟩) (M.length + 64) k4] _ _ HI.out.x.oz)
          refine bodyPost_ret (resVLe (p := 2) (by kernel_rfl) _ (w.heap.size + 1) #[.slice (some ⟨s1, 0, none⟩) L.length k1, .slice (some ⟨s2, 0, none⟩) J.length k2, .slice (some ⟨s3, 0, none⟩) ds.length k3, .int .u32 (z : Nat), .int .u32 (st : Nat), .slice (some ⟨s4, 0, none⟩) M.length k4, .slice (some ⟨s1, 0, none⟩) (L.length + 64) k1, .slice (some ⟨s2, 0, none⟩) (J.length + 64) k2, .slice (some ⟨s3, 0, none⟩) (ds.length + 64) k3, .slice (some ⟨s4, 0, none⟩) (M.length + 64) k4] rfl HN.out _ rfl) rfl ?_
          exact ⟨some ⟨s1, 0, none⟩, k1, some ⟨s2, 0, none⟩, k2, some ⟨s3, 0, none⟩, k3, some ⟨s4, 0, none⟩, k4, _, _, _, _, rfl, ⟨rfl, rfl, rfl, rfl⟩, by omega, crd_own (own_rowg HI.out.x.oz HI.out.code (by decide)), jrd_own (own_rowg HI.out.x.oz HI.out.jumps (by decide)), rds_own (own_rowg HI.out.x.oz HI.out.data (by decide)), nrd_own (own_rowg HI.out.x.oz HI.out.names (by decide)), below_setRow HI.out.x.bl (Nat.le_add_right _ _) _⟩
end Go.Proofs.YtpahpdgkahomlaaGreatDoor
