import Derived.Test.YtahghghobibgdaaDoorFR8
import Derived.Laws.Bits64b
namespace Go.Proofs.YtahghghobibgdaaDoor
open Go.RowKit Go.WideShapes Go.Shelf
set_option maxRecDepth 100000
set_option linter.unusedSimpArgs false
attribute [local go_sem] Oper.semAt_some

theorem Tryd.infoI : (Tryd.prog.info? 3).map (·.size) = some 1 := by kernel_rfl
/-- -1 so many times, then 0 -/
def rpL (n m : Nat) : List Value := List.replicate m (.int .i64 (-1)) ++ List.replicate (n - m) (.int .i64 0)
theorem rpL_len {n m : Nat} (h : m ≤ n) : (rpL n m).length = n := by simp [rpL]; omega
theorem rpL_copy {n m c : Nat} (h : m + c ≤ n) : (rpL n m).take m ++ List.replicate c (Value.int .i64 (-1)) ++ (rpL n m).drop (m + c) = rpL n (m + c) := by
  unfold rpL
  rw [List.take_left' (by simp), List.drop_append, List.drop_replicate, List.drop_replicate, List.replicate_append_replicate, List.length_replicate]
  rw [show m - (m + c) = 0 by omega, show n - m - (m + c - m) = n - (m + c) by omega]
  simp
abbrev rpOps (ps : String) : Array Oper := #[{ dst := some 38, op := Op.move (Operand.tmp 8), type := 3, pos := ps, after := #[], guard := none }, { dst := some 39, op := Op.move (Operand.tmp 7), type := 27, pos := ps, after := #[], guard := none }, { dst := some 40, op := Op.move (Operand.tmp 8), type := 3, pos := ps, after := #[], guard := none }, { dst := some 41, op := Op.slice 27 (Operand.tmp 39) (some (Operand.tmp 40)) none none, type := 27, pos := ps, after := #[{ on := 1, ground := Ground.data }, { on := 2, ground := Ground.data }], guard := none }, { dst := some 42, op := Op.move (Operand.tmp 7), type := 27, pos := ps, after := #[], guard := none }, { dst := some 43, op := Op.move (Operand.tmp 8), type := 3, pos := ps, after := #[], guard := none }, { dst := some 44, op := Op.slice 27 (Operand.tmp 42) none (some (Operand.tmp 43)) none, type := 27, pos := ps, after := #[{ on := 4, ground := Ground.data }, { on := 5, ground := Ground.data }], guard := none }, { dst := some 45, op := Op.call { callee := Callee.builtin Builtin.copy, args := #[Operand.tmp 41, Operand.tmp 44], argTypes := #[27, 27] }, type := 3, pos := ps, after := #[{ on := 3, ground := Ground.data }, { on := 6, ground := Ground.data }], guard := none }, { dst := some 46, op := Op.binOp BinOp.add 3 (Operand.tmp 38) (Operand.tmp 45) 3, type := 3, pos := ps, after := #[{ on := 0, ground := Ground.data }, { on := 7, ground := Ground.data }], guard := none }, { dst := some 8, op := Op.assign (Operand.tmp 46), type := 3, pos := ps, after := #[{ on := 8, ground := Ground.data }, { on := 7, ground := Ground.chain }, { on := 0, ground := Ground.phase }, { on := 1, ground := Ground.phase }, { on := 2, ground := Ground.phase }, { on := 3, ground := Ground.phase }, { on := 4, ground := Ground.phase }, { on := 5, ground := Ground.phase }, { on := 6, ground := Ground.phase }, { on := 7, ground := Ground.phase }, { on := 8, ground := Ground.phase }], guard := none }]
set_option maxHeartbeats 4000000 in
theorem rp_lay {ps : String} {nn : Nat} {Q : Exit → Act → World → Prop} {w : World} {ds : List Deferred} {t0 t1 t2 t3 t4 t5 t6 t9 t10 t11 t12 t13 t14 t15 t16 t17 t18 t19 t20 t21 t22 t23 t24 t25 t26 t27 t28 t29 t30 t31 t32 t33 t34 t35 t36 t37 t38 t39 t40 t41 t42 t43 t44 t45 t46 t47 : Value} (g n m c : Nat) (hn : n ≤ 16384) (hm0 : 0 < m) (hm : m < n) (hc : c = min m (n - m)) (ho : w.heap[g]? = some (.cells (rpL n m).toArray 3 (0, 0)))
    (hQ : ∀ c (a : Act) d v w, Q (.panic c) (a.put d v) w → Q (.panic c) a w)
    (hK : Q .normal { tmps := (t0 :: t1 :: t2 :: t3 :: t4 :: t5 :: t6 :: .slice (some ⟨g, 0, none⟩) n n :: .int .i64 ((m : Int) + c) :: t9 :: t10 :: t11 :: t12 :: t13 :: t14 :: t15 :: t16 :: t17 :: t18 :: t19 :: t20 :: t21 :: t22 :: t23 :: t24 :: t25 :: t26 :: t27 :: t28 :: t29 :: t30 :: t31 :: t32 :: t33 :: t34 :: t35 :: t36 :: t37 :: .int .i64 (m : Int) :: .slice (some ⟨g, 0, none⟩) n n :: .int .i64 (m : Int) :: .slice (some ⟨g, m, none⟩) (n - m) (n - m) :: .slice (some ⟨g, 0, none⟩) n n :: .int .i64 (m : Int) :: .slice (some ⟨g, 0, none⟩) m n :: .int .i64 (c : Int) :: .int .i64 ((m : Int) + c) :: t47 :: []).toArray, defers := ds } (w.drew.setRow g (rpL n (m + c)).toArray)) :
    (Code.region 9 (rpOps ps) true).wpIn Fence.wide nn Tryd.prog Q { tmps := (t0 :: t1 :: t2 :: t3 :: t4 :: t5 :: t6 :: .slice (some ⟨g, 0, none⟩) n n :: .int .i64 (m : Int) :: t9 :: t10 :: t11 :: t12 :: t13 :: t14 :: t15 :: t16 :: t17 :: t18 :: t19 :: t20 :: t21 :: t22 :: t23 :: t24 :: t25 :: t26 :: t27 :: t28 :: t29 :: t30 :: t31 :: t32 :: t33 :: t34 :: t35 :: t36 :: t37 :: t38 :: t39 :: t40 :: t41 :: t42 :: t43 :: t44 :: t45 :: t46 :: t47 :: []).toArray, defers := ds } w := by
  have hmI : (m : Int) < (n : Int) := Int.ofNat_lt.2 hm
  have hcl : m + c ≤ n ∧ c ≤ m := by omega
  have HC := hidS hc
  clear hc
  have h1 : (0 : Int) ≤ (m : Int) := by omega
  have h2 : (m : Int) ≤ (n : Int) := by omega
  have h3 : ¬ m = n := by omega
  have h4 : ¬ n = m := by omega
  have hs : IntKind.i64.wrap ((m : Int) + (c : Int)) = (m : Int) + c := by rw [IntKind.wrap_i64]; omega
  have hs2 : wrap64 ((m : Int) + (c : Int)) = (m : Int) + c := by unfold wrap64; omega
  refine region_G (fun _ => True) 9 (fun i o h => List.all_eq_true.1 (show (rpOps ps).toList.all noDefer = true by kernel_rfl) o (List.mem_of_getElem? (by simpa using h))) (by first | assumption | kernel_rfl) ?_
  refine wpAnyG_take (i := 0) (oi := { dst := some 38, op := Op.move (Operand.tmp 8), type := 3, pos := ps, after := #[], guard := none }) (v := ?_) rfl rfl (by kernel_rfl) (by kernel_rfl) (by kernel_rfl) (fun _ _ _ h => hQ _ _ _ _ _ h) (by kernel_rfl) ⟨Or.inl ⟨by rfl, ?_⟩, fun _ => rfl⟩ trivial ?_
  rotate_left
  · intro w' hS'; go_simp; try with_reducible rfl
  simp only [Act.put, List.setIfInBounds_toArray, List.set_cons_zero, List.set_cons_succ]
  refine wpAnyG_take (i := 1) (oi := { dst := some 39, op := Op.move (Operand.tmp 7), type := 27, pos := ps, after := #[], guard := none }) (v := ?_) rfl rfl (by kernel_rfl) (by kernel_rfl) (by kernel_rfl) (fun _ _ _ h => hQ _ _ _ _ _ h) (by kernel_rfl) ⟨Or.inl ⟨by rfl, ?_⟩, fun _ => rfl⟩ trivial ?_
  rotate_left
  · intro w' hS'; go_simp; try with_reducible rfl
  simp only [Act.put, List.setIfInBounds_toArray, List.set_cons_zero, List.set_cons_succ]
  refine wpAnyG_take (i := 2) (oi := { dst := some 40, op := Op.move (Operand.tmp 8), type := 3, pos := ps, after := #[], guard := none }) (v := ?_) rfl rfl (by kernel_rfl) (by kernel_rfl) (by kernel_rfl) (fun _ _ _ h => hQ _ _ _ _ _ h) (by kernel_rfl) ⟨Or.inl ⟨by rfl, ?_⟩, fun _ => rfl⟩ trivial ?_
  rotate_left
  · intro w' hS'; go_simp; try with_reducible rfl
  simp only [Act.put, List.setIfInBounds_toArray, List.set_cons_zero, List.set_cons_succ]
  refine wpAnyG_take (i := 3) (oi := { dst := some 41, op := Op.slice 27 (Operand.tmp 39) (some (Operand.tmp 40)) none none, type := 27, pos := ps, after := #[{ on := 1, ground := Ground.data }, { on := 2, ground := Ground.data }], guard := none }) (v := ?_) rfl rfl (by kernel_rfl) (by kernel_rfl) (by kernel_rfl) (fun _ _ _ h => hQ _ _ _ _ _ h) (by kernel_rfl) ⟨Or.inl ⟨by rfl, ?_⟩, fun _ => rfl⟩ trivial ?_
  rotate_left
  · intro w' hS'; go_simp; try with_reducible rfl
  simp only [Act.put, List.setIfInBounds_toArray, List.set_cons_zero, List.set_cons_succ]
  refine wpAnyG_take (i := 4) (oi := { dst := some 42, op := Op.move (Operand.tmp 7), type := 27, pos := ps, after := #[], guard := none }) (v := ?_) rfl rfl (by kernel_rfl) (by kernel_rfl) (by kernel_rfl) (fun _ _ _ h => hQ _ _ _ _ _ h) (by kernel_rfl) ⟨Or.inl ⟨by rfl, ?_⟩, fun _ => rfl⟩ trivial ?_
  rotate_left
  · intro w' hS'; go_simp; try with_reducible rfl
  simp only [Act.put, List.setIfInBounds_toArray, List.set_cons_zero, List.set_cons_succ]
  refine wpAnyG_take (i := 5) (oi := { dst := some 43, op := Op.move (Operand.tmp 8), type := 3, pos := ps, after := #[], guard := none }) (v := ?_) rfl rfl (by kernel_rfl) (by kernel_rfl) (by kernel_rfl) (fun _ _ _ h => hQ _ _ _ _ _ h) (by kernel_rfl) ⟨Or.inl ⟨by rfl, ?_⟩, fun _ => rfl⟩ trivial ?_
  rotate_left
  · intro w' hS'; go_simp; try with_reducible rfl
  simp only [Act.put, List.setIfInBounds_toArray, List.set_cons_zero, List.set_cons_succ]
  refine wpAnyG_take (i := 6) (oi := { dst := some 44, op := Op.slice 27 (Operand.tmp 42) none (some (Operand.tmp 43)) none, type := 27, pos := ps, after := #[{ on := 4, ground := Ground.data }, { on := 5, ground := Ground.data }], guard := none }) (v := ?_) rfl rfl (by kernel_rfl) (by kernel_rfl) (by kernel_rfl) (fun _ _ _ h => hQ _ _ _ _ _ h) (by kernel_rfl) ⟨Or.inl ⟨by rfl, ?_⟩, fun _ => rfl⟩ trivial ?_
  rotate_left
  · intro w' hS'; go_simp; try with_reducible rfl
  simp only [Act.put, List.setIfInBounds_toArray, List.set_cons_zero, List.set_cons_succ]
  refine wpAnyG_one (i := 7) (o := { dst := some 45, op := Op.call { callee := Callee.builtin Builtin.copy, args := #[Operand.tmp 41, Operand.tmp 44], argTypes := #[27, 27] }, type := 3, pos := ps, after := #[{ on := 3, ground := Ground.data }, { on := 6, ground := Ground.data }], guard := none }) (by kernel_rfl) rfl (by rfl) ?_
  have hr := run_copy_row (P := Tryd.prog) w.drew 27 27 3 3 g m (n - m) (n - m) ⟨g, 0, none⟩ m n (rpL n m).toArray 3 (List.replicate c (.int .i64 (-1))) Tryd.underlying27 Tryd.infoI ho (by rw [List.length_replicate]; exact HC.out) ?src (by have h5 := rpL_len (n := n) (m := m) (by omega); simp only [List.size_toArray, List.length_replicate, h5]; omega) (by intro v hv; rw [(List.mem_replicate.1 hv).2]; rfl)
  case src =>
    intro j v hj
    have hjc : j < c := by simpa using (List.getElem?_eq_some_iff.1 hj).1
    have hv : v = .int .i64 (-1) := by
      rw [List.getElem?_replicate, if_pos hjc] at hj
      exact (Option.some.inj hj).symm
    subst hv
    rw [add_plain, Nat.zero_add]
    refine (obj_cell ho j).trans ?_
    simp only [List.getElem?_toArray]
    unfold rpL
    rw [List.getElem?_append_left (by simp; omega), List.getElem?_replicate, if_pos (by omega)]
  simp only [List.length_replicate, List.toList_toArray] at hr
  rw [rpL_copy (by omega)] at hr
  refine opG (v := .int .i64 (c : Int)) (w' := w.drew.setRow g (rpL n (m + c)).toArray) rfl rfl ?_ ⟨fun _ => trivial, ?_⟩
  · unfold execOp
    simp only [resolve, invoke, builtin, Sem.run_bind, Sem.run_pure, Result.andThen_ok, List.map_toArray, List.map_cons, List.map_nil]
    show ((Builtin.copy_ #[27, 27] 3 #[.slice (some ⟨g, m, none⟩) (n - m) (n - m), .slice (some ⟨g, 0, none⟩) m n]).run Tryd.prog w.drew).andThen _ = _
    rw [hr]
    rfl
  simp only [Act.put, List.setIfInBounds_toArray, List.set_cons_zero, List.set_cons_succ]
  refine wpAnyG_take (i := 8) (oi := { dst := some 46, op := Op.binOp BinOp.add 3 (Operand.tmp 38) (Operand.tmp 45) 3, type := 3, pos := ps, after := #[{ on := 0, ground := Ground.data }, { on := 7, ground := Ground.data }], guard := none }) (v := .int .i64 ((m : Int) + c)) rfl rfl (by kernel_rfl) (by kernel_rfl) (by kernel_rfl) (fun _ _ _ h => hQ _ _ _ _ _ h) (by kernel_rfl) ⟨Or.inl ⟨by rfl, ?_⟩, fun _ => rfl⟩ trivial ?_
  · intro w' hS'; go_simp; first | (with_reducible rfl) | (rw [hs2]; done) | (simp only [hs2, hs]; done) | trace_state
  simp only [Act.put, List.setIfInBounds_toArray, List.set_cons_zero, List.set_cons_succ]
  refine wpAnyG_one (i := 9) (o := { dst := some 8, op := Op.assign (Operand.tmp 46), type := 3, pos := ps, after := #[{ on := 8, ground := Ground.data }, { on := 7, ground := Ground.chain }, { on := 0, ground := Ground.phase }, { on := 1, ground := Ground.phase }, { on := 2, ground := Ground.phase }, { on := 3, ground := Ground.phase }, { on := 4, ground := Ground.phase }, { on := 5, ground := Ground.phase }, { on := 6, ground := Ground.phase }, { on := 7, ground := Ground.phase }, { on := 8, ground := Ground.phase }], guard := none }) (by kernel_rfl) rfl (by rfl) ?_
  refine opG (v := .int .i64 ((m : Int) + c)) (w' := w.drew.setRow g (rpL n (m + c)).toArray) rfl rfl ?_ ⟨fun q => absurd rfl q, ?_⟩
  · go_simp
  simp only [Act.put, List.setIfInBounds_toArray, List.set_cons_zero, List.set_cons_succ]
  exact wpAnyG_done (by kernel_rfl) hK _
end Go.Proofs.YtahghghobibgdaaDoor
