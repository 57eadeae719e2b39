import Derived.Test.YtahghghobibgdaaDoorCFLm
import Derived.Test.YtahghghobibgdaaDoorFR8
namespace Go.Proofs.YtahghghobibgdaaDoor
open Go.RowKit Go.WideShapes Go.Shelf
set_option maxRecDepth 100000
set_option linter.unusedSimpArgs false
attribute [local go_sem] Oper.semAt_some

theorem Tryd.infoSl : (Tryd.prog.info? 23).map (fun i => (i.zero, i.size, i.bytes)) = some (some (.slice none 0 0), 1, 24) := by kernel_rfl
/-- words that lie in a row of their own -/
def JRo (U : World) (a : Option Addr) (l : List Nat) : Prop := 0 < l.length → ∃ b off cs, a = some ⟨b, off, none⟩ ∧ U.heap[b]? = some (.cells cs 36 (0, 0)) ∧ ∀ j, j < l.length → cs[off + j]? = some (.int .u32 (l.getD j 0 : Nat))
theorem JRo.jrd {U : World} {a : Option Addr} {l : List Nat} (h : JRo U a l) : JRd U a l U.heap.size := fun q => by
  obtain ⟨b, off, cs, h1, h2, h3⟩ := h q
  exact ⟨b, off, h1, (Array.getElem?_eq_some_iff.1 h2).1, fun j hj => (obj_cell h2 (off + j)).trans (h3 j hj)⟩
theorem JRo.kept {S : Nat → Prop} {U U' : World} {a : Option Addr} {l : List Nat} (h : JRo U a l) (hk : Kp S U U') (hs : ∀ i, S i → ∀ cs, U.heap[i]? ≠ some (.cells cs 36 (0, 0))) : JRo U' a l := fun q => by
  obtain ⟨b, off, cs, h1, h2, h3⟩ := h q
  exact ⟨b, off, cs, h1, (hk.block b (Array.getElem?_eq_some_iff.1 h2).1 (fun e => hs b e cs h2)).trans h2, h3⟩
theorem jro_own {U : World} {B : Nat} {v : Value} {l : List Nat} (h : U.ownsRow B 36 1 v l.length (dv l)) : ∃ a c, v = .slice a l.length c ∧ JRo U a l := by
  rcases h with ⟨hl, ⟨hn, hz⟩ | ⟨g, c, cur, e1, e2, e3, e4, e5, e6, e7⟩⟩
  · exact ⟨none, 0, by rw [hn, hz], fun q => by omega⟩
  · refine ⟨_, c, e1, fun q => ⟨g, 0, cur, rfl, e3, fun j hj => ?_⟩⟩
    have h1 := congrArg (fun z : List Value => z[j]?) e7
    simp only [Nat.mul_one] at h1
    rw [List.getElem?_take, if_pos hj] at h1
    rw [Nat.zero_add, ← Array.getElem?_toList, h1]
    simp [dv, List.getElem?_eq_getElem hj, List.getD_eq_getElem?_getD]
abbrev ctOps (ps : String) : Array Oper := #[{ dst := some 31, op := Op.load 56 (Operand.tmp 10), type := 56, pos := ps, after := #[], guard := none }, { dst := some 32, op := Op.load 56 (Operand.tmp 10), type := 56, pos := ps, after := #[], guard := none }, { dst := some 33, op := Op.nilCheck (Operand.tmp 32), type := 0, pos := ps, after := #[{ on := 1, ground := Ground.data }], guard := none }, { dst := some 34, op := Op.fieldAddr 92 (Operand.tmp 33) 2, type := 0, pos := ps, after := #[{ on := 2, ground := Ground.data }], guard := none }, { dst := some 35, op := Op.load 90 (Operand.tmp 34), type := 90, pos := ps, after := #[{ on := 3, ground := Ground.data }], guard := none }, { dst := some 36, op := Op.load 31 (Operand.tmp 7), type := 31, pos := ps, after := #[], guard := none }, { dst := some 37, op := Op.move (Operand.tmp 11), type := 3, pos := ps, after := #[], guard := none }, { dst := some 38, op := Op.call { callee := Callee.value (Operand.func 38), args := #[Operand.tmp 36, Operand.tmp 37], argTypes := #[31, 3] }, type := 23, pos := ps, after := #[{ on := 5, ground := Ground.data }, { on := 6, ground := Ground.data }], guard := none }, { dst := some 39, op := Op.buildSlice 90 1 #[(0, Operand.tmp 38)], type := 90, pos := ps, after := #[{ on := 7, ground := Ground.data }], guard := none }, { dst := some 40, op := Op.call { callee := Callee.builtin Builtin.append, args := #[Operand.tmp 35, Operand.tmp 39], argTypes := #[90, 90] }, type := 90, pos := ps, after := #[{ on := 4, ground := Ground.data }, { on := 8, ground := Ground.data }, { on := 7, ground := Ground.chain }], guard := none }, { dst := some 41, op := Op.nilCheck (Operand.tmp 31), type := 0, pos := ps, after := #[{ on := 0, ground := Ground.data }, { on := 0, ground := Ground.phase }, { on := 1, ground := Ground.phase }, { on := 2, ground := Ground.phase }, { on := 3, ground := Ground.phase }, { on := 4, ground := Ground.phase }, { on := 5, ground := Ground.phase }, { on := 6, ground := Ground.phase }, { on := 7, ground := Ground.phase }, { on := 8, ground := Ground.phase }, { on := 9, ground := Ground.phase }], guard := none }, { dst := some 42, op := Op.fieldAddr 92 (Operand.tmp 41) 2, type := 0, pos := ps, after := #[{ on := 10, ground := Ground.data }, { on := 0, ground := Ground.phase }, { on := 1, ground := Ground.phase }, { on := 2, ground := Ground.phase }, { on := 3, ground := Ground.phase }, { on := 4, ground := Ground.phase }, { on := 5, ground := Ground.phase }, { on := 6, ground := Ground.phase }, { on := 7, ground := Ground.phase }, { on := 8, ground := Ground.phase }, { on := 9, ground := Ground.phase }], guard := none }, { dst := none, op := Op.store 90 (Operand.tmp 42) (Operand.tmp 40), type := 0, pos := ps, after := #[{ on := 11, ground := Ground.data }, { on := 9, ground := Ground.data }, { on := 9, ground := Ground.chain }, { on := 0, ground := Ground.phase }, { on := 1, ground := Ground.phase }, { on := 2, ground := Ground.phase }, { on := 3, ground := Ground.phase }, { on := 4, ground := Ground.phase }, { on := 5, ground := Ground.phase }, { on := 6, ground := Ground.phase }, { on := 7, ground := Ground.phase }, { on := 8, ground := Ground.phase }, { on := 9, ground := Ground.phase }], guard := none }]
set_option maxHeartbeats 4000000 in
theorem ct_lay {ps : String} {l n : Nat} {Q : Exit → Act → World → Prop} {w : World} {t0 t1 t2 t3 t4 t5 t6 t8 t9 t12 t13 t14 t15 t16 t17 t18 t19 t20 t21 t22 t23 t24 t25 t26 t27 t28 t29 t30 t31 t32 t33 t34 t35 t36 t37 t38 t39 t40 t41 t42 t43 : Value} (kf kb kc pp i B m : Nat) (tv cv0 : Value) (ts : List Value) (tg : List Nat)
    (hB : B ≤ w.heap.size) (hm : m ≤ 16384) (hown : w.ownsRow B 23 1 tv m ts) (hlt : kf < B ∧ kb < B ∧ kc < B)
    (c0 : w.cell? ⟨kb, 0, none⟩ = some (.pointer (some ⟨kc, 0, none⟩))) (ob : w.heap[kc]? = some (.cells #[cv0, .pointer (some ⟨pp, 0, none⟩), tv] 92 (0, 0))) (c2 : w.cell? ⟨kf, 0, none⟩ = some (.pointer (some ⟨pp, 0, none⟩)))
    (hC : ∀ W, Below w.heap.size w W → Calls Tryd.prog 38 #[.pointer (some ⟨pp, 0, none⟩), .int .i64 i] W fun e w' => ∃ v, e = .returned v ∧ w'.ownsRow W.heap.size 36 1 v tg.length (dv tg) ∧ Below W.heap.size W w')
    (hQ : ∀ c (a : Act) d v w, Q (.panic c) (a.put d v) w → Q (.panic c) a w)
    (hK : ∀ a' tv' w' ra rc, w'.ownsRow B 23 1 tv' (m + 1) (ts ++ [.slice ra tg.length rc]) → JRo w' ra tg → Kp (fun k => tv.ownBlock = some k) w w' → Q .normal a' (w'.setCell ⟨kc, 2, none⟩ tv')) :
    (Code.region 7 (ctOps ps) true).wpIn (Fence.wide.inRound l) (n + 1) Tryd.prog Q { tmps := (t0 :: t1 :: t2 :: t3 :: t4 :: t5 :: t6 :: .pointer (some ⟨kf, 0, none⟩) :: t8 :: t9 :: .pointer (some ⟨kb, 0, none⟩) :: .int .i64 (i : Int) :: t12 :: t13 :: t14 :: t15 :: t16 :: t17 :: t18 :: t19 :: t20 :: t21 :: t22 :: t23 :: t24 :: t25 :: t26 :: t27 :: t28 :: t29 :: t30 :: t31 :: t32 :: t33 :: t34 :: t35 :: t36 :: t37 :: t38 :: t39 :: t40 :: t41 :: t42 :: t43 :: []).toArray, defers := [] } w := by
  have c1 : w.cell? ⟨kc, 2, none⟩ = some tv := (obj_cell ob 2).trans rfl
  have hS : (fun V : World => V.cell? ⟨kb, 0, none⟩ = some (.pointer (some ⟨kc, 0, none⟩)) ∧ V.cell? ⟨kc, 2, none⟩ = some tv ∧ V.cell? ⟨kf, 0, none⟩ = some (.pointer (some ⟨pp, 0, none⟩))) w.drew := ⟨c0, c1, c2⟩
  obtain ⟨i0, hi, hz0, hz1, hz2⟩ := info_parts Tryd.infoSl
  have hSK : ∀ (V : World) (T : Nat → Prop), Kp T w V → (∀ k, k < w.heap.size → T k → B ≤ k) → (fun V : World => V.cell? ⟨kb, 0, none⟩ = some (.pointer (some ⟨kc, 0, none⟩)) ∧ V.cell? ⟨kc, 2, none⟩ = some tv ∧ V.cell? ⟨kf, 0, none⟩ = some (.pointer (some ⟨pp, 0, none⟩))) V := fun V T hk hT => by
    have nT : ∀ k, k < B → ¬ T k := fun k hl q => by have := hT k (by omega) q; omega
    exact ⟨(hk.cell (p := ⟨kb, 0, none⟩) (Nat.lt_of_lt_of_le hlt.2.1 hB) (nT _ hlt.2.1)).trans c0, (hk.cell (p := ⟨kc, 2, none⟩) (Nat.lt_of_lt_of_le hlt.2.2 hB) (nT _ hlt.2.2)).trans c1, (hk.cell (p := ⟨kf, 0, none⟩) (Nat.lt_of_lt_of_le hlt.1 hB) (nT _ hlt.1)).trans c2⟩
  refine region_G (fun V : World => V.cell? ⟨kb, 0, none⟩ = some (.pointer (some ⟨kc, 0, none⟩)) ∧ V.cell? ⟨kc, 2, none⟩ = some tv ∧ V.cell? ⟨kf, 0, none⟩ = some (.pointer (some ⟨pp, 0, none⟩))) 12 (fun i o h => List.all_eq_true.1 (show (ctOps ps).toList.all noDefer = true by kernel_rfl) o (List.mem_of_getElem? (by simpa using h))) (by first | assumption | kernel_rfl) ?_
  refine wpAnyG_take (i := 0) (oi := { dst := some 31, op := Op.load 56 (Operand.tmp 10), type := 56, pos := ps, after := #[], guard := none }) (v := ?_) rfl rfl (by kernel_rfl) (by kernel_rfl) (by kernel_rfl) (fun _ _ _ h => hQ _ _ _ _ _ h) (by kernel_rfl) ⟨Or.inl ⟨by rfl, ?_⟩, fun _ => rfl⟩ hS ?_
  rotate_left
  · intro w' hS'; obtain ⟨s0, s1, s2⟩ := hS'; go_simp; try with_reducible rfl
  simp only [Act.put, List.setIfInBounds_toArray, List.set_cons_zero, List.set_cons_succ]
  refine wpAnyG_take (i := 1) (oi := { dst := some 32, op := Op.load 56 (Operand.tmp 10), type := 56, pos := ps, after := #[], guard := none }) (v := ?_) rfl rfl (by kernel_rfl) (by kernel_rfl) (by kernel_rfl) (fun _ _ _ h => hQ _ _ _ _ _ h) (by kernel_rfl) ⟨Or.inl ⟨by rfl, ?_⟩, fun _ => rfl⟩ hS ?_
  rotate_left
  · intro w' hS'; obtain ⟨s0, s1, s2⟩ := hS'; go_simp; try with_reducible rfl
  simp only [Act.put, List.setIfInBounds_toArray, List.set_cons_zero, List.set_cons_succ]
  refine wpAnyG_take (i := 2) (oi := { dst := some 33, op := Op.nilCheck (Operand.tmp 32), type := 0, pos := ps, after := #[{ on := 1, ground := Ground.data }], guard := none }) (v := ?_) rfl rfl (by kernel_rfl) (by kernel_rfl) (by kernel_rfl) (fun _ _ _ h => hQ _ _ _ _ _ h) (by kernel_rfl) ⟨Or.inl ⟨by rfl, ?_⟩, fun _ => rfl⟩ hS ?_
  rotate_left
  · intro w' hS'; obtain ⟨s0, s1, s2⟩ := hS'; go_simp; try with_reducible rfl
  simp only [Act.put, List.setIfInBounds_toArray, List.set_cons_zero, List.set_cons_succ]
  refine wpAnyG_take (i := 3) (oi := { dst := some 34, op := Op.fieldAddr 92 (Operand.tmp 33) 2, type := 0, pos := ps, after := #[{ on := 2, ground := Ground.data }], guard := none }) (v := ?_) rfl rfl (by kernel_rfl) (by kernel_rfl) (by kernel_rfl) (fun _ _ _ h => hQ _ _ _ _ _ h) (by kernel_rfl) ⟨Or.inl ⟨by rfl, ?_⟩, fun _ => rfl⟩ hS ?_
  rotate_left
  · intro w' hS'; obtain ⟨s0, s1, s2⟩ := hS'; go_simp; try with_reducible rfl
  simp only [Act.put, List.setIfInBounds_toArray, List.set_cons_zero, List.set_cons_succ]
  refine wpAnyG_take (i := 4) (oi := { dst := some 35, op := Op.load 90 (Operand.tmp 34), type := 90, pos := ps, after := #[{ on := 3, ground := Ground.data }], guard := none }) (v := ?_) rfl rfl (by kernel_rfl) (by kernel_rfl) (by kernel_rfl) (fun _ _ _ h => hQ _ _ _ _ _ h) (by kernel_rfl) ⟨Or.inl ⟨by rfl, ?_⟩, fun _ => rfl⟩ hS ?_
  rotate_left
  · intro w' hS'; obtain ⟨s0, s1, s2⟩ := hS'; go_simp; try with_reducible rfl
  simp only [Act.put, List.setIfInBounds_toArray, List.set_cons_zero, List.set_cons_succ]
  refine wpAnyG_take (i := 5) (oi := { dst := some 36, op := Op.load 31 (Operand.tmp 7), type := 31, pos := ps, after := #[], guard := none }) (v := ?_) rfl rfl (by kernel_rfl) (by kernel_rfl) (by kernel_rfl) (fun _ _ _ h => hQ _ _ _ _ _ h) (by kernel_rfl) ⟨Or.inl ⟨by rfl, ?_⟩, fun _ => rfl⟩ hS ?_
  rotate_left
  · intro w' hS'; obtain ⟨s0, s1, s2⟩ := hS'; go_simp; try with_reducible rfl
  simp only [Act.put, List.setIfInBounds_toArray, List.set_cons_zero, List.set_cons_succ]
  refine wpAnyG_take (i := 6) (oi := { dst := some 37, op := Op.move (Operand.tmp 11), type := 3, pos := ps, after := #[], guard := none }) (v := ?_) rfl rfl (by kernel_rfl) (by kernel_rfl) (by kernel_rfl) (fun _ _ _ h => hQ _ _ _ _ _ h) (by kernel_rfl) ⟨Or.inl ⟨by rfl, ?_⟩, fun _ => rfl⟩ hS ?_
  rotate_left
  · intro w' hS'; obtain ⟨s0, s1, s2⟩ := hS'; go_simp; try with_reducible rfl
  simp only [Act.put, List.setIfInBounds_toArray, List.set_cons_zero, List.set_cons_succ]
  refine wpAnyG_one (i := 7) (o := { dst := some 38, op := Op.call { callee := Callee.value (Operand.func 38), args := #[Operand.tmp 36, Operand.tmp 37], argTypes := #[31, 3] }, type := 23, pos := ps, after := #[{ on := 5, ground := Ground.data }, { on := 6, ground := Ground.data }], guard := none }) (by kernel_rfl) rfl (by rfl) ?_
  refine opGe (f := 38) (args := #[.pointer (some ⟨pp, 0, none⟩), .int .i64 i]) (w' := w.drew) rfl (fun _ _ => trivial) ?_ (fun _ => Nat.succ_pos n) ?_
  · kernel_rfl
  have hcl := (callsIn_wide (n := n)).2 (hC w.drew (below_drewN (Below.refl _ _) 1))
  refine CallsIn.mono (F := Fence.wide) hcl ?_
  rintro y w1 ⟨rv, rfl, hown1, hb1⟩
  have hb1 : Below w.heap.size w w1 := ⟨hb1.os, hb1.tape, hb1.output, hb1.size, hb1.block⟩
  obtain ⟨ra, rc, rfl, hjo⟩ := jro_own hown1
  have hk1 : Kp (fun _ => False) w w1 := Kp.ofBelow hb1
  refine ⟨_, rfl, fun _ => hSK _ _ hk1 (fun _ _ q => q.elim), ?_⟩
  replace hS := hSK _ _ hk1 (fun _ _ q => q.elim)
  simp only [Act.put, List.setIfInBounds_toArray, List.set_cons_zero, List.set_cons_succ]
  refine wpAnyG_one (i := 8) (o := { dst := some 39, op := Op.buildSlice 90 1 #[(0, Operand.tmp 38)], type := 90, pos := ps, after := #[{ on := 7, ground := Ground.data }], guard := none }) (by kernel_rfl) rfl (by rfl) ?_
  refine opG (v := .slice (some ⟨w1.heap.size, 0, none⟩) 1 1) (w' := w1.alloc (.cells #[.slice ra tg.length rc] 23)) rfl rfl ?_ ⟨fun _ => ?_, ?_⟩
  · unfold execOp
    simp only [Sem.run_bind]
    rw [run_buildSlice w1 90 23 1 _ #[.slice ra tg.length rc] i0 _ Tryd.underlying90 hi hz0 (by rw [hz1]; decide) (by rw [hz1]; decide) (by rw [hz1]; kernel_rfl)]
    rfl
  · exact hSK _ _ (hk1.trans (Kp.alloc (S := fun _ => False) w1 _) (fun _ _ q => q)) (fun _ _ q => q.elim)
  simp only [Act.put, List.setIfInBounds_toArray, List.set_cons_zero, List.set_cons_succ]
  have hkd : Kp (fun _ => False) w (w1.alloc (.cells #[.slice ra tg.length rc] 23)) := hk1.trans (Kp.alloc (S := fun _ => False) w1 _) (fun _ _ q => q)
  have hjo2 : JRo (w1.alloc (.cells #[.slice ra tg.length rc] 23)) ra tg := hjo.kept (Kp.alloc (S := fun _ => False) w1 _) (fun _ q => q.elim)
  have hzW : (w1.alloc (.cells #[.slice ra tg.length rc] 23)).heap.size = w1.heap.size + 1 := by simp
  have hnews : ∀ j u, [Value.slice ra tg.length rc][j]? = some u → (w1.alloc (.cells #[.slice ra tg.length rc] 23)).cell? ((⟨w1.heap.size, 0, none⟩ : Addr).add j) = some u := by
    intro j u hj
    match j, hj with
    | 0, hj => simp at hj; subst hj; exact (obj_cell (heap_alloc_new w1 _) 0).trans rfl
    | k + 1, hj => simp at hj
  generalize w1.alloc (.cells #[.slice ra tg.length rc] 23) = W1 at hkd hjo2 hnews hzW ⊢
  have hown2 := hkd.own hown (fun _ _ q => q)
  obtain ⟨tv', w2, hr2, ho2, hg2, _, hb2⟩ := run_append_own_at (P := Tryd.prog) W1 B 90 90 23 i0 (.slice none 0 0) 1 24 Tryd.underlying90 hi hz0 hz1 hz2 rfl (by decide) tv m ts hown2 ⟨w1.heap.size, 0, none⟩ 1 1 [.slice ra tg.length rc] rfl hnews (by intro u hu; simp at hu; subst hu; rfl) (by unfold maxLen; omega) (by omega) (Nat.le_trans hB hkd.size)
  have hk2a : Kp (fun k => tv.ownBlock = some k) W1 w2 := Kp.ofGrown hg2 (fun i e _ => e)
  have hk2 : Kp (fun k => tv.ownBlock = some k) w w2 := (hkd.mono (S' := fun k => tv.ownBlock = some k) (fun _ _ q => q.elim)).trans hk2a (fun _ _ q => q)
  have hjo3 : JRo w2 ra tg := hjo2.kept hk2a (fun k e cs ho => by
    rcases hown2.2 with hn | ⟨g', cap', cur', e1, e2, e3, e4⟩
    · rw [hn.1] at e
      cases e
    · rw [e1] at e
      cases e
      rw [e3] at ho
      cases ho)
  refine wpAnyG_one (i := 9) (o := { dst := some 40, op := Op.call { callee := Callee.builtin Builtin.append, args := #[Operand.tmp 35, Operand.tmp 39], argTypes := #[90, 90] }, type := 90, pos := ps, after := #[{ on := 4, ground := Ground.data }, { on := 8, ground := Ground.data }, { on := 7, ground := Ground.chain }], guard := none }) (by kernel_rfl) rfl (by rfl) ?_
  refine opG (v := tv') (w' := w2) rfl rfl ?_ ⟨fun _ => ?_, ?_⟩
  · unfold execOp
    simp only [resolve, invoke, builtin, Sem.run_bind, Sem.run_pure, Result.andThen_ok, List.map_toArray, List.map_cons, List.map_nil]
    show ((Builtin.append_ #[90, 90] 90 #[tv, .slice (some ⟨w1.heap.size, 0, none⟩) 1 1]).run Tryd.prog W1).andThen _ = _
    rw [hr2]
    rfl
  · exact hSK _ _ hk2 (fun k _ q => (hown.lt k q).1)
  simp only [Act.put, List.setIfInBounds_toArray, List.set_cons_zero, List.set_cons_succ]
  refine wpAnyG_one (i := 10) (o := { dst := some 41, op := Op.nilCheck (Operand.tmp 31), type := 0, pos := ps, after := #[{ on := 0, ground := Ground.data }, { on := 0, ground := Ground.phase }, { on := 1, ground := Ground.phase }, { on := 2, ground := Ground.phase }, { on := 3, ground := Ground.phase }, { on := 4, ground := Ground.phase }, { on := 5, ground := Ground.phase }, { on := 6, ground := Ground.phase }, { on := 7, ground := Ground.phase }, { on := 8, ground := Ground.phase }, { on := 9, ground := Ground.phase }], guard := none }) (by kernel_rfl) rfl (by rfl) ?_
  refine opG (v := .pointer (some ⟨kc, 0, none⟩)) (w' := w2) rfl rfl ?_ ⟨fun _ => hSK _ _ hk2 (fun k _ q => (hown.lt k q).1), ?_⟩
  · go_simp
  simp only [Act.put, List.setIfInBounds_toArray, List.set_cons_zero, List.set_cons_succ]
  refine wpAnyG_one (i := 11) (o := { dst := some 42, op := Op.fieldAddr 92 (Operand.tmp 41) 2, type := 0, pos := ps, after := #[{ on := 10, ground := Ground.data }, { on := 0, ground := Ground.phase }, { on := 1, ground := Ground.phase }, { on := 2, ground := Ground.phase }, { on := 3, ground := Ground.phase }, { on := 4, ground := Ground.phase }, { on := 5, ground := Ground.phase }, { on := 6, ground := Ground.phase }, { on := 7, ground := Ground.phase }, { on := 8, ground := Ground.phase }, { on := 9, ground := Ground.phase }], guard := none }) (by kernel_rfl) rfl (by rfl) ?_
  refine opG (v := .pointer (some ⟨kc, 2, none⟩)) (w' := w2) rfl rfl ?_ ⟨fun _ => hSK _ _ hk2 (fun k _ q => (hown.lt k q).1), ?_⟩
  · go_simp
  have nkc : ¬ tv.ownBlock = some kc := fun q => by have := (hown.lt kc q).1; omega
  have ob2 := (hk2.block kc (Nat.lt_of_lt_of_le hlt.2.2 hB) nkc).trans ob
  have cc := (obj_cell ob2 2).trans rfl
  have ff := obj_frozen ob2 2
  have hlv : ∃ ao2 len2 cap2, tv' = .slice ao2 len2 cap2 := by
    rcases ho2.2 with hn | ⟨g', cap', cur', e1, e2, e3, e4⟩
    · exact ⟨_, _, _, hn.1⟩
    · exact ⟨_, _, _, e1⟩
  obtain ⟨ao2, len2, cap2, rfl⟩ := hlv
  simp only [Act.put, List.setIfInBounds_toArray, List.set_cons_zero, List.set_cons_succ]
  refine wpAnyG_one (i := 12) (o := { dst := none, op := Op.store 90 (Operand.tmp 42) (Operand.tmp 40), type := 0, pos := ps, after := #[{ on := 11, ground := Ground.data }, { on := 9, ground := Ground.data }, { on := 9, ground := Ground.chain }, { on := 0, ground := Ground.phase }, { on := 1, ground := Ground.phase }, { on := 2, ground := Ground.phase }, { on := 3, ground := Ground.phase }, { on := 4, ground := Ground.phase }, { on := 5, ground := Ground.phase }, { on := 6, ground := Ground.phase }, { on := 7, ground := Ground.phase }, { on := 8, ground := Ground.phase }, { on := 9, ground := Ground.phase }], guard := none }) (by kernel_rfl) rfl (by rfl) ?_
  refine opG0 (w' := w2.setCell ⟨kc, 2, none⟩ (.slice ao2 len2 cap2)) rfl rfl ?_ ⟨fun q => absurd rfl q, ?_⟩
  · go_simp
  exact wpAnyG_done (by kernel_rfl) (hK _ _ _ ra rc ho2 hjo3 hk2) _
end Go.Proofs.YtahghghobibgdaaDoor
