import Derived.Test.YtnalnlbainghoaaGreatDoorCFLm
import Derived.Test.YtnalnlbainghoaaGreatDoorCFR8
import Derived.Test.YtnalnlbainghoaaGreatDoorPAl
import Derived.Test.YtnalnlbainghoaaGreatDoorCFNx
import Derived.Test.YtnalnlbainghoaaGreatDoorFDp
import Derived.Deep.AppendLies
namespace Go.Proofs.YtnalnlbainghoaaGreatDoor
open Go.RowKit Go.WideShapes Go.Shelf
set_option maxRecDepth 100000
set_option linter.unusedSimpArgs false
attribute [local go_sem] Oper.semAt_some

theorem Tryz.infoSl : (Tryz.prog.info? 27).map (fun i => (i.zero, i.size, i.bytes)) = some (some (.slice none 0 0), 1, 24) := by kernel_rfl
/-- words that lie in a row of their own -/
def JRo (U : World) (a : Option Addr) (l : List Nat) : Prop := 0 < l.length → ∃ b off cs, a = some ⟨b, off, none⟩ ∧ U.heap[b]? = some (.cells cs 29 (0, 0)) ∧ ∀ j, j < l.length → cs[off + j]? = some (.int .u32 (l.getD j 0 : Nat))
theorem JRo.jrd {U : World} {a : Option Addr} {l : List Nat} (h : JRo U a l) : JRd U a l U.heap.size := fun q => by
  obtain ⟨b, off, cs, h1, h2, h3⟩ := h q
  exact ⟨b, off, h1, (Array.getElem?_eq_some_iff.1 h2).1, fun j hj => (obj_cell h2 (off + j)).trans (h3 j hj)⟩
theorem JRo.kept {S : Nat → Prop} {U U' : World} {a : Option Addr} {l : List Nat} (h : JRo U a l) (hk : Kp S U U') (hs : ∀ i, S i → ∀ cs, U.heap[i]? ≠ some (.cells cs 29 (0, 0))) : JRo U' a l := fun q => by
  obtain ⟨b, off, cs, h1, h2, h3⟩ := h q
  exact ⟨b, off, cs, h1, (hk.block b (Array.getElem?_eq_some_iff.1 h2).1 (fun e => hs b e cs h2)).trans h2, h3⟩
theorem jro_own {U : World} {B : Nat} {v : Value} {l : List Nat} (h : U.ownsRow B 29 1 v l.length (dv l)) : ∃ a c, v = .slice a l.length c ∧ JRo U a l := by
  rcases h with ⟨hl, ⟨hn, hz⟩ | ⟨g, c, cur, e1, e2, e3, e4, e5, e6, e7⟩⟩
  · exact ⟨none, 0, by rw [hn, hz], fun q => by omega⟩
  · refine ⟨_, c, e1, fun q => ⟨g, 0, cur, rfl, e3, fun j hj => ?_⟩⟩
    have h1 := congrArg (fun z : List Value => z[j]?) e7
    simp only [Nat.mul_one] at h1
    rw [List.getElem?_take, if_pos hj] at h1
    rw [Nat.zero_add, ← Array.getElem?_toList, h1]
    simp [dv, List.getElem?_eq_getElem hj, List.getD_eq_getElem?_getD]
abbrev ctOps (ps : String) : Array Oper := #[{ dst := some 31, op := Op.load 88 (Operand.tmp 10), type := 88, pos := ps, after := #[], guard := none }, { dst := some 32, op := Op.load 88 (Operand.tmp 10), type := 88, pos := ps, after := #[], guard := none }, { dst := some 33, op := Op.nilCheck (Operand.tmp 32), type := 0, pos := ps, after := #[{ on := 1, ground := Ground.data }], guard := none }, { dst := some 34, op := Op.fieldAddr 126 (Operand.tmp 33) 2, type := 0, pos := ps, after := #[{ on := 2, ground := Ground.data }], guard := none }, { dst := some 35, op := Op.load 124 (Operand.tmp 34), type := 124, pos := ps, after := #[{ on := 3, ground := Ground.data }], guard := none }, { dst := some 36, op := Op.load 51 (Operand.tmp 7), type := 51, pos := ps, after := #[], guard := none }, { dst := some 37, op := Op.move (Operand.tmp 11), type := 3, pos := ps, after := #[], guard := none }, { dst := some 38, op := Op.call { callee := Callee.value (Operand.func 71), args := #[Operand.tmp 36, Operand.tmp 37], argTypes := #[51, 3] }, type := 27, pos := ps, after := #[{ on := 5, ground := Ground.data }, { on := 6, ground := Ground.data }], guard := none }, { dst := some 39, op := Op.buildSlice 124 1 #[(0, Operand.tmp 38)], type := 124, pos := ps, after := #[{ on := 7, ground := Ground.data }], guard := none }, { dst := some 40, op := Op.call { callee := Callee.builtin Builtin.append, args := #[Operand.tmp 35, Operand.tmp 39], argTypes := #[124, 124] }, type := 124, pos := ps, after := #[{ on := 4, ground := Ground.data }, { on := 8, ground := Ground.data }, { on := 7, ground := Ground.chain }], guard := none }, { dst := some 41, op := Op.nilCheck (Operand.tmp 31), type := 0, pos := ps, after := #[{ on := 0, ground := Ground.data }, { on := 0, ground := Ground.phase }, { on := 1, ground := Ground.phase }, { on := 2, ground := Ground.phase }, { on := 3, ground := Ground.phase }, { on := 4, ground := Ground.phase }, { on := 5, ground := Ground.phase }, { on := 6, ground := Ground.phase }, { on := 7, ground := Ground.phase }, { on := 8, ground := Ground.phase }, { on := 9, ground := Ground.phase }], guard := none }, { dst := some 42, op := Op.fieldAddr 126 (Operand.tmp 41) 2, type := 0, pos := ps, after := #[{ on := 10, ground := Ground.data }, { on := 0, ground := Ground.phase }, { on := 1, ground := Ground.phase }, { on := 2, ground := Ground.phase }, { on := 3, ground := Ground.phase }, { on := 4, ground := Ground.phase }, { on := 5, ground := Ground.phase }, { on := 6, ground := Ground.phase }, { on := 7, ground := Ground.phase }, { on := 8, ground := Ground.phase }, { on := 9, ground := Ground.phase }], guard := none }, { dst := none, op := Op.store 124 (Operand.tmp 42) (Operand.tmp 40), type := 0, pos := ps, after := #[{ on := 11, ground := Ground.data }, { on := 9, ground := Ground.data }, { on := 9, ground := Ground.chain }, { on := 0, ground := Ground.phase }, { on := 1, ground := Ground.phase }, { on := 2, ground := Ground.phase }, { on := 3, ground := Ground.phase }, { on := 4, ground := Ground.phase }, { on := 5, ground := Ground.phase }, { on := 6, ground := Ground.phase }, { on := 7, ground := Ground.phase }, { on := 8, ground := Ground.phase }, { on := 9, ground := Ground.phase }], guard := none }]
set_option maxHeartbeats 4000000 in
theorem ct_lay {ps : String} {l n : Nat} {Q : Exit → Act → World → Prop} {w : World} {t0 t1 t2 t3 t4 t5 t6 t8 t9 t12 t13 t14 t15 t16 t17 t18 t19 t20 t21 t22 t23 t24 t25 t26 t27 t28 t29 t30 t31 t32 t33 t34 t35 t36 t37 t38 t39 t40 t41 t42 t43 : Value} (kf kb kc pp i B m : Nat) (tv cv0 : Value) (ts : List Value) (tg : List Nat)
    (hB : B ≤ w.heap.size) (hm : m ≤ 16384) (hown : w.ownsRow B 27 1 tv m ts) (hlt : kf < B ∧ kb < B ∧ kc < B)
    (c0 : w.cell? ⟨kb, 0, none⟩ = some (.pointer (some ⟨kc, 0, none⟩))) (ob : w.heap[kc]? = some (.cells #[cv0, .pointer (some ⟨pp, 0, none⟩), tv] 126 (0, 0))) (c2 : w.cell? ⟨kf, 0, none⟩ = some (.pointer (some ⟨pp, 0, none⟩)))
    (hC : ∀ W, Below w.heap.size w W → Calls Tryz.prog 71 #[.pointer (some ⟨pp, 0, none⟩), .int .i64 i] W fun e w' => ∃ v, e = .returned v ∧ w'.ownsRow W.heap.size 29 1 v tg.length (dv tg) ∧ Below W.heap.size W w')
    (hQ : ∀ c (a : Act) d v w, Q (.panic c) (a.put d v) w → Q (.panic c) a w)
    (hK : ∀ a' tv' w' ra rc, w'.ownsRow B 27 1 tv' (m + 1) (ts ++ [.slice ra tg.length rc]) → JRo w' ra tg → Kp (fun k => tv.ownBlock = some k) w w' → Q .normal a' (w'.setCell ⟨kc, 2, none⟩ tv')) :
    (Code.region 7 (ctOps ps) true).wpIn (Fence.wide.inRound l) (n + 1) Tryz.prog Q { tmps := (t0 :: t1 :: t2 :: t3 :: t4 :: t5 :: t6 :: .pointer (some ⟨kf, 0, none⟩) :: t8 :: t9 :: .pointer (some ⟨kb, 0, none⟩) :: .int .i64 (i : Int) :: t12 :: t13 :: t14 :: t15 :: t16 :: t17 :: t18 :: t19 :: t20 :: t21 :: t22 :: t23 :: t24 :: t25 :: t26 :: t27 :: t28 :: t29 :: t30 :: t31 :: t32 :: t33 :: t34 :: t35 :: t36 :: t37 :: t38 :: t39 :: t40 :: t41 :: t42 :: t43 :: []).toArray, defers := [] } w := by
  have c1 : w.cell? ⟨kc, 2, none⟩ = some tv := (obj_cell ob 2).trans rfl
  have hS : (fun V : World => V.cell? ⟨kb, 0, none⟩ = some (.pointer (some ⟨kc, 0, none⟩)) ∧ V.cell? ⟨kc, 2, none⟩ = some tv ∧ V.cell? ⟨kf, 0, none⟩ = some (.pointer (some ⟨pp, 0, none⟩))) w.drew := ⟨c0, c1, c2⟩
  obtain ⟨i0, hi, hz0, hz1, hz2⟩ := info_parts Tryz.infoSl
  have hSK : ∀ (V : World) (T : Nat → Prop), Kp T w V → (∀ k, k < w.heap.size → T k → B ≤ k) → (fun V : World => V.cell? ⟨kb, 0, none⟩ = some (.pointer (some ⟨kc, 0, none⟩)) ∧ V.cell? ⟨kc, 2, none⟩ = some tv ∧ V.cell? ⟨kf, 0, none⟩ = some (.pointer (some ⟨pp, 0, none⟩))) V := fun V T hk hT => by
    have nT : ∀ k, k < B → ¬ T k := fun k hl q => by have := hT k (by omega) q; omega
    exact ⟨(hk.cell (p := ⟨kb, 0, none⟩) (Nat.lt_of_lt_of_le hlt.2.1 hB) (nT _ hlt.2.1)).trans c0, (hk.cell (p := ⟨kc, 2, none⟩) (Nat.lt_of_lt_of_le hlt.2.2 hB) (nT _ hlt.2.2)).trans c1, (hk.cell (p := ⟨kf, 0, none⟩) (Nat.lt_of_lt_of_le hlt.1 hB) (nT _ hlt.1)).trans c2⟩
  refine region_G (fun V : World => V.cell? ⟨kb, 0, none⟩ = some (.pointer (some ⟨kc, 0, none⟩)) ∧ V.cell? ⟨kc, 2, none⟩ = some tv ∧ V.cell? ⟨kf, 0, none⟩ = some (.pointer (some ⟨pp, 0, none⟩))) 12 (fun i o h => List.all_eq_true.1 (show (ctOps ps).toList.all noDefer = true by kernel_rfl) o (List.mem_of_getElem? (by simpa using h))) (by first | assumption | kernel_rfl) ?_
  refine wpAnyG_take (i := 0) (oi := { dst := some 31, op := Op.load 88 (Operand.tmp 10), type := 88, pos := ps, after := #[], guard := none }) (v := ?_) rfl rfl (by kernel_rfl) (by kernel_rfl) (by kernel_rfl) (fun _ _ _ h => hQ _ _ _ _ _ h) (by kernel_rfl) ⟨Or.inl ⟨by rfl, ?_⟩, fun _ => rfl⟩ hS ?_
  rotate_left
  · intro w' hS'; obtain ⟨s0, s1, s2⟩ := hS'; go_simp; try with_reducible rfl
  simp only [Act.put, List.setIfInBounds_toArray, List.set_cons_zero, List.set_cons_succ]
  refine wpAnyG_take (i := 1) (oi := { dst := some 32, op := Op.load 88 (Operand.tmp 10), type := 88, pos := ps, after := #[], guard := none }) (v := ?_) rfl rfl (by kernel_rfl) (by kernel_rfl) (by kernel_rfl) (fun _ _ _ h => hQ _ _ _ _ _ h) (by kernel_rfl) ⟨Or.inl ⟨by rfl, ?_⟩, fun _ => rfl⟩ hS ?_
  rotate_left
  · intro w' hS'; obtain ⟨s0, s1, s2⟩ := hS'; go_simp; try with_reducible rfl
  simp only [Act.put, List.setIfInBounds_toArray, List.set_cons_zero, List.set_cons_succ]
  refine wpAnyG_take (i := 2) (oi := { dst := some 33, op := Op.nilCheck (Operand.tmp 32), type := 0, pos := ps, after := #[{ on := 1, ground := Ground.data }], guard := none }) (v := ?_) rfl rfl (by kernel_rfl) (by kernel_rfl) (by kernel_rfl) (fun _ _ _ h => hQ _ _ _ _ _ h) (by kernel_rfl) ⟨Or.inl ⟨by rfl, ?_⟩, fun _ => rfl⟩ hS ?_
  rotate_left
  · intro w' hS'; obtain ⟨s0, s1, s2⟩ := hS'; go_simp; try with_reducible rfl
  simp only [Act.put, List.setIfInBounds_toArray, List.set_cons_zero, List.set_cons_succ]
  refine wpAnyG_take (i := 3) (oi := { dst := some 34, op := Op.fieldAddr 126 (Operand.tmp 33) 2, type := 0, pos := ps, after := #[{ on := 2, ground := Ground.data }], guard := none }) (v := ?_) rfl rfl (by kernel_rfl) (by kernel_rfl) (by kernel_rfl) (fun _ _ _ h => hQ _ _ _ _ _ h) (by kernel_rfl) ⟨Or.inl ⟨by rfl, ?_⟩, fun _ => rfl⟩ hS ?_
  rotate_left
  · intro w' hS'; obtain ⟨s0, s1, s2⟩ := hS'; go_simp; try with_reducible rfl
  simp only [Act.put, List.setIfInBounds_toArray, List.set_cons_zero, List.set_cons_succ]
  refine wpAnyG_take (i := 4) (oi := { dst := some 35, op := Op.load 124 (Operand.tmp 34), type := 124, pos := ps, after := #[{ on := 3, ground := Ground.data }], guard := none }) (v := ?_) rfl rfl (by kernel_rfl) (by kernel_rfl) (by kernel_rfl) (fun _ _ _ h => hQ _ _ _ _ _ h) (by kernel_rfl) ⟨Or.inl ⟨by rfl, ?_⟩, fun _ => rfl⟩ hS ?_
  rotate_left
  · intro w' hS'; obtain ⟨s0, s1, s2⟩ := hS'; go_simp; try with_reducible rfl
  simp only [Act.put, List.setIfInBounds_toArray, List.set_cons_zero, List.set_cons_succ]
  refine wpAnyG_take (i := 5) (oi := { dst := some 36, op := Op.load 51 (Operand.tmp 7), type := 51, pos := ps, after := #[], guard := none }) (v := ?_) rfl rfl (by kernel_rfl) (by kernel_rfl) (by kernel_rfl) (fun _ _ _ h => hQ _ _ _ _ _ h) (by kernel_rfl) ⟨Or.inl ⟨by rfl, ?_⟩, fun _ => rfl⟩ hS ?_
  rotate_left
  · intro w' hS'; obtain ⟨s0, s1, s2⟩ := hS'; go_simp; try with_reducible rfl
  simp only [Act.put, List.setIfInBounds_toArray, List.set_cons_zero, List.set_cons_succ]
  refine wpAnyG_take (i := 6) (oi := { dst := some 37, op := Op.move (Operand.tmp 11), type := 3, pos := ps, after := #[], guard := none }) (v := ?_) rfl rfl (by kernel_rfl) (by kernel_rfl) (by kernel_rfl) (fun _ _ _ h => hQ _ _ _ _ _ h) (by kernel_rfl) ⟨Or.inl ⟨by rfl, ?_⟩, fun _ => rfl⟩ hS ?_
  rotate_left
  · intro w' hS'; obtain ⟨s0, s1, s2⟩ := hS'; go_simp; try with_reducible rfl
  simp only [Act.put, List.setIfInBounds_toArray, List.set_cons_zero, List.set_cons_succ]
  refine wpAnyG_one (i := 7) (o := { dst := some 38, op := Op.call { callee := Callee.value (Operand.func 71), args := #[Operand.tmp 36, Operand.tmp 37], argTypes := #[51, 3] }, type := 27, pos := ps, after := #[{ on := 5, ground := Ground.data }, { on := 6, ground := Ground.data }], guard := none }) (by kernel_rfl) rfl (by rfl) ?_
  refine opGe (f := 71) (args := #[.pointer (some ⟨pp, 0, none⟩), .int .i64 i]) (w' := w.drew) rfl (fun _ _ => trivial) ?_ (fun _ => Nat.succ_pos n) ?_
  · kernel_rfl
  have hcl := (callsIn_wide (n := n)).2 (hC w.drew (below_drewN (Below.refl _ _) 1))
  refine CallsIn.mono (F := Fence.wide) hcl ?_
  rintro y w1 ⟨rv, rfl, hown1, hb1⟩
  have hb1 : Below w.heap.size w w1 := ⟨hb1.os, hb1.tape, hb1.output, hb1.size, hb1.block⟩
  obtain ⟨ra, rc, rfl, hjo⟩ := jro_own hown1
  have hk1 : Kp (fun _ => False) w w1 := Kp.ofBelow hb1
  refine ⟨_, rfl, fun _ => hSK _ _ hk1 (fun _ _ q => q.elim), ?_⟩
  replace hS := hSK _ _ hk1 (fun _ _ q => q.elim)
  simp only [Act.put, List.setIfInBounds_toArray, List.set_cons_zero, List.set_cons_succ]
  refine wpAnyG_one (i := 8) (o := { dst := some 39, op := Op.buildSlice 124 1 #[(0, Operand.tmp 38)], type := 124, pos := ps, after := #[{ on := 7, ground := Ground.data }], guard := none }) (by kernel_rfl) rfl (by rfl) ?_
  refine opG (v := .slice (some ⟨w1.heap.size, 0, none⟩) 1 1) (w' := w1.alloc (.cells #[.slice ra tg.length rc] 27)) rfl rfl ?_ ⟨fun _ => ?_, ?_⟩
  · unfold execOp
    simp only [Sem.run_bind]
    rw [run_buildSlice w1 124 27 1 _ #[.slice ra tg.length rc] i0 _ Tryz.underlying124 hi hz0 (by rw [hz1]; decide) (by rw [hz1]; decide) (by rw [hz1]; kernel_rfl)]
    rfl
  · exact hSK _ _ (hk1.trans (Kp.alloc (S := fun _ => False) w1 _) (fun _ _ q => q)) (fun _ _ q => q.elim)
  simp only [Act.put, List.setIfInBounds_toArray, List.set_cons_zero, List.set_cons_succ]
  have hkd : Kp (fun _ => False) w (w1.alloc (.cells #[.slice ra tg.length rc] 27)) := hk1.trans (Kp.alloc (S := fun _ => False) w1 _) (fun _ _ q => q)
  have hjo2 : JRo (w1.alloc (.cells #[.slice ra tg.length rc] 27)) ra tg := hjo.kept (Kp.alloc (S := fun _ => False) w1 _) (fun _ q => q.elim)
  have hzW : (w1.alloc (.cells #[.slice ra tg.length rc] 27)).heap.size = w1.heap.size + 1 := by simp
  have hnews : ∀ j u, [Value.slice ra tg.length rc][j]? = some u → (w1.alloc (.cells #[.slice ra tg.length rc] 27)).cell? ((⟨w1.heap.size, 0, none⟩ : Addr).add j) = some u := by
    intro j u hj
    match j, hj with
    | 0, hj => simp at hj; subst hj; exact (obj_cell (heap_alloc_new w1 _) 0).trans rfl
    | k + 1, hj => simp at hj
  generalize w1.alloc (.cells #[.slice ra tg.length rc] 27) = W1 at hkd hjo2 hnews hzW ⊢
  have hown2 := hkd.own hown (fun _ _ q => q)
  obtain ⟨tv', w2, hr2, ho2, hg2, _, hb2⟩ := run_append_own_at (P := Tryz.prog) W1 B 124 124 27 i0 (.slice none 0 0) 1 24 Tryz.underlying124 hi hz0 hz1 hz2 rfl (by decide) tv m ts hown2 ⟨w1.heap.size, 0, none⟩ 1 1 [.slice ra tg.length rc] rfl hnews (by intro u hu; simp at hu; subst hu; rfl) (by unfold maxLen; omega) (by omega) (Nat.le_trans hB hkd.size)
  have hk2a : Kp (fun k => tv.ownBlock = some k) W1 w2 := Kp.ofGrown hg2 (fun i e _ => e)
  have hk2 : Kp (fun k => tv.ownBlock = some k) w w2 := (hkd.mono (S' := fun k => tv.ownBlock = some k) (fun _ _ q => q.elim)).trans hk2a (fun _ _ q => q)
  have hjo3 : JRo w2 ra tg := hjo2.kept hk2a (fun k e cs ho => by
    rcases hown2.2 with hn | ⟨g', cap', cur', e1, e2, e3, e4⟩
    · rw [hn.1] at e
      cases e
    · rw [e1] at e
      cases e
      rw [e3] at ho
      cases ho)
  refine wpAnyG_one (i := 9) (o := { dst := some 40, op := Op.call { callee := Callee.builtin Builtin.append, args := #[Operand.tmp 35, Operand.tmp 39], argTypes := #[124, 124] }, type := 124, pos := ps, after := #[{ on := 4, ground := Ground.data }, { on := 8, ground := Ground.data }, { on := 7, ground := Ground.chain }], guard := none }) (by kernel_rfl) rfl (by rfl) ?_
  refine opG (v := tv') (w' := w2) rfl rfl ?_ ⟨fun _ => ?_, ?_⟩
  · unfold execOp
    simp only [resolve, invoke, builtin, Sem.run_bind, Sem.run_pure, Result.andThen_ok, List.map_toArray, List.map_cons, List.map_nil]
    show ((Builtin.append_ #[124, 124] 124 #[tv, .slice (some ⟨w1.heap.size, 0, none⟩) 1 1]).run Tryz.prog W1).andThen _ = _
    rw [hr2]
    rfl
  · exact hSK _ _ hk2 (fun k _ q => (hown.lt k q).1)
  simp only [Act.put, List.setIfInBounds_toArray, List.set_cons_zero, List.set_cons_succ]
  refine wpAnyG_one (i := 10) (o := { dst := some 41, op := Op.nilCheck (Operand.tmp 31), type := 0, pos := ps, after := #[{ on := 0, ground := Ground.data }, { on := 0, ground := Ground.phase }, { on := 1, ground := Ground.phase }, { on := 2, ground := Ground.phase }, { on := 3, ground := Ground.phase }, { on := 4, ground := Ground.phase }, { on := 5, ground := Ground.phase }, { on := 6, ground := Ground.phase }, { on := 7, ground := Ground.phase }, { on := 8, ground := Ground.phase }, { on := 9, ground := Ground.phase }], guard := none }) (by kernel_rfl) rfl (by rfl) ?_
  refine opG (v := .pointer (some ⟨kc, 0, none⟩)) (w' := w2) rfl rfl ?_ ⟨fun _ => hSK _ _ hk2 (fun k _ q => (hown.lt k q).1), ?_⟩
  · go_simp
  simp only [Act.put, List.setIfInBounds_toArray, List.set_cons_zero, List.set_cons_succ]
  refine wpAnyG_one (i := 11) (o := { dst := some 42, op := Op.fieldAddr 126 (Operand.tmp 41) 2, type := 0, pos := ps, after := #[{ on := 10, ground := Ground.data }, { on := 0, ground := Ground.phase }, { on := 1, ground := Ground.phase }, { on := 2, ground := Ground.phase }, { on := 3, ground := Ground.phase }, { on := 4, ground := Ground.phase }, { on := 5, ground := Ground.phase }, { on := 6, ground := Ground.phase }, { on := 7, ground := Ground.phase }, { on := 8, ground := Ground.phase }, { on := 9, ground := Ground.phase }], guard := none }) (by kernel_rfl) rfl (by rfl) ?_
  refine opG (v := .pointer (some ⟨kc, 2, none⟩)) (w' := w2) rfl rfl ?_ ⟨fun _ => hSK _ _ hk2 (fun k _ q => (hown.lt k q).1), ?_⟩
  · go_simp
  have nkc : ¬ tv.ownBlock = some kc := fun q => by have := (hown.lt kc q).1; omega
  have ob2 := (hk2.block kc (Nat.lt_of_lt_of_le hlt.2.2 hB) nkc).trans ob
  have cc := (obj_cell ob2 2).trans rfl
  have ff := obj_frozen ob2 2
  have hlv : ∃ ao2 len2 cap2, tv' = .slice ao2 len2 cap2 := by
    rcases ho2.2 with hn | ⟨g', cap', cur', e1, e2, e3, e4⟩
    · exact ⟨_, _, _, hn.1⟩
    · exact ⟨_, _, _, e1⟩
  obtain ⟨ao2, len2, cap2, rfl⟩ := hlv
  simp only [Act.put, List.setIfInBounds_toArray, List.set_cons_zero, List.set_cons_succ]
  refine wpAnyG_one (i := 12) (o := { dst := none, op := Op.store 124 (Operand.tmp 42) (Operand.tmp 40), type := 0, pos := ps, after := #[{ on := 11, ground := Ground.data }, { on := 9, ground := Ground.data }, { on := 9, ground := Ground.chain }, { on := 0, ground := Ground.phase }, { on := 1, ground := Ground.phase }, { on := 2, ground := Ground.phase }, { on := 3, ground := Ground.phase }, { on := 4, ground := Ground.phase }, { on := 5, ground := Ground.phase }, { on := 6, ground := Ground.phase }, { on := 7, ground := Ground.phase }, { on := 8, ground := Ground.phase }, { on := 9, ground := Ground.phase }], guard := none }) (by kernel_rfl) rfl (by rfl) ?_
  refine opG0 (w' := w2.setCell ⟨kc, 2, none⟩ (.slice ao2 len2 cap2)) rfl rfl ?_ ⟨fun q => absurd rfl q, ?_⟩
  · go_simp
  exact wpAnyG_done (by kernel_rfl) (hK _ _ _ ra rc ho2 hjo3 hk2) _
end Go.Proofs.YtnalnlbainghoaaGreatDoor
namespace Go.Proofs.YtnalnlbainghoaaGreatDoor
open Go.RowKit Go.WideShapes Go.Shelf
set_option maxRecDepth 100000
attribute [local go_sem] Oper.semAt_some

/-- what charted leaves -/
def CtP (w : World) (ao : Option Addr) (cap : Nat) (L : List (Nat × Nat)) (J : List Nat) (e : Ending) (w' : World) : Prop :=
  Below w.heap.size w w' ∧ ((∃ i x : Nat, e = .returned (.tuple #[.pointer none, .int .i64 i, .int .i64 x]) ∧ x ≠ 0 ∧ FdB L J [] i x) ∨
    (∃ kc pp ta tc, e = .returned (.tuple #[.pointer (some ⟨kc, 0, none⟩), .int .i64 0, .int .i64 0]) ∧ ChS w' kc pp ta tc ao cap L J ∧ FdG L J [] ∧ w.heap.size ≤ kc))
/-- what abides while targets are gathered -/
def CtI (W4 : World) (kc pp : Nat) (ao : Option Addr) (cap : Nat) (L : List (Nat × Nat)) (J : List Nat) (pre : List Nat) (U : World) : Prop :=
  Kp (fun i => i = kc) W4 U ∧ ∃ tv ts, U.heap[kc]? = some (.cells #[.slice ao L.length cap, .pointer (some ⟨pp, 0, none⟩), tv] 126 (0, 0)) ∧ U.ownsRow W4.heap.size 27 1 tv pre.length ts ∧ ∀ k, k < pre.length → ∃ a c, ts[k]? = some (.slice a (tgs L J k).length c) ∧ JRo U a (tgs L J k)
theorem CtI.step {W4 : World} {kc pp : Nat} {ao : Option Addr} {cap : Nat} {L : List (Nat × Nat)} {J : List Nat} {pre : List Nat} {A C : World} {row : Option Nat} (h : CtI W4 kc pp ao cap L J pre A) (hg : A.grownBy C row) (hr : ∀ r, row = some r → W4.heap.size ≤ r ∧ ∃ o : Obj, A.heap[r]? = some o ∧ o.isCells = false) : CtI W4 kc pp ao cap L J pre C := by
  obtain ⟨h1, tv, ts, h2, h3, h4⟩ := h
  have hk : Kp (fun k => row = some k) A C := Kp.ofGrown hg (fun i e _ => e)
  have no : ∀ b cs t fr, A.heap[b]? = some (.cells cs t fr) → ¬ row = some b := fun b cs t fr hb e => by
    obtain ⟨_, o, ho, hc⟩ := hr b e
    rw [hb] at ho
    cases ho
    cases hc
  refine ⟨h1.trans hk (fun i hi e => by have := (hr i e).1; omega), tv, ts, (hk.block kc (Array.getElem?_eq_some_iff.1 h2).1 (no _ _ _ _ h2)).trans h2, hk.own h3 (fun k e q => ?_), fun k hk2 => ?_⟩
  · rcases h3.2 with hn | ⟨g', cap', cur', e1, e2, e3, e4⟩
    · rw [hn.1] at e
      cases e
    · rw [e1] at e
      cases e
      exact no _ _ _ _ e3 q
  · obtain ⟨a, c, e1, e2⟩ := h4 k hk2
    exact ⟨a, c, e1, e2.kept hk (fun i e cs ho => no _ _ _ _ ho e)⟩
theorem CtI.new {W4 U w2 : World} {kc pp : Nat} {ao : Option Addr} {cap : Nat} {L : List (Nat × Nat)} {J : List Nat} {pre : List Nat} {tv tv' : Value} {ts : List Value} {ra : Option Addr} {rc : Nat} (hkc : kc < W4.heap.size)
    (h1 : Kp (fun i => i = kc) W4 U) (h2 : U.heap[kc]? = some (.cells #[.slice ao L.length cap, .pointer (some ⟨pp, 0, none⟩), tv] 126 (0, 0))) (h3 : U.ownsRow W4.heap.size 27 1 tv pre.length ts) (h4 : ∀ k, k < pre.length → ∃ a c, ts[k]? = some (.slice a (tgs L J k).length c) ∧ JRo U a (tgs L J k))
    (g1 : w2.ownsRow W4.heap.size 27 1 tv' (pre.length + 1) (ts ++ [.slice ra (tgs L J pre.length).length rc])) (g2 : JRo w2 ra (tgs L J pre.length)) (g3 : Kp (fun k => tv.ownBlock = some k) U w2) (x : Nat) :
    CtI W4 kc pp ao cap L J (pre ++ [x]) (w2.setCell ⟨kc, 2, none⟩ tv') := by
  have ntv : ∀ k, tv.ownBlock = some k → W4.heap.size ≤ k ∧ ∀ cs, U.heap[k]? ≠ some (.cells cs 29 (0, 0)) := fun k e => ⟨(h3.lt k e).1, fun cs ho => by
    rcases h3.2 with hn | ⟨g', cap', cur', e1, e2, e3, e4⟩
    · rw [hn.1] at e
      cases e
    · rw [e1] at e
      cases e
      rw [e3] at ho
      cases ho⟩
  have ob2 := (g3.block kc (Array.getElem?_eq_some_iff.1 h2).1 (fun q => by have := (ntv kc q).1; omega)).trans h2
  have hkset := Kp.setCell (S := fun i => i = kc) w2 ⟨kc, 2, none⟩ tv' rfl
  have nob : ∀ i, i = kc → ∀ cs, w2.heap[i]? ≠ some (.cells cs 29 (0, 0)) := fun i e cs ho => by
    rw [e, ob2] at ho
    cases ho
  have hlen : ts.length = pre.length := by rw [h3.1, Nat.mul_one]
  refine ⟨(h1.trans g3 (fun i hi q => by have := (ntv i q).1; omega)).trans hkset (fun _ _ q => q), tv', ts ++ [.slice ra (tgs L J pre.length).length rc], ?_, ?_, fun k hk => ?_⟩
  · rw [heap_setCell_same w2 kc 2 _ _ _ ob2]
    rfl
  · rw [List.length_append]
    exact ownsRow_setCell_below (a := ⟨kc, 2, none⟩) g1 hkc _
  · rw [List.length_append, List.length_singleton] at hk
    by_cases he : k < pre.length
    · obtain ⟨a, c, e1, e2⟩ := h4 k he
      exact ⟨a, c, by rw [List.getElem?_append_left (by omega)]; exact e1, (e2.kept g3 (fun i e => (ntv i e).2)).kept hkset nob⟩
    · have hk2 : k = pre.length := by omega
      subst hk2
      exact ⟨ra, rc, by rw [List.getElem?_append_right (by omega), hlen]; simp, g2.kept hkset nob⟩
set_option maxHeartbeats 4000000 in
theorem charted_any (ao aj : Option Addr) (cap capj : Nat) (L : List (Nat × Nat)) (J : List Nat) (w : World) (hn : L.length ≤ 9223372036854775807) (hJn : J.length ≤ 9223372036854775807) (hwf : Wfc L) (hJ : ∀ z ∈ J, z < 4294967296)
    (hr : CRd w ao L w.heap.size) (hrJ : JRd w aj J w.heap.size) (hT : TabW w) (hp : 2 < w.heap.size) :
    Calls Tryz.prog 42 #[.slice ao L.length cap, .slice aj J.length capj] w (CtP w ao cap L J) := by
  have HFd : Calls Tryz.prog 16 #[.slice ao L.length cap, .slice aj J.length capj, .slice none 0 0] w fun e w' => Below w.heap.size w w' ∧ ((∃ i x : Nat, e = .returned (.tuple #[.pointer none, .int .i64 i, .int .i64 x]) ∧ x ≠ 0 ∧ FdB L J [] i x) ∨
    (∃ (B pp p1 g1 p2 g2 : Nat) (lv : Value) (A C : List Nat), e = .returned (.tuple #[.pointer (some ⟨pp, 0, none⟩), .int .i64 0, .int .i64 0]) ∧ PrS w' B pp p1 g1 p2 g2 L.length lv (prL L) A C ∧ (∀ y, hasW A y = isEn L y) ∧ (∀ y, hasW C y = decide (y ∈ J)) ∧ (∀ k ∈ [pp, p1, g1, p2, g2], w.heap.size ≤ k) ∧ w.heap.size ≤ B ∧ FdG L J [])) := find_any ao aj none cap capj 0 L J [] w hn hJn (by simp) hwf hJ (fun j hj => absurd hj (by simp)) hr hrJ (fun q => absurd q (by simp)) hT hp
  refine (callsIn_wide (n := 30)).1 ?_
  refine callsIn_of_wp_marks Tryz.func42 rfl trivial ?_ rfl
  simp only [Tryz.ntmps42, List.size_toArray, List.length_cons, List.length_nil, Nat.reduceAdd, Nat.reduceSub, Array.replicate_succ, Array.replicate_zero, List.push_toArray, List.append_toArray, List.nil_append, List.cons_append]
  have HFi := (callsIn_wide (n := 29)).2 HFd
  gi_wp2_with fail
  refine ⟨trivial, HFi.mono ?_⟩
  rintro e w1 ⟨hb1, ⟨i1, x1, rfl, hx1, hfb⟩ | ⟨B, pp, p1, g1, p2, g2, lv, A, C, rfl, hP, hA, hC, hk1, hB1, hG⟩⟩
  · have hxI : ¬ (x1 : Int) = 0 := by omega
    have HB := hidS (And.intro hb1 (And.intro hx1 hfb))
    clear hb1 hx1 hfb HFi HFd hr hrJ hT
    gi_wp2
    refine ⟨.tuple #[.pointer none, .int .i64 i1, .int .i64 x1], by simp [results, Tryz.f42, go_sem], belP HB.out.1, .inl ⟨i1, x1, rfl, HB.out.2⟩⟩
  · obtain ⟨al, capl, rfl, hrd⟩ := hP.reads
    have hl := encX_len hG.enc
    have hml : (bgs L).length ≤ 16384 := Nat.le_trans (els_le _ _) hl
    have HPl : Hid ((prL L).length = (bgs L).length) := hidS (prs_len _ _)
    have HA : Hid (∀ W, Below w1.heap.size w1 W → CallsIn Fence.wide 29 Tryz.prog 49 #[.pointer (some ⟨pp, 0, none⟩)] W fun e w' => e = .returned (.func (.func 76) #[] #[.pointer (some ⟨W.heap.size, 0, none⟩)]) ∧ w' = W.alloc (.cells #[.slice al (prL L).length capl] 36)) := hidS (fun W hW => callsIn_wide.2 (pall_any pp (prL L).length capl al W (hP.below hW).c0 (hP.below hW).c1))
    have HP := hidS (And.intro hP (And.intro hrd (And.intro hC hG)))
    have HR := hidS (And.intro hr (And.intro hT (And.intro hp hb1)))
    clear hP hrd hC hG hA hr hrJ hT HFi HFd hk1
    gi_wp2_with ((first | refine ⟨trivial, fun _ => by omega, ?_⟩ | refine ⟨trivial, ?_⟩); gi_at_call 49; refine (HA.out _ (belP (belP (belP (Below.refl _ _))))).mono ?_; rintro en w2 ⟨rfl, hw2⟩)
    obtain ⟨kf, hkf⟩ : ∃ k, w1.heap.size = k := ⟨_, rfl⟩
    have hb2 : Below w1.heap.size w1 w2 := by rw [hw2]; exact belP (belP (belP (belP (Below.refl _ _))))
    have hz2 : w2.heap.size = kf + 4 := by rw [hw2, ← hkf]; simp only [World.size_alloc]
    have of2 : w2.heap[kf]? = some (.cells #[.pointer (some ⟨pp, 0, none⟩)] 51 (0, 0)) := by
      rw [hw2, ← hkf, Below.heap_alloc _ _ _ (by simp only [World.size_alloc]; omega), Below.heap_alloc _ _ _ (by simp only [World.size_alloc]; omega), Below.heap_alloc _ _ _ (by simp only [World.size_alloc]; omega)]
      exact heap_alloc_new _ _
    have oc2 : w2.heap[kf + 1]? = some (.cells #[.slice ao L.length cap, .pointer (some ⟨pp, 0, none⟩), .slice none 0 0] 126 (0, 0)) := by
      have := heap_alloc_new (w1.alloc (Obj.cells #[.pointer (some ⟨pp, 0, none⟩)] 51)) (Obj.cells #[.slice ao L.length cap, .pointer (some ⟨pp, 0, none⟩), .slice none 0 0] 126)
      rw [World.size_alloc, hkf] at this
      rw [hw2, Below.heap_alloc _ _ _ (by simp only [World.size_alloc]; omega), Below.heap_alloc _ _ _ (by simp only [World.size_alloc]; omega)]
      exact this
    have ob2 : w2.heap[kf + 2]? = some (.cells #[.pointer (some ⟨kf + 1, 0, none⟩)] 88 (0, 0)) := by
      have := heap_alloc_new ((w1.alloc (Obj.cells #[.pointer (some ⟨pp, 0, none⟩)] 51)).alloc (Obj.cells #[.slice ao L.length cap, .pointer (some ⟨pp, 0, none⟩), .slice none 0 0] 126)) (Obj.cells #[.pointer (some ⟨w1.heap.size + 1, 0, none⟩)] 88)
      rw [World.size_alloc, World.size_alloc, hkf] at this
      rw [hw2, Below.heap_alloc _ _ _ (by simp only [World.size_alloc]; omega), hkf]
      exact this
    have bl2 : Boxed w2 (kf + 3) 36 (.slice al (prL L).length capl) := by
      have := Boxed.new (((w1.alloc (Obj.cells #[.pointer (some ⟨pp, 0, none⟩)] 51)).alloc (Obj.cells #[.slice ao L.length cap, .pointer (some ⟨pp, 0, none⟩), .slice none 0 0] 126)).alloc (Obj.cells #[.pointer (some ⟨w1.heap.size + 1, 0, none⟩)] 88)) 36 (.slice al (prL L).length capl)
      rw [World.size_alloc, World.size_alloc, World.size_alloc, ← hw2, hkf] at this
      exact this
    rw [← hw2]
    simp only [Nat.add_assoc, Nat.reduceAdd]
    rw [hkf] at hb2 ⊢
    clear hw2 HA
    have HIN : Hid (∀ V, Kp (fun i => i = kf + 1) w2 V → InA (prL L) (kf + 3) al capl kf V) := hidS (fun V hk => ⟨(hk.block (kf + 3) bl2.lt (by show ¬ _ = kf + 1; omega)).trans bl2, by
      have hbV : Below kf w1 V := hb2.trans (hk.below (by omega) (fun i e => by omega))
      have := HP.out.2.1
      rw [hkf] at this
      exact this.below hbV⟩)
    have HW1 : Hid (∀ V, Kp (fun i => i = kf + 1) w2 V → Below w1.heap.size w1 V) := hidS (fun V hk => by rw [hkf]; exact hb2.trans (hk.below (by omega) (fun i e => by omega)))
    refine with_tmpsP fun T hT => ?_
    have HT := hidS hT
    clear hT
    refine range_outer (F := Fence.wide) rfl (by decide) (gf := 76) (lb := #[.pointer (some ⟨kf + 3, 0, none⟩)]) (by rw [HT.out]; rfl) trivial (enters_of Tryz.func76 (by kernel_rfl) rfl)
      (seqA (30 - 1) (by decide) (kf + 3) kf al capl (prL L) w2 (by rw [HPl.out]; exact hml) (HIN.out w2 (Kp.refl _ _)) (by omega)) KeA_t (KeA_b (w := w2)) (Below.refl _ _) (fun _ => rfl)
      (CtI w2 (kf + 1) pp ao cap L J)
      (fun c pre U => False)
      (fun s A C row h hg hr => h.step hg hr)
      (fun c s A C row h hg hr => h)
      ⟨Kp.refl _ _, .slice none 0 0, [], oc2, World.ownsRow_nil _ _ _ _, fun k hk => absurd hk (by simp)⟩
      (fun x a' U => a' = { tmps := ((((#[29, 30] : Array Tmp).zip (encP (prL L) x)).foldl (fun t (p, v) => t.setIfInBounds p v) T).setIfInBounds 11 (.int .i64 x)), defers := [] })
      (fun x a' => Own.from (fun t A C row h hg hr => h) _)
      ?assign ?body ?done (fun D c pre W _ _ h _ => h.elim)
    case assign =>
      intro l0 pre x V K hI hK
      have HF := hidS (fun a' (ha : _) => hK a' V (Upon.refl _ V) (fun y => y) hI ha)
      clear hK hI
      obtain ⟨pb, pe, pf, hq⟩ : ∃ pb pe pf, (prL L).getD x (0, 0, 0) = (pb, pe, pf) := ⟨_, _, _, rfl⟩
      simp only [encP, hq] at HF ⊢
      rw [HT.out]
      gi_wp2
      exact HF.out _ (by rw [HT.out]; simp)
    case body =>
      rintro l0 pre x a' U hl0 hrec ⟨h1, tv, ts, h2, h3, h4⟩ rfl hln hsp
      obtain ⟨hxp, hxm⟩ := range_at hsp
      have hbU := HW1.out U h1
      have hPU := HP.out.1.kept (S := fun i => i = kf + 1) ((Kp.ofBelow (by rw [hkf]; exact hb2)).trans h1 (fun _ _ q => q)) (fun i hi e => by omega)
      have hxb : x < (bgs L).length := by rw [← HPl.out]; exact hxm
      have hpe := prL_get L hxb
      have hC2 : rng (hasW C) (bAt L x) (bAt L (x + 1)) = tgs L J x := by
        unfold tgs
        congr 1
        funext y
        exact HP.out.2.2.1 y
      have hTU : TabW U := (HR.out.2.1.below HR.out.2.2.2 HR.out.2.2.1).below hbU (Nat.lt_of_lt_of_le HR.out.2.2.1 HR.out.2.2.2.size)
      have HTg : Hid (∀ W, Below U.heap.size U W → Calls Tryz.prog 71 #[.pointer (some ⟨pp, 0, none⟩), .int .i64 x] W fun e w' => ∃ v, e = .returned v ∧ w'.ownsRow W.heap.size 29 1 v (tgs L J x).length (dv (tgs L J x)) ∧ Below W.heap.size W w') := hidS (fun W hW => by
        have h5 := ptargets_in x W hxm hl (by rw [hpe]; exact ⟨Nat.le_trans (Nat.le_of_lt (bAt_lt hxb)) (bgs_end _), bgs_end _⟩) (hTU.below hW (Nat.lt_of_lt_of_le (Nat.lt_of_lt_of_le HR.out.2.2.1 HR.out.2.2.2.size) hbU.size)) (hPU.below hW)
        rw [hpe] at h5
        simp only at h5
        rw [hC2] at h5
        exact h5)
      have hUz := h1.size
      have c0 : U.cell? ⟨kf + 2, 0, none⟩ = some (.pointer (some ⟨kf + 1, 0, none⟩)) := (h1.cell (p := ⟨kf + 2, 0, none⟩) (by show kf + 2 < _; omega) (by show ¬ kf + 2 = kf + 1; omega)).trans ((obj_cell ob2 0).trans rfl)
      have c2 : U.cell? ⟨kf, 0, none⟩ = some (.pointer (some ⟨pp, 0, none⟩)) := (h1.cell (p := ⟨kf, 0, none⟩) (by show kf < _; omega) (by show ¬ kf = kf + 1; omega)).trans ((obj_cell of2 0).trans rfl)
      obtain ⟨pb, pe, pf, hq⟩ : ∃ pb pe pf, (prL L).getD x (0, 0, 0) = (pb, pe, pf) := ⟨_, _, _, rfl⟩
      simp only [encP, hq]
      rw [HT.out]
      simp only [List.zip_toArray, List.zip_cons_cons, List.zip_nil_right, List.foldl_toArray', List.foldl_cons, List.foldl_nil, List.setIfInBounds_toArray, List.set_cons_succ, List.set_cons_zero]
      refine wpIn_block ?_
      subst hxp
      refine ct_lay (n := 27) kf (kf + 2) (kf + 1) pp pre.length w2.heap.size pre.length tv (.slice ao L.length cap) ts (tgs L J pre.length) hUz (by omega) h3 ⟨by omega, by omega, by omega⟩ c0 h2 c2 HTg.out (fun _ _ _ _ _ h => h) ?_
      intro a' tv' w' ra rc g1 g2 g3
      have hct := CtI.new (W4 := w2) (x := pre.length) (by omega) h1 h2 h3 h4 g1 g2 g3
      have hup : Upon w2.heap.size U w' := ⟨g3.size, fun k o _ hk hc => (g3.block k (Array.getElem?_eq_some_iff.1 hk).1 (fun e => by
        rcases h3.2 with hn | ⟨g', cap', cur', e1, e2, e3, e4⟩
        · rw [hn.1] at e
          cases e
        · rw [e1] at e
          cases e
          rw [e3] at hk
          cases hk
          cases hc)).trans hk⟩
      exact ⟨hup.trans (Upon.setCell _ _ _), fun _ => HIN.out _ hct.1, hct⟩
    case done =>
      rintro D1 xs U hD hS ⟨h1, tv, ts, h2, h3, h4⟩ hd
      subst hS
      rw [List.length_range, HPl.out] at h3 h4
      have hpos := bgs_pos HP.out.2.2.2.fst
      obtain ⟨g, gc, htv⟩ : ∃ g c, tv = .slice (some ⟨g, 0, none⟩) (bgs L).length c := by
        rcases h3.2 with ⟨_, hz⟩ | ⟨g', cap', cur', e1, _⟩
        · omega
        · exact ⟨_, _, e1⟩
      subst htv
      have c0 : U.cell? ⟨kf + 2, 0, none⟩ = some (.pointer (some ⟨kf + 1, 0, none⟩)) := (h1.cell (p := ⟨kf + 2, 0, none⟩) (by show kf + 2 < _; omega) (by show ¬ kf + 2 = kf + 1; omega)).trans ((obj_cell ob2 0).trans rfl)
      have HF : Hid (ChS (U.putObj D1 (.deferred none)) (kf + 1) pp (some ⟨g, 0, none⟩) gc ao cap L J ∧ Below w.heap.size w (U.putObj D1 (.deferred none))) := hidS (by
        have hkp : Kp (fun i => i = D1) U (U.putObj D1 (.deferred none)) := Kp.ofGrown (grownBy_putObj' _ D1 (.deferred none)) (fun i e _ => by cases e; rfl)
        have hk1 : Kp (fun i => i = kf + 1 ∨ i = D1) w1 (U.putObj D1 (.deferred none)) := (((Kp.ofBelow (S := fun i => i = kf + 1) (by rw [hkf]; exact hb2)).trans h1 (fun _ _ q => q)).mono (fun _ _ q => .inl q)).trans hkp (fun _ _ q => .inr q)
        have hbU : Below w1.heap.size w1 (U.putObj D1 (.deferred none)) := hk1.below (Nat.le_refl _) (fun i e => by omega)
        have hbw := btP hb1 hbU
        have noD : ∀ b cs t fr, U.heap[b]? = some (.cells cs t fr) → ¬ b = D1 := fun b cs t fr hb e => by
          rw [e, hd] at hb
          cases hb
        have h3' := hkp.own h3 (fun k e q => by
          rcases h3.2 with hn | ⟨g', cap', cur', e1, e2, e3, e4⟩
          · cases hn.1
          · cases e1
            cases e
            exact noD _ _ _ _ e3 q)
        refine ⟨⟨(hkp.block _ (Array.getElem?_eq_some_iff.1 h2).1 (noD _ _ _ _ h2)).trans h2, ⟨B, p1, g1, p2, g2, _, A, C, HP.out.1.kept hk1 (fun i hi e => by omega)⟩, CRd.mono (CRd.below HR.out.1 hbw) hbw.size, g, 0, rfl, (h3'.lt g rfl).2, fun k hk => ?_⟩, hbw⟩
        obtain ⟨a, c, e1, e2⟩ := h4 k hk
        refine ⟨a, c, ?_, (e2.kept hkp (fun i e cs ho => noD _ _ _ _ ho e)).jrd⟩
        rw [Nat.zero_add]
        exact (h3'.cellAt k (by omega)).trans e1)
      have HD := hidS hd
      clear h1 h2 h3 h4 hd
      rw [HT.out]
      gi_wp2
      refine ⟨by simp, .inl ⟨_, _, rfl, run_takeDeferred HD.out, ?_⟩⟩
      refine ⟨.tuple #[.pointer (some ⟨kf + 1, 0, none⟩), .int .i64 0, .int .i64 0], by simp [results, Tryz.f42, go_sem], HF.out.2, .inr ⟨kf + 1, pp, some ⟨g, 0, none⟩, gc, rfl, HF.out.1, HP.out.2.2.2, by have := hb1.size; omega⟩⟩
end Go.Proofs.YtnalnlbainghoaaGreatDoor
namespace Go.Proofs.YtnalnlbainghoaaGreatDoor
open Go.RowKit Go.WideShapes Go.Shelf
set_option maxRecDepth 100000

/-- what flow.Depths leaves -/
def FlP (w : World) (L : List (Nat × Nat)) (J : List Nat) (e : Ending) (w' : World) : Prop :=
  Below w.heap.size w w' ∧ ((∃ i x : Nat, e = .returned (.tuple #[.slice none 0 0, .slice none 0 0, .int .i64 i, .int .i64 x]) ∧ x ≠ 0 ∧ FdB L J [] i x) ∨
    (FdG L J [] ∧ ∃ i x : Nat, e = .returned (.tuple #[.slice none 0 0, .slice none 0 0, .int .i64 i, .int .i64 x]) ∧ (x = 140 ∨ x = 141 ∨ x = 142 ∨ x = 143) ∧ ∃ k, k < (bgs L).length ∧ FltP L J k i x) ∨
    (FdG L J [] ∧ ∃ (gd cp : Nat) (nv : Value) (D N : List Int), e = .returned (.tuple #[.slice (some ⟨gd, 0, none⟩) D.length cp, nv, .int .i64 0, .int .i64 0]) ∧ DpW w' w.heap.size gd cp D ∧ w'.ownsRow w.heap.size 3 1 nv N.length (N.map fun z => Value.int .i64 z) ∧ DpK L J D N (bgs L).length))
theorem wfc_op {L : List (Nat × Nat)} (h : Wfc L) : ∀ i, i < L.length → opL L i < 256 := fun _ hi => (h.at hi).1
set_option maxHeartbeats 1000000 in
theorem fdepths_any (ao aj : Option Addr) (cap capj : Nat) (L : List (Nat × Nat)) (J : List Nat) (w : World) (hn : L.length ≤ 9223372036854775807) (hJn : J.length ≤ 9223372036854775807) (hwf : Wfc L) (hJ : ∀ z ∈ J, z < 4294967296)
    (hr : CRd w ao L w.heap.size) (hrJ : JRd w aj J w.heap.size) (hT : TabW w) (hp : 2 < w.heap.size) :
    Calls Tryz.prog 17 #[.slice ao L.length cap, .slice aj J.length capj] w (FlP w L J) := by
  have HC : Calls Tryz.prog 42 #[.slice ao L.length cap, .slice aj J.length capj] w fun e w' => Below w.heap.size w w' ∧ ((∃ i x : Nat, e = .returned (.tuple #[.pointer none, .int .i64 i, .int .i64 x]) ∧ x ≠ 0 ∧ FdB L J [] i x) ∨
    (∃ kc pp ta tc, e = .returned (.tuple #[.pointer (some ⟨kc, 0, none⟩), .int .i64 0, .int .i64 0]) ∧ ChS w' kc pp ta tc ao cap L J ∧ FdG L J [] ∧ w.heap.size ≤ kc)) := charted_any ao aj cap capj L J w hn hJn hwf hJ hr hrJ hT hp
  clear hr hrJ hT
  go_enter Tryz.func17, Tryz.ntmps17
  go_wp2_with fail
  refine HC.mono ?_
  rintro e w1 ⟨hb1, ⟨i1, x1, rfl, hx1, hfb⟩ | ⟨kc, pp, ta, tc, rfl, hS, hG, _⟩⟩
  · have hxI : ¬ (x1 : Int) = 0 := by omega
    have HF := hidS (And.intro hb1 (And.intro hx1 hfb))
    clear hb1 hx1 hfb HC
    go_wp2
    refine bodyPost_ret (v := .tuple #[.slice none 0 0, .slice none 0 0, .int .i64 i1, .int .i64 x1]) (by simp [results, Tryz.f17, go_sem]) rfl ⟨HF.out.1, .inl ⟨i1, x1, rfl, HF.out.2⟩⟩
  · have HD : Calls Tryz.prog 43 #[.pointer (some ⟨kc, 0, none⟩)] w1 fun e w' => Below w1.heap.size w1 w' ∧ ((∃ i x : Nat, e = .returned (.tuple #[.slice none 0 0, .slice none 0 0, .int .i64 i, .int .i64 x]) ∧ (x = 140 ∨ x = 141 ∨ x = 142 ∨ x = 143) ∧ ∃ k, k < (bgs L).length ∧ FltP L J k i x) ∨
      (∃ (gd cp : Nat) (nv : Value) (D N : List Int), e = .returned (.tuple #[.slice (some ⟨gd, 0, none⟩) D.length cp, nv, .int .i64 0, .int .i64 0]) ∧ DpW w' w1.heap.size gd cp D ∧ w'.ownsRow w1.heap.size 3 1 nv N.length (N.map fun z => Value.int .i64 z) ∧ DpK L J D N (bgs L).length)) := depths_any hS hG (wfc_op hwf)
    have HF := hidS (And.intro hb1 hG)
    clear hb1 hG hS HC
    go_wp2_with fail
    refine HD.mono ?_
    rintro e w2 ⟨hb2, ⟨i2, x2, rfl, hx2, hno⟩ | ⟨gd, cp, nv, D, N, rfl, hDp, hNr, hK⟩⟩
    · have HE := hidS (And.intro hb2 (And.intro hx2 hno))
      clear hb2 hx2 hno HD
      go_wp2
      refine bodyPost_ret (v := .tuple #[.slice none 0 0, .slice none 0 0, .int .i64 i2, .int .i64 x2]) (by simp [results, Tryz.f17, go_sem]) rfl ⟨btP HF.out.1 HE.out.1, .inr (.inl ⟨HF.out.2, i2, x2, rfl, HE.out.2⟩)⟩
    · have HE := hidS (And.intro hb2 (And.intro hDp (And.intro hNr hK)))
      clear hb2 hDp hNr hK HD
      go_wp2
      refine bodyPost_ret (v := .tuple #[.slice (some ⟨gd, 0, none⟩) D.length cp, nv, .int .i64 0, .int .i64 0]) (by simp [results, Tryz.f17, go_sem]) rfl ⟨btP HF.out.1 HE.out.1, .inr (.inr ⟨HF.out.2, gd, cp, nv, D, N, rfl, own_base HE.out.2.1 HF.out.1.size, own_base HE.out.2.2.1 HF.out.1.size, HE.out.2.2.2⟩)⟩
theorem nil_eqW (a : Option Addr) (n c : Nat) (w : World) : (binOp .eql 27 (.slice a n c) (.slice none 0 0)).run Tryz.prog w = .ok (.bool a.isNone) w := by
  have e : binOp .eql 27 (.slice a n c) (.slice none 0 0) = (do pure (.bool (← Op.equal 27 (.slice a n c) (.slice none 0 0)))) := rfl
  rw [e, Sem.run_bind, run_equal_slice_nil w _ _ a n c Tryz.underlying27]
  rfl
end Go.Proofs.YtnalnlbainghoaaGreatDoor
