import Derived.Test.YtahghghobibgdaaDoorFR8
import Derived.Test.YtahghghobibgdaaDoorCFGa
namespace Go.Proofs.YtahghghobibgdaaDoor
open Go.RowKit Go.WideShapes Go.Shelf
set_option maxRecDepth 100000
set_option linter.unusedSimpArgs false
attribute [local go_sem] Oper.semAt_some
section
variable {F : Fence} {n : Nat} {P : Program} {ops : Array Oper} {Q : Exit → Act → World → Prop} {md : Region.Mode} {S : World → Prop}
theorem wpAnyG_firstN {z i : Nat} {oi : Oper} {v : Value} (hro : F.round = none) (hi : ops[i]? = some oi) (hsel : ∀ (j : Nat) (o : Oper) cs b, ops[j]? = some o → o.op ≠ .select cs b)
    (hQ : ∀ c a w, Q (.panic c) (a.put oi.dst v) w → Q (.panic c) a w) (hz : ops[z]? = none) :
    ∀ (fuel : Nat) (listed : Array Bool) (a : Act) (w : World),
      (∀ j oj, ops[j]? = some oj → j ≠ i → listed.getD j true = false → (∀ e ∈ oj.after, Region.binds md e = true → e.on ≠ i) → oi.apart ops oj = true) →
      i ∈ Region.ready md ops listed → YieldsG P ops S oi v a → S w →
      wpAnyG F n P md ops Q S z fuel (listed.setIfInBounds i true) (a.put oi.dst v) w → wpAnyG F n P md ops Q S z (fuel + 1) listed a w := by
  intro fuel
  induction fuel with
  | zero =>
    intro listed a w _ hr hy hS H
    refine ⟨fun h => (by rw [h] at hr; cases hr), fun j hj => ?_⟩
    by_cases hji : j = i
    · subst hji; exact hy.op hro hi hS ⟨fun _ => hS, H⟩
    · have := ready_mono hj hji
      rw [H.1] at this
      cases this
  | succ fuel ih =>
    intro listed a w hfree hr hy hS H
    refine ⟨fun h => (by rw [h] at hr; cases hr), fun j hj => ?_⟩
    by_cases hji : j = i
    · subst hji; exact hy.op hro hi hS ⟨fun _ => hS, H⟩
    · have h1 := H.2 j (ready_mono hj hji)
      obtain ⟨hjun, oj, hoj, hall⟩ := mem_ready.1 hj
      have hnot : ∀ e ∈ oj.after, Region.binds md e = true → e.on ≠ i := fun e he hb heq => by
        have h1 := hall e he hb
        have h0 := (mem_ready.1 hr).1
        rw [heq] at h1
        rcases Nat.lt_or_ge i listed.size with h' | h'
        · simp [h'] at h0 h1; rw [h0] at h1; cases h1
        · simp [Array.getElem?_eq_none h'] at h1
      have hjz : j ≠ z := fun e => by
        subst e
        rw [hoj] at hz
        cases hz
      have h2 := putG hro hoj (hfree j oj hoj hji hjun hnot) (fun cs b => hsel i oi cs b hi) (fun cs b => hsel j oj cs b hoj) hQ hy h1
      have hfree' : ∀ k ok, ops[k]? = some ok → k ≠ i → (listed.setIfInBounds j true).getD k true = false →
          (∀ e ∈ ok.after, Region.binds md e = true → e.on ≠ i) → oi.apart ops ok = true := fun k ok hk hki hun hno => by
        refine hfree k ok hk hki ?_ hno
        by_cases hjk : j = k
        · subst hjk; exact hjun
        · rw [getD_set_ne true hjk] at hun; exact hun
      refine wpOpIn_mono (fun a' w' h3 => ⟨h3.2.1, ih (listed.setIfInBounds j true) a' w' hfree' (ready_mono hr (Ne.symm hji)) h3.1 (h3.2.1 hjz) ?_⟩) h2
      rw [Array.setIfInBounds_comm _ _ hji]
      exact h3.2.2
theorem wpAnyG_takeN {z i : Nat} {oi : Oper} {v : Value} {fuel : Nat} {listed : Array Bool} {a : Act} {w : World} (hro : F.round = none) (hi : ops[i]? = some oi)
    (hs : Region.noSelect ops = true) (hf : Region.free md ops listed i = true) (hr : (Region.ready md ops listed).contains i = true)
    (hQ : ∀ c a w, Q (.panic c) (a.put oi.dst v) w → Q (.panic c) a w) (hz : ops[z]? = none) (hy : YieldsG P ops S oi v a) (hS : S w)
    (h : wpAnyG F n P md ops Q S z fuel (listed.setIfInBounds i true) (a.put oi.dst v) w) : wpAnyG F n P md ops Q S z (fuel + 1) listed a w :=
  wpAnyG_firstN hro hi (Region.noSelect_spec hs) hQ hz fuel listed a w (Region.free_spec hi hf) (by simpa using hr) hy hS h
end
abbrev r20Ops (ps : String) : Array Oper := #[{ dst := some 119, op := Op.load 25 (Operand.tmp 1), type := 25, pos := ps, after := #[], guard := none }, { dst := some 120, op := Op.move (Operand.tmp 3), type := 27, pos := ps, after := #[], guard := none }, { dst := some 121, op := Op.move (Operand.tmp 4), type := 27, pos := ps, after := #[], guard := none }, { dst := some 122, op := Op.move (Operand.tmp 11), type := 3, pos := ps, after := #[], guard := none }, { dst := some 123, op := Op.indexAddr 27 (Operand.tmp 121) (Operand.tmp 122), type := 0, pos := ps, after := #[{ on := 2, ground := Ground.data }, { on := 3, ground := Ground.data }], guard := none }, { dst := some 124, op := Op.load 3 (Operand.tmp 123), type := 3, pos := ps, after := #[{ on := 4, ground := Ground.data }], guard := none }, { dst := some 125, op := Op.move (Operand.tmp 10), type := 3, pos := ps, after := #[], guard := none }, { dst := some 126, op := Op.call { callee := Callee.value (Operand.func 11), args := #[Operand.tmp 119, Operand.tmp 120, Operand.tmp 124, Operand.tmp 125], argTypes := #[25, 27, 3, 3] }, type := 4, pos := ps, after := #[{ on := 0, ground := Ground.data }, { on := 1, ground := Ground.data }, { on := 5, ground := Ground.data }, { on := 6, ground := Ground.data }], guard := none }, { dst := some 127, op := Op.unOp UnOp.not 4 (Operand.tmp 126), type := 4, pos := ps, after := #[{ on := 7, ground := Ground.data }], guard := none }]
set_option maxHeartbeats 4000000 in
theorem r20_lay {ps : String} {n : Nat} {Q : Exit → Act → World → Prop} {w : World} {ds : List Deferred} {t0 t2 t5 t6 t7 t8 t9 t12 t13 t14 t15 t16 t17 t18 t19 t20 t21 t22 t23 t24 t25 t26 t27 t28 t29 t30 t31 t32 t33 t34 t35 t36 t37 t38 t39 t40 t41 t42 t43 t44 t45 t46 t47 t48 t49 t50 t51 t52 t53 t54 t55 t56 t57 t58 t59 t60 t61 t62 t63 t64 t65 t66 t67 t68 t69 t70 t71 t72 t73 t74 t75 t76 t77 t78 t79 t80 t81 t82 t83 t84 t85 t86 t87 t88 t89 t90 t91 t92 t93 t94 t95 t96 t97 t98 t99 t100 t101 t102 t103 t104 t105 t106 t107 t108 t109 t110 t111 t112 t113 t114 t115 t116 t117 t118 t119 t120 t121 t122 t123 t124 t125 t126 t127 : Value} (kb gd nD cp bn offn m cn i k sn sm sc sd : Nat) (sa sb : Option Addr) (nd : Int)
    (hx : k < m)
    (hS0 : (fun V : World => V.cell? ⟨kb, 0, none⟩ = some (.slice sa sn sc) ∧ V.cell? ⟨kb, 1, none⟩ = some (.slice sb sm sd) ∧ V.cell? ⟨bn, offn + k, none⟩ = some (.int .i64 nd)) w)
    (hC : Calls Tryd.prog 11 #[.agg #[.slice sa sn sc, .slice sb sm sd], .slice (some ⟨gd, 0, none⟩) nD cp, .int .i64 nd, .int .i64 (i : Int)] w.drew fun y w' => y = .returned (.bool true) ∧ Below w.drew.heap.size w.drew w')
    (hl : kb < w.heap.size ∧ bn < w.heap.size)
    (hQ : ∀ c (a : Act) d v w, Q (.panic c) (a.put d v) w → Q (.panic c) a w)
    (hK : ∀ w', Below w.heap.size w w' → Q .normal { tmps := (t0 :: .pointer (some ⟨kb, 0, none⟩) :: t2 :: .slice (some ⟨gd, 0, none⟩) nD cp :: .slice (some ⟨bn, offn, none⟩) m cn :: t5 :: t6 :: t7 :: t8 :: t9 :: .int .i64 (i : Int) :: .int .i64 (k : Int) :: t12 :: t13 :: t14 :: t15 :: t16 :: t17 :: t18 :: t19 :: t20 :: t21 :: t22 :: t23 :: t24 :: t25 :: t26 :: t27 :: t28 :: t29 :: t30 :: t31 :: t32 :: t33 :: t34 :: t35 :: t36 :: t37 :: t38 :: t39 :: t40 :: t41 :: t42 :: t43 :: t44 :: t45 :: t46 :: t47 :: t48 :: t49 :: t50 :: t51 :: t52 :: t53 :: t54 :: t55 :: t56 :: t57 :: t58 :: t59 :: t60 :: t61 :: t62 :: t63 :: t64 :: t65 :: t66 :: t67 :: t68 :: t69 :: t70 :: t71 :: t72 :: t73 :: t74 :: t75 :: t76 :: t77 :: t78 :: t79 :: t80 :: t81 :: t82 :: t83 :: t84 :: t85 :: t86 :: t87 :: t88 :: t89 :: t90 :: t91 :: t92 :: t93 :: t94 :: t95 :: t96 :: t97 :: t98 :: t99 :: t100 :: t101 :: t102 :: t103 :: t104 :: t105 :: t106 :: t107 :: t108 :: t109 :: t110 :: t111 :: t112 :: t113 :: t114 :: t115 :: t116 :: t117 :: t118 :: .agg #[.slice sa sn sc, .slice sb sm sd] :: .slice (some ⟨gd, 0, none⟩) nD cp :: .slice (some ⟨bn, offn, none⟩) m cn :: .int .i64 (k : Int) :: .pointer (some ⟨bn, offn + k, none⟩) :: .int .i64 nd :: .int .i64 (i : Int) :: .bool true :: .bool false :: []).toArray, defers := ds } w') :
    (Code.region 20 (r20Ops ps) true).wpIn Fence.wide (n + 1) Tryd.prog Q { tmps := (t0 :: .pointer (some ⟨kb, 0, none⟩) :: t2 :: .slice (some ⟨gd, 0, none⟩) nD cp :: .slice (some ⟨bn, offn, none⟩) m cn :: t5 :: t6 :: t7 :: t8 :: t9 :: .int .i64 (i : Int) :: .int .i64 (k : Int) :: t12 :: t13 :: t14 :: t15 :: t16 :: t17 :: t18 :: t19 :: t20 :: t21 :: t22 :: t23 :: t24 :: t25 :: t26 :: t27 :: t28 :: t29 :: t30 :: t31 :: t32 :: t33 :: t34 :: t35 :: t36 :: t37 :: t38 :: t39 :: t40 :: t41 :: t42 :: t43 :: t44 :: t45 :: t46 :: t47 :: t48 :: t49 :: t50 :: t51 :: t52 :: t53 :: t54 :: t55 :: t56 :: t57 :: t58 :: t59 :: t60 :: t61 :: t62 :: t63 :: t64 :: t65 :: t66 :: t67 :: t68 :: t69 :: t70 :: t71 :: t72 :: t73 :: t74 :: t75 :: t76 :: t77 :: t78 :: t79 :: t80 :: t81 :: t82 :: t83 :: t84 :: t85 :: t86 :: t87 :: t88 :: t89 :: t90 :: t91 :: t92 :: t93 :: t94 :: t95 :: t96 :: t97 :: t98 :: t99 :: t100 :: t101 :: t102 :: t103 :: t104 :: t105 :: t106 :: t107 :: t108 :: t109 :: t110 :: t111 :: t112 :: t113 :: t114 :: t115 :: t116 :: t117 :: t118 :: t119 :: t120 :: t121 :: t122 :: t123 :: t124 :: t125 :: t126 :: t127 :: []).toArray, defers := ds } w := by
  have hxI : (k : Int) < (m : Int) := Int.ofNat_lt.2 hx
  have hS : (fun V : World => V.cell? ⟨kb, 0, none⟩ = some (.slice sa sn sc) ∧ V.cell? ⟨kb, 1, none⟩ = some (.slice sb sm sd) ∧ V.cell? ⟨bn, offn + k, none⟩ = some (.int .i64 nd)) w.drew := hS0
  have hSb : ∀ V, Below w.heap.size w V → (fun V : World => V.cell? ⟨kb, 0, none⟩ = some (.slice sa sn sc) ∧ V.cell? ⟨kb, 1, none⟩ = some (.slice sb sm sd) ∧ V.cell? ⟨bn, offn + k, none⟩ = some (.int .i64 nd)) V := fun V hk => by
    obtain ⟨s0, s1, s2⟩ := hS0
    exact ⟨(hk.cell (p := ⟨kb, 0, none⟩) hl.1).trans s0, (hk.cell (p := ⟨kb, 1, none⟩) hl.1).trans s1, (hk.cell (p := ⟨bn, offn + k, none⟩) hl.2).trans s2⟩
  refine region_G (fun V : World => V.cell? ⟨kb, 0, none⟩ = some (.slice sa sn sc) ∧ V.cell? ⟨kb, 1, none⟩ = some (.slice sb sm sd) ∧ V.cell? ⟨bn, offn + k, none⟩ = some (.int .i64 nd)) 9 (fun i o h => List.all_eq_true.1 (show (r20Ops ps).toList.all noDefer = true by kernel_rfl) o (List.mem_of_getElem? (by simpa using h))) (by first | assumption | kernel_rfl) ?_
  refine wpAnyG_takeN (i := 0) (oi := { dst := some 119, op := Op.load 25 (Operand.tmp 1), type := 25, pos := ps, after := #[], guard := none }) (v := ?_) rfl rfl (by kernel_rfl) (by kernel_rfl) (by kernel_rfl) (fun _ _ _ h => hQ _ _ _ _ _ h) rfl ⟨Or.inl ⟨by rfl, ?_⟩, fun _ => rfl⟩ hS ?_
  rotate_left
  · intro w' hS'; obtain ⟨s0, s1, s2⟩ := hS'; go_simp; try with_reducible rfl
  simp only [Act.put, List.setIfInBounds_toArray, List.set_cons_zero, List.set_cons_succ]
  refine wpAnyG_takeN (i := 1) (oi := { dst := some 120, op := Op.move (Operand.tmp 3), type := 27, pos := ps, after := #[], guard := none }) (v := ?_) rfl rfl (by kernel_rfl) (by kernel_rfl) (by kernel_rfl) (fun _ _ _ h => hQ _ _ _ _ _ h) rfl ⟨Or.inl ⟨by rfl, ?_⟩, fun _ => rfl⟩ hS ?_
  rotate_left
  · intro w' hS'; obtain ⟨s0, s1, s2⟩ := hS'; go_simp; try with_reducible rfl
  simp only [Act.put, List.setIfInBounds_toArray, List.set_cons_zero, List.set_cons_succ]
  refine wpAnyG_takeN (i := 2) (oi := { dst := some 121, op := Op.move (Operand.tmp 4), type := 27, pos := ps, after := #[], guard := none }) (v := ?_) rfl rfl (by kernel_rfl) (by kernel_rfl) (by kernel_rfl) (fun _ _ _ h => hQ _ _ _ _ _ h) rfl ⟨Or.inl ⟨by rfl, ?_⟩, fun _ => rfl⟩ hS ?_
  rotate_left
  · intro w' hS'; obtain ⟨s0, s1, s2⟩ := hS'; go_simp; try with_reducible rfl
  simp only [Act.put, List.setIfInBounds_toArray, List.set_cons_zero, List.set_cons_succ]
  refine wpAnyG_takeN (i := 3) (oi := { dst := some 122, op := Op.move (Operand.tmp 11), type := 3, pos := ps, after := #[], guard := none }) (v := ?_) rfl rfl (by kernel_rfl) (by kernel_rfl) (by kernel_rfl) (fun _ _ _ h => hQ _ _ _ _ _ h) rfl ⟨Or.inl ⟨by rfl, ?_⟩, fun _ => rfl⟩ hS ?_
  rotate_left
  · intro w' hS'; obtain ⟨s0, s1, s2⟩ := hS'; go_simp; try with_reducible rfl
  simp only [Act.put, List.setIfInBounds_toArray, List.set_cons_zero, List.set_cons_succ]
  refine wpAnyG_takeN (i := 4) (oi := { dst := some 123, op := Op.indexAddr 27 (Operand.tmp 121) (Operand.tmp 122), type := 0, pos := ps, after := #[{ on := 2, ground := Ground.data }, { on := 3, ground := Ground.data }], guard := none }) (v := ?_) rfl rfl (by kernel_rfl) (by kernel_rfl) (by kernel_rfl) (fun _ _ _ h => hQ _ _ _ _ _ h) rfl ⟨Or.inl ⟨by rfl, ?_⟩, fun _ => rfl⟩ hS ?_
  rotate_left
  · intro w' hS'; obtain ⟨s0, s1, s2⟩ := hS'; go_simp; try with_reducible rfl
  simp only [Act.put, List.setIfInBounds_toArray, List.set_cons_zero, List.set_cons_succ]
  refine wpAnyG_takeN (i := 5) (oi := { dst := some 124, op := Op.load 3 (Operand.tmp 123), type := 3, pos := ps, after := #[{ on := 4, ground := Ground.data }], guard := none }) (v := ?_) rfl rfl (by kernel_rfl) (by kernel_rfl) (by kernel_rfl) (fun _ _ _ h => hQ _ _ _ _ _ h) rfl ⟨Or.inl ⟨by rfl, ?_⟩, fun _ => rfl⟩ hS ?_
  rotate_left
  · intro w' hS'; obtain ⟨s0, s1, s2⟩ := hS'; go_simp; try with_reducible rfl
  simp only [Act.put, List.setIfInBounds_toArray, List.set_cons_zero, List.set_cons_succ]
  refine wpAnyG_takeN (i := 6) (oi := { dst := some 125, op := Op.move (Operand.tmp 10), type := 3, pos := ps, after := #[], guard := none }) (v := ?_) rfl rfl (by kernel_rfl) (by kernel_rfl) (by kernel_rfl) (fun _ _ _ h => hQ _ _ _ _ _ h) rfl ⟨Or.inl ⟨by rfl, ?_⟩, fun _ => rfl⟩ hS ?_
  rotate_left
  · intro w' hS'; obtain ⟨s0, s1, s2⟩ := hS'; go_simp; try with_reducible rfl
  simp only [Act.put, List.setIfInBounds_toArray, List.set_cons_zero, List.set_cons_succ]
  refine wpAnyG_one (i := 7) (o := { dst := some 126, op := Op.call { callee := Callee.value (Operand.func 11), args := #[Operand.tmp 119, Operand.tmp 120, Operand.tmp 124, Operand.tmp 125], argTypes := #[25, 27, 3, 3] }, type := 4, pos := ps, after := #[{ on := 0, ground := Ground.data }, { on := 1, ground := Ground.data }, { on := 5, ground := Ground.data }, { on := 6, ground := Ground.data }], guard := none }) (by kernel_rfl) rfl (by rfl) ?_
  refine opGe (f := 11) (args := #[.agg #[.slice sa sn sc, .slice sb sm sd], .slice (some ⟨gd, 0, none⟩) nD cp, .int .i64 nd, .int .i64 (i : Int)]) (w' := w.drew) rfl (fun _ _ => trivial) ?_ (fun _ => Nat.succ_pos n) ?_
  · kernel_rfl
  refine ((callsIn_wide (n := n)).2 hC).mono ?_
  rintro y w1 ⟨rfl, hb1⟩
  have hb1 : Below w.heap.size w w1 := ⟨hb1.os, hb1.tape, hb1.output, hb1.size, hb1.block⟩
  refine ⟨_, rfl, fun _ => hSb _ hb1, ?_⟩
  replace hS := hSb _ hb1
  simp only [Act.put, List.setIfInBounds_toArray, List.set_cons_zero, List.set_cons_succ]
  refine wpAnyG_takeN (i := 8) (oi := { dst := some 127, op := Op.unOp UnOp.not 4 (Operand.tmp 126), type := 4, pos := ps, after := #[{ on := 7, ground := Ground.data }], guard := none }) (v := ?_) rfl rfl (by kernel_rfl) (by kernel_rfl) (by kernel_rfl) (fun _ _ _ h => hQ _ _ _ _ _ h) rfl ⟨Or.inl ⟨by rfl, ?_⟩, fun _ => rfl⟩ hS ?_
  rotate_left
  · intro w' hS'; obtain ⟨s0, s1, s2⟩ := hS'; go_simp; try with_reducible rfl
  simp only [Act.put, List.setIfInBounds_toArray, List.set_cons_zero, List.set_cons_succ]
  exact wpAnyG_done (by kernel_rfl) (hK w1 hb1) _
end Go.Proofs.YtahghghobibgdaaDoor
