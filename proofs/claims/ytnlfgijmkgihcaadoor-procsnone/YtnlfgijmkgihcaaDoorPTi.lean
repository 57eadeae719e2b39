import Derived.Test.YtnlfgijmkgihcaaDoorPMx
namespace Go.Proofs.YtnlfgijmkgihcaaDoor
open Go.RowKit Go.WideShapes Go.Shelf
set_option maxRecDepth 100000

/-- a set and the list of its numbers -/
structure LsNt (w : World) (B p g bound : Nat) (ws : List Nat) (v : Value) : Prop where
  set : SetSI w p g bound ws
  row : w.ownsRow B 3 1 v (els bound (hasW ws)).length (kvNt (els bound (hasW ws)))
  lp : p < B
  lg : g < B
  tab : TabW w
theorem LsNt.below {w w' : World} {B p g bound : Nat} {ws : List Nat} {v : Value} (h : LsNt w B p g bound ws v) (hb : Below w.heap.size w w') : LsNt w' B p g bound ws v :=
  ⟨h.set.kept (Kp.ofBelow (S := fun _ => False) hb) (fun q => q) (fun q => q), (Kp.ofBelow (S := fun _ => False) hb).own h.row (fun _ _ q => q), h.lp, h.lg, h.tab.below hb (by have := h.set.ltp; omega)⟩
theorem LsNt.drewN {w : World} {B p g bound : Nat} {ws : List Nat} {v : Value} (h : LsNt w B p g bound ws v) (m : Nat) : LsNt (w.drewN m) B p g bound ws v := h.below ⟨rfl, rfl, rfl, Nat.le_refl _, fun _ _ => rfl⟩
/-- the set has changed, the list not yet -/
theorem LsNt.put {w w' : World} {B p g bound : Nat} {ws ws' : List Nat} {v : Value} (h : LsNt w B p g bound ws v) (hs : SetSI w' p g bound ws') (hk : Kp (fun k => k = p ∨ k = g) w w') (hp0 : p ≠ 0) (hg0 : g ≠ 0) : SetSI w' p g bound ws' ∧ w'.ownsRow B 3 1 v (els bound (hasW ws)).length (kvNt (els bound (hasW ws))) ∧ TabW w' :=
  ⟨hs, hk.own h.row (fun k e => by have := (h.row.lt k e).1; have := h.lp; have := h.lg; omega), fun j hj => (hk.cell (p := ⟨0, j, none⟩) (by have := h.set.ltp; show 0 < w.heap.size; omega) (by show ¬ (0 = p ∨ 0 = g); omega)).trans (h.tab j hj)⟩
set_option maxHeartbeats 2000000 in
theorem stepNt_in (B p g bound : Nat) (ws : List Nat) (v : Value) (on kd : Int) (x : Int) (y : Nat) (w : World) (hxy : x = y) (hy : y < bound) (h : LsNt w B p g bound ws v) (hB : B ≤ w.heap.size) (hp0 : p ≠ 0) (hg0 : g ≠ 0) :
    Calls Tryd.prog 29 #[.pointer (some ⟨p, 0, none⟩), v, .int .i64 bound, .agg #[.int .i64 on, .int .i64 kd, .int .i64 x]] w fun e w' => ∃ ws' v', e = .returned (.tuple #[v', .bool true]) ∧ LsNt w' B p g bound ws' v' ∧ Kp (fun k => k = p ∨ k = g) w w' := by
  subst hxy
  have hbd := h.set.bd
  obtain ⟨ao, cap, rfl, hcap, hnil, hrd⟩ := ownNt_rd h.row
  have hl20 : (els bound (hasW ws)).length ≤ 1048576 := Nat.le_trans (els_le _ _) hbd
  obtain ⟨W1, hW1⟩ : ∃ W1, w.alloc (Obj.cells #[.int .i64 on, .int .i64 kd, .int .i64 (y : Int)] 60) = W1 := ⟨_, rfl⟩
  have hB1 : Below w.heap.size w W1 := by rw [← hW1]; exact belP (Below.refl _ _)
  have hL1 := h.below hB1
  have hin := inNt_core ao cap (atN (hasW ws) bound y) (els bound (hasW ws)) y W1 hl20 (at_le _ _ _) (fun i hi => Int.ofNat_lt.2 (at_lt hi)) (fun hi => Int.ofNat_le.2 (at_ge hi)) (fun hp => by obtain ⟨b, off, e1, e2, e3⟩ := hrd.below hB1 hp; exact ⟨b, off, e1, Nat.lt_of_lt_of_le e2 hB1.size, e3⟩)
  have hth : decide (atN (hasW ws) bound y < (els bound (hasW ws)).length ∧ (((els bound (hasW ws)).getD (atN (hasW ws) bound y) 0 : Nat) : Int) = (y : Int)) = hasW ws y := by
    rw [← at_there (p := hasW ws) (n := bound) (y := y) h.set.hi]
    congr 1
    simp only [Int.ofNat_inj]
  rw [hth] at hin
  have hyI : (y : Int) < (bound : Int) := by omega
  have cx : W1.cell? ⟨w.heap.size, 2, none⟩ = some (.int .i64 (y : Int)) := by rw [← hW1]; simp
  have cd : W1.cell? ⟨w.heap.size, 1, none⟩ = some (.int .i64 kd) := by rw [← hW1]; simp
  have HIN := hidS hin
  have HKP : Hid (∀ m, Kp (fun k => k = p ∨ k = g) w (W1.drewN m)) := hidS (fun m => Kp.ofBelow (below_drewP hB1 m))
  have HL1 := hidS hL1
  clear hin hth hL1
  have HW : Hid (∀ m, (W1.drewN m).cell? ⟨w.heap.size, 1, none⟩ = some (.int .i64 kd) ∧ (W1.drewN m).cell? ⟨w.heap.size, 2, none⟩ = some (.int .i64 (y : Int))) := hidS (fun m => ⟨cd, cx⟩)
  have hy63 : y < 9223372036854775808 := by omega
  have HRDD : Hid (∀ m, RdNt (W1.drewN m) ao (els bound (hasW ws)) (W1.drewN m).heap.size) := hidS (fun m hp => by obtain ⟨b, off, e1, e2, e3⟩ := hrd.below hB1 hp; exact ⟨b, off, e1, Nat.lt_of_lt_of_le e2 hB1.size, e3⟩)
  by_cases k0 : kd = 0
  · subst k0
    cases hb : hasW ws y with
    | true =>
      rw [hb] at HIN
      go_enter Tryd.func29, Tryd.ntmps29
      go_wp2_with (first
        | (go_at_call 53; with_reducible refine HIN.out.mono ?_; rintro e w2 ⟨rfl, m, hw2⟩; obtain ⟨t1, t2⟩ := HW.out m; have hL2 := HL1.out.drewN m; have hKw := HKP.out m; have hR2 := HRDD.out m; rw [← hw2] at t1 t2 hL2 hKw hR2; have HW2 := hidS hw2; clear hw2; have hA := add_anyI p g bound y ws w2 hy63 hL2.set; rw [hb, show (decide (y < bound) && !true) = false by simp, put_same hb] at hA)
        | (go_at_call 14; with_reducible refine hA.mono ?_; rintro e w3 ⟨rfl, hs3, hk3, hz3⟩; skip))
      go_ret2
      obtain ⟨u1, u2, u3⟩ := hL2.put hs3 hk3 hp0 hg0
      exact ⟨ws, _, rfl, ⟨u1, u2, h.lp, h.lg, u3⟩, hKw.trans hk3 (fun _ _ q => q)⟩
    | false =>
      rw [hb] at HIN
      have HEL := hidS (els_putL (p := hasW ws) (q := hasW (putW bound ws y)) (n := bound) (y := y) (has_putQ h.set.len hy) hy hb)
      have HAT := hidS (at_le (hasW ws) bound y)
      cases ao with
      | none =>
        obtain ⟨z1, z2⟩ := hnil rfl
        have hln : els bound (hasW ws) = [] := List.length_eq_zero_iff.1 z1
        have hat0 : atN (hasW ws) bound y = 0 := by have := HAT.out; omega
        rw [z1, hat0] at HIN
        rw [z1] at HL1 ⊢
        subst z2
        rw [hln, hat0] at HEL
        go_enter Tryd.func29, Tryd.ntmps29
        go_wp2_with (first
          | (go_at_call 53; with_reducible refine HIN.out.mono ?_; rintro e w2 ⟨rfl, m, hw2⟩; obtain ⟨t1, t2⟩ := HW.out m; have hL2 := HL1.out.drewN m; have hKw := HKP.out m; have hR2 := HRDD.out m; rw [← hw2] at t1 t2 hL2 hKw hR2; have HW2 := hidS hw2; clear hw2; have hA := add_anyI p g bound y ws w2 hy63 hL2.set; rw [hb, show (decide (y < bound) && !false) = true by simp [hy]] at hA)
          | (go_at_call 14; with_reducible refine hA.mono ?_; rintro e w3 ⟨rfl, hs3, hk3, hz3⟩; have hP := putNt_nil y w3)
          | (go_at_call 54; with_reducible refine hP.mono ?_; rintro e w4 ⟨v4, rfl, ho4, hb4⟩))
        go_ret2
        obtain ⟨u1, u2, u3⟩ := hL2.put hs3 hk3 hp0 hg0
        have hB3 : B ≤ w3.heap.size := Nat.le_trans (Nat.le_trans hB hKw.size) hk3.size
        refine ⟨putW bound ws y, v4, rfl, ⟨u1.kept (Kp.ofBelow (S := fun _ => False) hb4) (fun q => q) (fun q => q), ?_, h.lp, h.lg, u3.below hb4 (by have := u1.ltp; omega)⟩, (hKw.trans hk3 (fun _ _ q => q)).trans (Kp.ofBelow (S := fun _ => False) hb4) (fun _ _ q => q.elim)⟩
        rw [HEL.out]
        exact own_base ho4 hB3
      | some ad =>
        obtain ⟨gl, hgl⟩ : ∃ gl, ad = ⟨gl, 0, none⟩ := by
          rcases h.row.2 with ⟨e1, _⟩ | ⟨g', c', cur, e1, _⟩
          · cases e1
          · simp only [Value.slice.injEq, Option.some.injEq] at e1
            exact ⟨g', e1.1⟩
        subst hgl
        go_enter Tryd.func29, Tryd.ntmps29
        go_wp2_with (first
          | (go_at_call 53; with_reducible refine HIN.out.mono ?_; rintro e w2 ⟨rfl, m, hw2⟩; obtain ⟨t1, t2⟩ := HW.out m; have hL2 := HL1.out.drewN m; have hKw := HKP.out m; have hR2 := HRDD.out m; rw [← hw2] at t1 t2 hL2 hKw hR2; have HW2 := hidS hw2; clear hw2; have hA := add_anyI p g bound y ws w2 hy63 hL2.set; rw [hb, show (decide (y < bound) && !false) = true by simp [hy]] at hA)
          | (go_at_call 14; with_reducible refine hA.mono ?_; rintro e w3 ⟨rfl, hs3, hk3, hz3⟩; obtain ⟨u1, u2, u3⟩ := hL2.put hs3 hk3 hp0 hg0; have hP := putNt_any gl cap (atN (hasW ws) bound y) (els bound (hasW ws)) y w3 hl20 HAT.out hcap (u2.lt gl rfl).2 (fun j u hj => u2.cells rfl j u hj); have HU1 := hidS u1; have HU3 := hidS u3; clear u1 u2 u3)
          | (go_at_call 54; with_reducible refine hP.mono ?_; rintro e w4 ⟨v4, rfl, ho4, hb4⟩))
        go_ret2
        have hB3 : B ≤ w3.heap.size := Nat.le_trans (Nat.le_trans hB hKw.size) hk3.size
        refine ⟨putW bound ws y, v4, rfl, ⟨HU1.out.kept (Kp.ofBelow (S := fun _ => False) hb4) (fun q => q) (fun q => q), ?_, h.lp, h.lg, HU3.out.below hb4 (by have := HU1.out.ltp; omega)⟩, (hKw.trans hk3 (fun _ _ q => q)).trans (Kp.ofBelow (S := fun _ => False) hb4) (fun _ _ q => q.elim)⟩
        rw [HEL.out]
        have e5 : (List.take (atN (hasW ws) bound y) (els bound (hasW ws)) ++ y :: List.drop (atN (hasW ws) bound y) (els bound (hasW ws))).length = (els bound (hasW ws)).length + 1 := by
          have := HAT.out
          simp
          omega
        rw [e5]
        exact own_base ho4 hB3
  by_cases k1 : kd = 1
  · subst k1
    cases hb : hasW ws y with
    | false =>
      rw [hb] at HIN
      go_enter Tryd.func29, Tryd.ntmps29
      go_wp2_with (first
        | (go_at_call 53; with_reducible refine HIN.out.mono ?_; rintro e w2 ⟨rfl, m, hw2⟩; obtain ⟨t1, t2⟩ := HW.out m; have hL2 := HL1.out.drewN m; have hKw := HKP.out m; have hR2 := HRDD.out m; rw [← hw2] at t1 t2 hL2 hKw hR2; have HW2 := hidS hw2; clear hw2; have hA := drop_anyI p g bound y ws w2 hy63 hL2.set; rw [hb, drop_same hb] at hA)
        | (go_at_call 15; with_reducible refine hA.mono ?_; rintro e w3 ⟨rfl, hs3, hk3, hz3⟩; skip))
      go_ret2
      obtain ⟨u1, u2, u3⟩ := hL2.put hs3 hk3 hp0 hg0
      exact ⟨ws, _, rfl, ⟨u1, u2, h.lp, h.lg, u3⟩, hKw.trans hk3 (fun _ _ q => q)⟩
    | true =>
      rw [hb] at HIN
      have HEL := hidS (els_dropL (p := hasW ws) (q := hasW (dropW ws y)) (n := bound) (y := y) (has_dropQ h.set.len hy) hy hb)
      have hatl : atN (hasW ws) bound y < (els bound (hasW ws)).length := by
        have := at_there (p := hasW ws) (n := bound) (y := y) h.set.hi
        rw [hb, decide_eq_true_eq] at this
        exact this.1
      obtain ⟨at_, hat⟩ : ∃ k, atN (hasW ws) bound y = k := ⟨_, rfl⟩
      rw [hat] at HIN HEL hatl
      clear hat
      cases ao with
      | none => obtain ⟨z1, z2⟩ := hnil rfl; omega
      | some ad =>
        obtain ⟨gl, hgl⟩ : ∃ gl, ad = ⟨gl, 0, none⟩ := by
          rcases h.row.2 with ⟨e1, _⟩ | ⟨g', c', cur, e1, _⟩
          · cases e1
          · simp only [Value.slice.injEq, Option.some.injEq] at e1
            exact ⟨g', e1.1⟩
        subst hgl
        obtain ⟨i0, hi, hz0, hz1, hz2⟩ := info_parts Tryd.infoNt
        have i1 : (at_ : Int) ≤ (cap : Int) := by omega
        have i2 : (at_ : Int) + 1 ≤ ((els bound (hasW ws)).length : Int) := by omega
        have i3 : (at_ : Int) + 1 ≤ (cap : Int) := by omega
        generalize hl0 : els bound (hasW ws) = l at *
        go_enter Tryd.func29, Tryd.ntmps29
        go_wp2_with (first
          | (go_at_call 53; with_reducible refine HIN.out.mono ?_; rintro e w2 ⟨rfl, m, hw2⟩; obtain ⟨t1, t2⟩ := HW.out m; have hL2 := HL1.out.drewN m; have hKw := HKP.out m; have hR2 := HRDD.out m; rw [← hw2] at t1 t2 hL2 hKw hR2; have HW2 := hidS hw2; clear hw2; have hA := drop_anyI p g bound y ws w2 hy63 hL2.set; rw [hb] at hA)
          | (go_at_call 15; with_reducible refine hA.mono ?_; rintro e w3 ⟨rfl, hs3, hk3, hz3⟩; obtain ⟨u1, u2, u3⟩ := hL2.put hs3 hk3 hp0 hg0; rw [hl0] at u2; have HU1 := hidS u1; have HU2 := hidS u2; have HU3 := hidS u3; clear u1 u2 u3 hz3)
          | (at_builtin; refine wpList_append_own _ rfl _ _ 68 rfl w3.heap.size 3 i0 (.int .i64 0) 1 8 Tryd.underlying68 hi hz0 hz1 hz2 rfl (by decide) _ 0 [] rfl (World.ownsRow_nil _ _ _ _) ⟨gl, 0, none⟩ at_ cap (kvNt (l.take at_)) rfl ?g0 ?g1 (fun u hu => kvNt_one hu) ?g3 ?g4 ?g5 ?_))
        case g0 => simp [kvNt]; omega
        case g1 => exact fun j u hj => HU2.out.cells rfl j u (kvNt_take hj)
        case g3 => unfold maxLen; omega
        case g4 => omega
        case g5 => exact Nat.le_refl _
        intro v1 w4 own1 hg1 _
        have HB4 : Hid (Below w3.heap.size w3 w4) := hidS ((Below.refl _ w3).grown hg1 (Nat.le_refl _) (fun k e => by simp [Value.ownBlock] at e))
        try simp only [Nat.zero_add, List.nil_append] at own1
        obtain ⟨a1, c1, rfl⟩ := own_anyP own1
        have HO1 := hidS own1
        have HGL := hidS (HU2.out.lt gl rfl).2
        clear hg1 own1
        by_cases hce : cap = at_ + 1
        · have e1 : l.length = at_ + 1 := by omega
          have e2 : l.drop (at_ + 1) = [] := List.drop_eq_nil_of_le (by omega)
          have HE2 := hidS e2
          have HE1 := hidS e1
          subst hce
          clear e1 e2 i1 i3
          go_wp2_with (at_builtin; refine wpList_append_own _ rfl _ _ 68 rfl w3.heap.size 3 i0 (.int .i64 0) 1 8 Tryd.underlying68 hi hz0 hz1 hz2 rfl (by decide) _ at_ _ rfl HO1.out ⟨gl, 0, none⟩ 0 0 [] rfl rfl (fun j u hj => by simp at hj) (fun u hu => by simp at hu) ?m3 ?m4 ?m5 ?_)
          case m3 => have := HE1.out; unfold maxLen; omega
          case m4 => have := HE1.out; omega
          case m5 => exact HB4.out.size
          intro v5 w5 own5 hg5 _
          have HB5 : Hid (Below w3.heap.size w3 w5) := hidS (HB4.out.grown hg5 HB4.out.size (fun k e => (HO1.out.lt k e).1))
          have HO5 : Hid (w5.ownsRow w3.heap.size 3 1 v5 (l.take at_ ++ l.drop (at_ + 1)).length (kvNt (l.take at_ ++ l.drop (at_ + 1)))) := hidS (by
            have e6 : (l.take at_ ++ l.drop (at_ + 1)).length = at_ + (l.length - (at_ + 1)) := by simp; omega
            have e7 : at_ + (l.length - (at_ + 1)) = at_ := by have := HE1.out; omega
            rw [e6, e7, HE2.out, List.append_nil]
            simpa using own5)
          obtain ⟨a5, c5, rfl⟩ := own_anyP own5
          clear hg5 own5 HO1 HB4
          go_wp2
          go_ret2
          have hB3 : B ≤ w3.heap.size := Nat.le_trans (Nat.le_trans hB hKw.size) hk3.size
          refine ⟨dropW ws y, _, rfl, ⟨HU1.out.kept (Kp.ofBelow (S := fun _ => False) HB5.out) (fun q => q) (fun q => q), ?_, h.lp, h.lg, HU3.out.below HB5.out (by have := HU1.out.ltp; omega)⟩, (hKw.trans hk3 (fun _ _ q => q)).trans (Kp.ofBelow (S := fun _ => False) HB5.out) (fun _ _ q => q.elim)⟩
          rw [HEL.out]
          exact own_base HO5.out hB3
        · have hci : ¬ (cap : Int) = (at_ : Int) + 1 := by omega
          go_wp2_with (at_builtin; refine wpList_append_own _ rfl _ _ 68 rfl w3.heap.size 3 i0 (.int .i64 0) 1 8 Tryd.underlying68 hi hz0 hz1 hz2 rfl (by decide) _ at_ _ rfl HO1.out ⟨gl, at_ + 1, none⟩ (l.length - (at_ + 1)) (cap - (at_ + 1)) (kvNt (l.drop (at_ + 1))) rfl ?m0 ?m1 (fun u hu => kvNt_one hu) ?m3 ?m4 ?m5 ?_)
          case m0 => simp [kvNt]
          case m1 =>
            intro j u hj
            have := HU2.out.cells rfl (at_ + 1 + j) u (kvNt_drop hj)
            rw [add_plain, Nat.zero_add] at this
            rw [add_plain]
            exact (HB4.out.cell (p := ⟨gl, at_ + 1 + j, none⟩) HGL.out).trans this
          case m3 => unfold maxLen; omega
          case m4 => omega
          case m5 => exact HB4.out.size
          intro v5 w5 own5 hg5 _
          have HB5 : Hid (Below w3.heap.size w3 w5) := hidS (HB4.out.grown hg5 HB4.out.size (fun k e => (HO1.out.lt k e).1))
          have HO5 : Hid (w5.ownsRow w3.heap.size 3 1 v5 (l.take at_ ++ l.drop (at_ + 1)).length (kvNt (l.take at_ ++ l.drop (at_ + 1)))) := hidS (by
            have e6 : (l.take at_ ++ l.drop (at_ + 1)).length = at_ + (l.length - (at_ + 1)) := by simp; omega
            rw [e6, kvNt_append]
            exact own5)
          obtain ⟨a5, c5, rfl⟩ := own_anyP own5
          clear hg5 own5 HO1 HB4
          go_wp2
          go_ret2
          have hB3 : B ≤ w3.heap.size := Nat.le_trans (Nat.le_trans hB hKw.size) hk3.size
          refine ⟨dropW ws y, _, rfl, ⟨HU1.out.kept (Kp.ofBelow (S := fun _ => False) HB5.out) (fun q => q) (fun q => q), ?_, h.lp, h.lg, HU3.out.below HB5.out (by have := HU1.out.ltp; omega)⟩, (hKw.trans hk3 (fun _ _ q => q)).trans (Kp.ofBelow (S := fun _ => False) HB5.out) (fun _ _ q => q.elim)⟩
          rw [HEL.out]
          exact own_base HO5.out hB3
  by_cases k2 : kd = 2
  · subst k2
    go_enter Tryd.func29, Tryd.ntmps29
    go_wp2_with (first
      | (go_at_call 53; with_reducible refine HIN.out.mono ?_; rintro e w2 ⟨rfl, m, hw2⟩; obtain ⟨t1, t2⟩ := HW.out m; have hL2 := HL1.out.drewN m; have hKw := HKP.out m; have hR2 := HRDD.out m; rw [← hw2] at t1 t2 hL2 hKw hR2; have HW2 := hidS hw2; clear hw2; have hA := has_anyI p g bound y _ ws w2 hy63 hL2.set)
      | (go_at_call 16; with_reducible refine hA.mono ?_; rintro e w3 ⟨rfl, hs3⟩; subst hs3))
    go_ret2
    exact ⟨ws, _, rfl, ⟨hL2.set, hL2.row, h.lp, h.lg, hL2.tab⟩, hKw⟩
  by_cases k3 : kd = 3
  · subst k3
    go_enter Tryd.func29, Tryd.ntmps29
    go_wp2_with (first
      | (go_at_call 53; with_reducible refine HIN.out.mono ?_; rintro e w2 ⟨rfl, m, hw2⟩; obtain ⟨t1, t2⟩ := HW.out m; have hL2 := HL1.out.drewN m; have hKw := HKP.out m; have hR2 := HRDD.out m; rw [← hw2] at t1 t2 hL2 hKw hR2; have HW2 := hidS hw2; clear hw2; have hA := len_anyI p g bound _ ws w2 hL2.set)
      | (go_at_call 17; with_reducible refine hA.mono ?_; rintro e w3 ⟨rfl, hs3⟩; subst hs3))
    go_ret2
    exact ⟨ws, _, rfl, ⟨hL2.set, hL2.row, h.lp, h.lg, hL2.tab⟩, hKw⟩
  go_enter Tryd.func29, Tryd.ntmps29
  go_wp2_with (first
    | (go_at_call 53; with_reducible refine HIN.out.mono ?_; rintro e w2 ⟨rfl, m, hw2⟩; obtain ⟨t1, t2⟩ := HW.out m; have hL2 := HL1.out.drewN m; have hKw := HKP.out m; have hR2 := HRDD.out m; rw [← hw2] at t1 t2 hL2 hKw hR2; have HW2 := hidS hw2; clear hw2; have hA := allNt_any p g bound _ ws ao cap (y : Int) w2 hL2.set hR2 hL2.tab (by omega) (by omega))
    | (go_at_call 30; with_reducible refine hA.mono ?_; rintro e w3 ⟨rfl, hs3⟩))
  go_ret2
  have hL3 := hL2.below hs3
  exact ⟨ws, _, rfl, ⟨hL3.set, hL3.row, h.lp, h.lg, hL3.tab⟩, hKw.trans (Kp.ofBelow (S := fun _ => False) hs3) (fun _ _ q => q.elim)⟩
set_option maxHeartbeats 2000000 in
theorem stepNt_neg (B p g bound : Nat) (ws : List Nat) (v : Value) (on kd : Int) (x : Int) (hx : x < 0) (hx0 : -9223372036854775808 ≤ x) (w : World) (h : LsNt w B p g bound ws v) :
    Calls Tryd.prog 29 #[.pointer (some ⟨p, 0, none⟩), v, .int .i64 bound, .agg #[.int .i64 on, .int .i64 kd, .int .i64 x]] w fun e w' => ∃ ws' v', e = .returned (.tuple #[v', .bool true]) ∧ LsNt w' B p g bound ws' v' ∧ Kp (fun k => k = p ∨ k = g) w w' := by
  have hbd := h.set.bd
  obtain ⟨ao, cap, rfl, hcap, hnil, hrd⟩ := ownNt_rd h.row
  have hl20 : (els bound (hasW ws)).length ≤ 1048576 := Nat.le_trans (els_le _ _) hbd
  have hd0 : decide (0 ≤ x) = false := decide_eq_false (by omega)
  have hnx : ¬ 0 ≤ x := by omega
  obtain ⟨W1, hW1⟩ : ∃ W1, w.alloc (Obj.cells #[.int .i64 on, .int .i64 kd, .int .i64 x] 60) = W1 := ⟨_, rfl⟩
  have hB1 : Below w.heap.size w W1 := by rw [← hW1]; exact belP (Below.refl _ _)
  have hL1 := h.below hB1
  have hin := inNt_core ao cap 0 (els bound (hasW ws)) x W1 hl20 (Nat.zero_le _) (fun i hi => by omega) (fun hi => by omega) (fun hp => by obtain ⟨b, off, e1, e2, e3⟩ := hrd.below hB1 hp; exact ⟨b, off, e1, Nat.lt_of_lt_of_le e2 hB1.size, e3⟩)
  have hth : decide (0 < (els bound (hasW ws)).length ∧ (((els bound (hasW ws)).getD 0 0 : Nat) : Int) = x) = false := decide_eq_false (fun q => by have := q.2; omega)
  rw [hth] at hin
  have cx : W1.cell? ⟨w.heap.size, 2, none⟩ = some (.int .i64 x) := by rw [← hW1]; simp
  have cd : W1.cell? ⟨w.heap.size, 1, none⟩ = some (.int .i64 kd) := by rw [← hW1]; simp
  have HIN := hidS hin
  have HKP : Hid (∀ m, Kp (fun k => k = p ∨ k = g) w (W1.drewN m)) := hidS (fun m => Kp.ofBelow (below_drewP hB1 m))
  have HL1 := hidS hL1
  clear hin hth hL1
  have HW : Hid (∀ m, (W1.drewN m).cell? ⟨w.heap.size, 1, none⟩ = some (.int .i64 kd) ∧ (W1.drewN m).cell? ⟨w.heap.size, 2, none⟩ = some (.int .i64 x)) := hidS (fun m => ⟨cd, cx⟩)
  have HRDD : Hid (∀ m, RdNt (W1.drewN m) ao (els bound (hasW ws)) (W1.drewN m).heap.size) := hidS (fun m hp => by obtain ⟨b, off, e1, e2, e3⟩ := hrd.below hB1 hp; exact ⟨b, off, e1, Nat.lt_of_lt_of_le e2 hB1.size, e3⟩)
  by_cases k0 : kd = 0
  · subst k0
    go_enter Tryd.func29, Tryd.ntmps29
    go_wp2_with (first
      | (go_at_call 53; with_reducible refine HIN.out.mono ?_; rintro e w2 ⟨rfl, m, hw2⟩; obtain ⟨t1, t2⟩ := HW.out m; have hL2 := HL1.out.drewN m; have hKw := HKP.out m; have hR2 := HRDD.out m; rw [← hw2] at t1 t2 hL2 hKw hR2; have HW2 := hidS hw2; clear hw2; have hA := negadd_anyI p x w2 hx hx0 hL2.set.c0)
      | (go_at_call 14; with_reducible refine hA.mono ?_; rintro e w3 ⟨rfl, hs3⟩; subst hs3))
    go_ret2
    exact ⟨ws, _, rfl, ⟨hL2.set, hL2.row, h.lp, h.lg, hL2.tab⟩, hKw⟩
  by_cases k1 : kd = 1
  · subst k1
    go_enter Tryd.func29, Tryd.ntmps29
    go_wp2_with (first
      | (go_at_call 53; with_reducible refine HIN.out.mono ?_; rintro e w2 ⟨rfl, m, hw2⟩; obtain ⟨t1, t2⟩ := HW.out m; have hL2 := HL1.out.drewN m; have hKw := HKP.out m; have hR2 := HRDD.out m; rw [← hw2] at t1 t2 hL2 hKw hR2; have HW2 := hidS hw2; clear hw2; have hA := negdrop_anyI p x w2 hx hx0 hL2.set.c0)
      | (go_at_call 15; with_reducible refine hA.mono ?_; rintro e w3 ⟨rfl, hs3⟩; subst hs3))
    go_ret2
    exact ⟨ws, _, rfl, ⟨hL2.set, hL2.row, h.lp, h.lg, hL2.tab⟩, hKw⟩
  by_cases k2 : kd = 2
  · subst k2
    go_enter Tryd.func29, Tryd.ntmps29
    go_wp2_with (first
      | (go_at_call 53; with_reducible refine HIN.out.mono ?_; rintro e w2 ⟨rfl, m, hw2⟩; obtain ⟨t1, t2⟩ := HW.out m; have hL2 := HL1.out.drewN m; have hKw := HKP.out m; have hR2 := HRDD.out m; rw [← hw2] at t1 t2 hL2 hKw hR2; have HW2 := hidS hw2; clear hw2; have hA := neghas_anyI p x w2 hx hx0 hL2.set.c0)
      | (go_at_call 16; with_reducible refine hA.mono ?_; rintro e w3 ⟨rfl, hs3⟩; subst hs3))
    go_ret2
    exact ⟨ws, _, rfl, ⟨hL2.set, hL2.row, h.lp, h.lg, hL2.tab⟩, hKw⟩
  by_cases k3 : kd = 3
  · subst k3
    go_enter Tryd.func29, Tryd.ntmps29
    go_wp2_with (first
      | (go_at_call 53; with_reducible refine HIN.out.mono ?_; rintro e w2 ⟨rfl, m, hw2⟩; obtain ⟨t1, t2⟩ := HW.out m; have hL2 := HL1.out.drewN m; have hKw := HKP.out m; have hR2 := HRDD.out m; rw [← hw2] at t1 t2 hL2 hKw hR2; have HW2 := hidS hw2; clear hw2; have hA := len_anyI p g bound _ ws w2 hL2.set)
      | (go_at_call 17; with_reducible refine hA.mono ?_; rintro e w3 ⟨rfl, hs3⟩; subst hs3))
    go_ret2
    exact ⟨ws, _, rfl, ⟨hL2.set, hL2.row, h.lp, h.lg, hL2.tab⟩, hKw⟩
  go_enter Tryd.func29, Tryd.ntmps29
  go_wp2_with (first
    | (go_at_call 53; with_reducible refine HIN.out.mono ?_; rintro e w2 ⟨rfl, m, hw2⟩; obtain ⟨t1, t2⟩ := HW.out m; have hL2 := HL1.out.drewN m; have hKw := HKP.out m; have hR2 := HRDD.out m; rw [← hw2] at t1 t2 hL2 hKw hR2; have HW2 := hidS hw2; clear hw2; have hA := allNt_any p g bound _ ws ao cap x w2 hL2.set hR2 hL2.tab (by omega) (by omega))
    | (go_at_call 30; with_reducible refine hA.mono ?_; rintro e w3 ⟨rfl, hs3⟩))
  go_ret2
  have hL3 := hL2.below hs3
  exact ⟨ws, _, rfl, ⟨hL3.set, hL3.row, h.lp, h.lg, hL3.tab⟩, hKw.trans (Kp.ofBelow (S := fun _ => False) hs3) (fun _ _ q => q.elim)⟩
set_option maxHeartbeats 2000000 in
theorem stepNt_big (B p g bound : Nat) (ws : List Nat) (v : Value) (on kd : Int) (x : Int) (y : Nat) (hxy : x = y) (hx1 : x ≤ 9223372036854775807) (hx0 : -9223372036854775808 ≤ x) (hy : bound ≤ y) (hy63 : y < 9223372036854775808) (w : World) (h : LsNt w B p g bound ws v) (hp0 : p ≠ 0) (hg0 : g ≠ 0) :
    Calls Tryd.prog 29 #[.pointer (some ⟨p, 0, none⟩), v, .int .i64 bound, .agg #[.int .i64 on, .int .i64 kd, .int .i64 x]] w fun e w' => ∃ ws' v', e = .returned (.tuple #[v', .bool true]) ∧ LsNt w' B p g bound ws' v' ∧ Kp (fun k => k = p ∨ k = g) w w' := by
  have hbd := h.set.bd
  obtain ⟨ao, cap, rfl, hcap, hnil, hrd⟩ := ownNt_rd h.row
  have hl20 : (els bound (hasW ws)).length ≤ 1048576 := Nat.le_trans (els_le _ _) hbd
  subst hxy
  have hyI : ¬ (y : Int) < (bound : Int) := by omega
  have hd0 : decide (y < bound) = false := decide_eq_false (by omega)
  have hb : hasW ws y = false := by
    cases he : hasW ws y with
    | false => rfl
    | true => have := h.set.hi y he; omega
  obtain ⟨W1, hW1⟩ : ∃ W1, w.alloc (Obj.cells #[.int .i64 on, .int .i64 kd, .int .i64 (y : Int)] 60) = W1 := ⟨_, rfl⟩
  have hB1 : Below w.heap.size w W1 := by rw [← hW1]; exact belP (Below.refl _ _)
  have hL1 := h.below hB1
  have hin := inNt_core ao cap (atN (hasW ws) bound y) (els bound (hasW ws)) y W1 hl20 (at_le _ _ _) (fun i hi => Int.ofNat_lt.2 (at_lt hi)) (fun hi => Int.ofNat_le.2 (at_ge hi)) (fun hp => by obtain ⟨b, off, e1, e2, e3⟩ := hrd.below hB1 hp; exact ⟨b, off, e1, Nat.lt_of_lt_of_le e2 hB1.size, e3⟩)
  have hth : decide (atN (hasW ws) bound y < (els bound (hasW ws)).length ∧ (((els bound (hasW ws)).getD (atN (hasW ws) bound y) 0 : Nat) : Int) = (y : Int)) = false := by
    rw [← hb, ← at_there (p := hasW ws) (n := bound) (y := y) h.set.hi]
    congr 1
    simp only [Int.ofNat_inj]
  rw [hth] at hin
  have cx : W1.cell? ⟨w.heap.size, 2, none⟩ = some (.int .i64 (y : Int)) := by rw [← hW1]; simp
  have cd : W1.cell? ⟨w.heap.size, 1, none⟩ = some (.int .i64 kd) := by rw [← hW1]; simp
  have HIN := hidS hin
  have HKP : Hid (∀ m, Kp (fun k => k = p ∨ k = g) w (W1.drewN m)) := hidS (fun m => Kp.ofBelow (below_drewP hB1 m))
  have HL1 := hidS hL1
  clear hin hth hL1
  have HW : Hid (∀ m, (W1.drewN m).cell? ⟨w.heap.size, 1, none⟩ = some (.int .i64 kd) ∧ (W1.drewN m).cell? ⟨w.heap.size, 2, none⟩ = some (.int .i64 (y : Int))) := hidS (fun m => ⟨cd, cx⟩)
  have HRDD : Hid (∀ m, RdNt (W1.drewN m) ao (els bound (hasW ws)) (W1.drewN m).heap.size) := hidS (fun m hp => by obtain ⟨b, off, e1, e2, e3⟩ := hrd.below hB1 hp; exact ⟨b, off, e1, Nat.lt_of_lt_of_le e2 hB1.size, e3⟩)
  by_cases k0 : kd = 0
  · subst k0
    go_enter Tryd.func29, Tryd.ntmps29
    go_wp2_with (first
      | (go_at_call 53; with_reducible refine HIN.out.mono ?_; rintro e w2 ⟨rfl, m, hw2⟩; obtain ⟨t1, t2⟩ := HW.out m; have hL2 := HL1.out.drewN m; have hKw := HKP.out m; have hR2 := HRDD.out m; rw [← hw2] at t1 t2 hL2 hKw hR2; have HW2 := hidS hw2; clear hw2; have hA := add_anyI p g bound y ws w2 hy63 hL2.set; rw [hd0, Bool.false_and, put_big (Nat.not_lt.2 hy)] at hA)
      | (go_at_call 14; with_reducible refine hA.mono ?_; rintro e w3 ⟨rfl, hs3, hk3, hz3⟩))
    go_ret2
    obtain ⟨u1, u2, u3⟩ := hL2.put hs3 hk3 hp0 hg0
    exact ⟨ws, _, rfl, ⟨u1, u2, h.lp, h.lg, u3⟩, hKw.trans hk3 (fun _ _ q => q)⟩
  by_cases k1 : kd = 1
  · subst k1
    go_enter Tryd.func29, Tryd.ntmps29
    go_wp2_with (first
      | (go_at_call 53; with_reducible refine HIN.out.mono ?_; rintro e w2 ⟨rfl, m, hw2⟩; obtain ⟨t1, t2⟩ := HW.out m; have hL2 := HL1.out.drewN m; have hKw := HKP.out m; have hR2 := HRDD.out m; rw [← hw2] at t1 t2 hL2 hKw hR2; have HW2 := hidS hw2; clear hw2; have hA := drop_anyI p g bound y ws w2 hy63 hL2.set; rw [hb, drop_same hb] at hA)
      | (go_at_call 15; with_reducible refine hA.mono ?_; rintro e w3 ⟨rfl, hs3, hk3, hz3⟩))
    go_ret2
    obtain ⟨u1, u2, u3⟩ := hL2.put hs3 hk3 hp0 hg0
    exact ⟨ws, _, rfl, ⟨u1, u2, h.lp, h.lg, u3⟩, hKw.trans hk3 (fun _ _ q => q)⟩
  by_cases k2 : kd = 2
  · subst k2
    go_enter Tryd.func29, Tryd.ntmps29
    go_wp2_with (first
      | (go_at_call 53; with_reducible refine HIN.out.mono ?_; rintro e w2 ⟨rfl, m, hw2⟩; obtain ⟨t1, t2⟩ := HW.out m; have hL2 := HL1.out.drewN m; have hKw := HKP.out m; have hR2 := HRDD.out m; rw [← hw2] at t1 t2 hL2 hKw hR2; have HW2 := hidS hw2; clear hw2; have hA := has_anyI p g bound y _ ws w2 hy63 hL2.set; rw [hb] at hA)
      | (go_at_call 16; with_reducible refine hA.mono ?_; rintro e w3 ⟨rfl, hs3⟩; subst hs3))
    go_ret2
    exact ⟨ws, _, rfl, ⟨hL2.set, hL2.row, h.lp, h.lg, hL2.tab⟩, hKw⟩
  by_cases k3 : kd = 3
  · subst k3
    go_enter Tryd.func29, Tryd.ntmps29
    go_wp2_with (first
      | (go_at_call 53; with_reducible refine HIN.out.mono ?_; rintro e w2 ⟨rfl, m, hw2⟩; obtain ⟨t1, t2⟩ := HW.out m; have hL2 := HL1.out.drewN m; have hKw := HKP.out m; have hR2 := HRDD.out m; rw [← hw2] at t1 t2 hL2 hKw hR2; have HW2 := hidS hw2; clear hw2; have hA := len_anyI p g bound _ ws w2 hL2.set)
      | (go_at_call 17; with_reducible refine hA.mono ?_; rintro e w3 ⟨rfl, hs3⟩; subst hs3))
    go_ret2
    exact ⟨ws, _, rfl, ⟨hL2.set, hL2.row, h.lp, h.lg, hL2.tab⟩, hKw⟩
  go_enter Tryd.func29, Tryd.ntmps29
  go_wp2_with (first
    | (go_at_call 53; with_reducible refine HIN.out.mono ?_; rintro e w2 ⟨rfl, m, hw2⟩; obtain ⟨t1, t2⟩ := HW.out m; have hL2 := HL1.out.drewN m; have hKw := HKP.out m; have hR2 := HRDD.out m; rw [← hw2] at t1 t2 hL2 hKw hR2; have HW2 := hidS hw2; clear hw2; have hA := allNt_any p g bound _ ws ao cap (y : Int) w2 hL2.set hR2 hL2.tab (by omega) (by omega))
    | (go_at_call 30; with_reducible refine hA.mono ?_; rintro e w3 ⟨rfl, hs3⟩))
  go_ret2
  have hL3 := hL2.below hs3
  exact ⟨ws, _, rfl, ⟨hL3.set, hL3.row, h.lp, h.lg, hL3.tab⟩, hKw.trans (Kp.ofBelow (S := fun _ => False) hs3) (fun _ _ q => q.elim)⟩
end Go.Proofs.YtnlfgijmkgihcaaDoor
