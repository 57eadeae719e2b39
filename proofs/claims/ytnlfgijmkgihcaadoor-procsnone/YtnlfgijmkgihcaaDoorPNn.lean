import Derived.Test.YtnlfgijmkgihcaaDoorPNe
namespace Go.Proofs.YtnlfgijmkgihcaaDoor
open Go.RowKit Go.WideShapes Go.Shelf
set_option maxRecDepth 100000
attribute [local go_sem] Oper.semAt_some run_store_funcP nilcmpNt

theorem nileqP2 (b : Nat) (w : World) : (Op.equal 40 (.func (.func 38) #[] #[.pointer (some ⟨b, 0, none⟩)]) .nilFunc).run Tryd.prog w = .ok false w := by
  have hu := run_underlying (P := Tryd.prog) (w := w) Tryd.underlying40
  unfold Op.equal
  obtain ⟨d, hd⟩ : ∃ d, Op.maxDepth = d + 1 := ⟨_, rfl⟩
  rw [hd, Op.equalIn]
  simp only [Sem.run_bind, hu, Result.andThen]
  rfl
@[local go_sem] theorem nilcmpP2 (b : Nat) (w : World) : (binOp .eql 40 (.func (.func 38) #[] #[.pointer (some ⟨b, 0, none⟩)]) .nilFunc).run Tryd.prog w = .ok (.bool false) w := by
  have h := nileqP2 b w
  have e : binOp .eql 40 (.func (.func 38) #[] #[.pointer (some ⟨b, 0, none⟩)]) .nilFunc = (do pure (.bool (← Op.equal 40 (.func (.func 38) #[] #[.pointer (some ⟨b, 0, none⟩)]) .nilFunc))) := rfl
  rw [e, Sem.run_bind, h]
  rfl
theorem Dr.bel {w W : World} (h : Dr w W) : Below w.heap.size w W := by
  obtain ⟨m, rfl⟩ := h
  exact ⟨rfl, rfl, rfl, Nat.le_refl _, fun _ _ => rfl⟩
theorem Dr.tr {a b c : World} (h : Dr a b) (k : Dr b c) : Dr a c := by
  obtain ⟨m, rfl⟩ := h
  obtain ⟨n, rfl⟩ := k
  exact ⟨_, by rw [World.drewN_drewN]⟩
theorem Dr.cellD {w W : World} (h : Dr w W) {p : Addr} {v : Value} (hc : w.cell? p = some v) : W.cell? p = some v := by
  obtain ⟨m, rfl⟩ := h
  exact hc
set_option maxHeartbeats 4000000 in
theorem procsnone_any (i x idx to : Int) (w : World) :
    Calls Tryd.prog 3 #[.int .i64 i, .int .u32 idx, .int .u32 to, .int .i64 x] w fun e w' => e = .returned (.bool true) ∧ Below w.heap.size w w' := by
  refine (callsIn_wide (n := 30)).1 ?_
  refine callsIn_of_wp_marks Tryd.func3 rfl trivial ?_ rfl
  simp only [Tryd.ntmps3, List.size_toArray, List.length_cons, List.length_nil, Nat.reduceAdd, Nat.reduceSub, Array.replicate_succ, Array.replicate_zero, List.push_toArray, List.append_toArray, List.nil_append, List.cons_append]
  gi_wp2
  obtain ⟨W0, hW0⟩ : ∃ W0, (((w.alloc (Obj.cells #[.bool false] 4)).alloc (Obj.cells #[.pointer none, .slice none 0 0, .pointer none, .pointer none] 27)).alloc (Obj.cells #[.pointer none, .pointer (some ⟨w.heap.size + 1, 0, none⟩)] 23)) = W0 := ⟨_, rfl⟩
  have hz0 : W0.heap.size = w.heap.size + 3 := by rw [← hW0]; simp
  have bR : Boxed W0 w.heap.size 4 (.bool false) := by rw [← hW0]; exact ((Boxed.new w _ _).alloc _).alloc _
  have o2 : W0.heap[w.heap.size + 1 + 1]? = some (Obj.cells #[.pointer none, .pointer (some ⟨w.heap.size + 1, 0, none⟩)] 23) := by
    rw [← hW0]
    have := World.alloc_heap_new ((w.alloc (Obj.cells #[.bool false] 4)).alloc (Obj.cells #[.pointer none, .slice none 0 0, .pointer none, .pointer none] 27)) (Obj.cells #[.pointer none, .pointer (some ⟨w.heap.size + 1, 0, none⟩)] 23)
    rwa [World.size_alloc, World.size_alloc] at this
  have o1 : W0.heap[w.heap.size + 1]? = some (Obj.cells #[.pointer none, .slice none 0 0, .pointer none, .pointer none] 27) := by
    rw [← hW0, Below.heap_alloc _ _ _ (by simp)]
    have := World.alloc_heap_new (w.alloc (Obj.cells #[.bool false] 4)) (Obj.cells #[.pointer none, .slice none 0 0, .pointer none, .pointer none] 27)
    rwa [World.size_alloc] at this
  have c0 : W0.cell? ⟨w.heap.size + 1 + 1, 0, none⟩ = some (.pointer none) := (obj_cell o2 0).trans rfl
  have c1 : W0.cell? ⟨w.heap.size + 1 + 1, 1, none⟩ = some (.pointer (some ⟨w.heap.size + 1, 0, none⟩)) := (obj_cell o2 1).trans rfl
  have cM : W0.cell? ⟨w.heap.size + 1, 0, none⟩ = some (.pointer none) := (obj_cell o1 0).trans rfl
  have hBW : Below w.heap.size w W0 := by rw [← hW0]; exact belP (belP (belP (Below.refl _ _)))
  rw [hW0]
  have HNP0 : Hid (∀ W, Below W0.heap.size W0 W → NoP W (.pointer none)) := hidS (fun W _ => .inl rfl)
  have HNP1 : Hid (∀ W, Below W0.heap.size W0 W → NoP W (.pointer (some ⟨w.heap.size + 1, 0, none⟩))) := hidS (fun W hW => .inr ⟨_, rfl, (hW.cell (p := ⟨w.heap.size + 1, 0, none⟩) (by show w.heap.size + 1 < W0.heap.size; omega)).trans cM⟩)
  have hb0 : Below W0.heap.size W0 W0 := Below.refl _ _
  clear hW0
  refine wpIn_loop_rounds 3 ?_

  -- round 0 of the first loop
  rw [roundsIn_succ]
  have HP0 : Hid (∀ W, Below W0.heap.size W0 W → NoP W (.pointer none)) := hidS (fun W hW => HNP0.out W (btP hb0 hW))
  gi_wp2_with (refine ⟨trivial, ?_⟩; first
    | (gi_at_call 6; refine ((callsIn_wide (n := 29)).2 (pproc_no _ i _ (HP0.out _ (Below.refl _ _)))).mono ?_; rintro e wa0 ⟨rfl, ha0⟩)
    | (gi_at_call 7; refine ((callsIn_wide (n := 29)).2 (pcount_no _ _ (HP0.out _ (belP ha0)))).mono ?_; rintro e wc ⟨rfl, hwc⟩; subst hwc)
    | (gi_at_call 8; refine ((callsIn_wide (n := 29)).2 (pof_no _ idx _ (HP0.out _ (belP ha0)))).mono ?_; rintro e wo0 ⟨rfl, ho0⟩; have hx0 := btP (belP ha0) ho0)
    | (gi_at_call 9; refine ((callsIn_wide (n := 29)).2 (pbegins_no _ idx _ (HP0.out _ hx0))).mono ?_; rintro e wc ⟨rfl, hwc⟩; have hwc := hwc.symm; subst hwc)
    | (gi_at_call 10; refine ((callsIn_wide (n := 29)).2 (plegal_no _ idx to _ (HP0.out _ hx0))).mono ?_; rintro e wc ⟨rfl, hwc⟩; have hwc := hwc.symm; subst hwc)
    | (gi_at_call 11; refine ((callsIn_wide (n := 29)).2 (ptargets_no _ i _ (HP0.out _ hx0))).mono ?_; rintro e wt0 ⟨rfl, ht0⟩; have hy0 := btP hx0 ht0)
    | (gi_at_call 12; refine ((callsIn_wide (n := 29)).2 (pall_no _ _ (HP0.out _ hy0))).mono ?_; rintro e wl0 ⟨b0, rfl, hle0, hbx0, hl0⟩; have hz0 := btP hy0 hl0))
  have HX0 : Hid (Below W0.heap.size W0 wl0) := hidS hz0
  have HBX0 := hidS hbx0
  refine range_none (F := Fence.wide) rfl (by decide) (gf := 38) (lb := #[.pointer (some ⟨b0, 0, none⟩)]) rfl trivial (enters_of Tryd.func38 (by kernel_rfl) rfl)
    (fun l W hW => (callsIn_wide (n := 29)).2 (pall0 _ b0 W ((hW.cell (p := ⟨b0, 0, none⟩) HBX0.out.lt).trans HBX0.out.cell))) ?_
  intro D0 W1 hD0 hB0 hK0
  have hb1 : Below W0.heap.size W0 W1 := btP hb0 (btP HX0.out hB0)
  have HB11 : Hid (Below W0.heap.size W0 W1) := hidS (btP HX0.out hB0)
  have c1 : W1.cell? ⟨w.heap.size + 1 + 1, 1, none⟩ = some (.pointer (some ⟨w.heap.size + 1, 0, none⟩)) := (hb1.cell (p := ⟨w.heap.size + 1 + 1, 1, none⟩) (by show w.heap.size + 1 + 1 < W0.heap.size; omega)).trans ((obj_cell o2 1).trans rfl)
  have HK0 := hidS hK0
  have HD0 : Hid (W0.heap.size ≤ D0 ∧ D0 < W1.heap.size) := hidS ⟨Nat.le_trans HX0.out.size hD0, (Array.getElem?_eq_some_iff.1 hK0).1⟩
  clear hz0 hbx0 ha0 ho0 hx0 ht0 hy0 hl0 hle0 hD0 hK0 HP0
  gi_wp2

  -- round 1 of the first loop
  rw [roundsIn_succ]
  have HP1 : Hid (∀ W, Below W1.heap.size W1 W → NoP W (.pointer (some ⟨w.heap.size + 1, 0, none⟩))) := hidS (fun W hW => HNP1.out W (btP hb1 hW))
  gi_wp2_with (refine ⟨trivial, ?_⟩; first
    | (gi_at_call 6; refine ((callsIn_wide (n := 29)).2 (pproc_no _ i _ (HP1.out _ (Below.refl _ _)))).mono ?_; rintro e wa1 ⟨rfl, ha1⟩)
    | (gi_at_call 7; refine ((callsIn_wide (n := 29)).2 (pcount_no _ _ (HP1.out _ (belP ha1)))).mono ?_; rintro e wc ⟨rfl, hwc⟩; subst hwc)
    | (gi_at_call 8; refine ((callsIn_wide (n := 29)).2 (pof_no _ idx _ (HP1.out _ (belP ha1)))).mono ?_; rintro e wo1 ⟨rfl, ho1⟩; have hx1 := btP (belP ha1) ho1)
    | (gi_at_call 9; refine ((callsIn_wide (n := 29)).2 (pbegins_no _ idx _ (HP1.out _ hx1))).mono ?_; rintro e wc ⟨rfl, hwc⟩; have hwc := hwc.symm; subst hwc)
    | (gi_at_call 10; refine ((callsIn_wide (n := 29)).2 (plegal_no _ idx to _ (HP1.out _ hx1))).mono ?_; rintro e wc ⟨rfl, hwc⟩; have hwc := hwc.symm; subst hwc)
    | (gi_at_call 11; refine ((callsIn_wide (n := 29)).2 (ptargets_no _ i _ (HP1.out _ hx1))).mono ?_; rintro e wt1 ⟨rfl, ht1⟩; have hy1 := btP hx1 ht1)
    | (gi_at_call 12; refine ((callsIn_wide (n := 29)).2 (pall_no _ _ (HP1.out _ hy1))).mono ?_; rintro e wl1 ⟨b1, rfl, hle1, hbx1, hl1⟩; have hz1 := btP hy1 hl1))
  have HX1 : Hid (Below W1.heap.size W1 wl1) := hidS hz1
  have HBX1 := hidS hbx1
  refine range_none (F := Fence.wide) rfl (by decide) (gf := 38) (lb := #[.pointer (some ⟨b1, 0, none⟩)]) rfl trivial (enters_of Tryd.func38 (by kernel_rfl) rfl)
    (fun l W hW => (callsIn_wide (n := 29)).2 (pall0 _ b1 W ((hW.cell (p := ⟨b1, 0, none⟩) HBX1.out.lt).trans HBX1.out.cell))) ?_
  intro D1 W2 hD1 hB1 hK1
  have hb2 : Below W0.heap.size W0 W2 := btP hb1 (btP HX1.out hB1)
  have HB10 : Hid (Below W1.heap.size W1 W2) := hidS (btP HX1.out hB1)
  have c1 : W2.cell? ⟨w.heap.size + 1 + 1, 1, none⟩ = some (.pointer (some ⟨w.heap.size + 1, 0, none⟩)) := (hb2.cell (p := ⟨w.heap.size + 1 + 1, 1, none⟩) (by show w.heap.size + 1 + 1 < W0.heap.size; omega)).trans ((obj_cell o2 1).trans rfl)
  have HK1 := hidS hK1
  have HD1 : Hid (W1.heap.size ≤ D1 ∧ D1 < W2.heap.size) := hidS ⟨Nat.le_trans HX1.out.size hD1, (Array.getElem?_eq_some_iff.1 hK1).1⟩
  clear hz1 hbx1 ha1 ho1 hx1 ht1 hy1 hl1 hle1 hD1 hK1 HP1
  gi_wp2

  rw [roundsIn_succ]
  clear c0 c1
  have HNS := hidS (fun W => newset_anyI 4 W (by decide))
  gi_wp2_with (refine ⟨trivial, ?_⟩; first
    | (gi_at_call 13; refine ((callsIn_wide (n := 29)).2 (HNS.out _)).mono ?_; rintro e wn ⟨p, g, rfl, hsn, hpn, hgn, hbn⟩; have hAd := add_anyI p g 4 3 _ wn (by decide) hsn; rw [show (decide (3 < 4) && !hasW (List.replicate ((4 + 63) / 64) 0) 3) = true by decide, show ((3 : Nat) : Int) = 3 from rfl] at hAd)
    | (gi_at_call 14; refine ((callsIn_wide (n := 29)).2 hAd).mono ?_; rintro e wf ⟨rfl, hsf, hkf, hzf⟩))
  rw [show putW 4 (List.replicate ((4 + 63) / 64) 0) 3 = [8] by decide] at hsf
  obtain ⟨Wm, hWm⟩ : ∃ Wm, (W2.alloc (Obj.cells #[.pointer none, .int .i64 0, .slice none 0 0, .int .i64 0] 45)).alloc (Obj.cells #[.pointer none, .pointer (some ⟨W2.heap.size, 0, none⟩)] 42) = Wm := ⟨_, rfl⟩
  rw [hWm] at hpn hgn hbn
  have hzm : Wm.heap.size = W2.heap.size + 2 := by rw [← hWm]; simp
  have m2 : Wm.heap[W2.heap.size + 1]? = some (Obj.cells #[.pointer none, .pointer (some ⟨W2.heap.size, 0, none⟩)] 42) := by
    rw [← hWm]
    have := World.alloc_heap_new (W2.alloc (Obj.cells #[.pointer none, .int .i64 0, .slice none 0 0, .int .i64 0] 45)) (Obj.cells #[.pointer none, .pointer (some ⟨W2.heap.size, 0, none⟩)] 42)
    rwa [World.size_alloc] at this
  have m1 : Wm.heap[W2.heap.size]? = some (Obj.cells #[.pointer none, .int .i64 0, .slice none 0 0, .int .i64 0] 45) := by
    rw [← hWm, Below.heap_alloc _ _ _ (by simp)]
    exact World.alloc_heap_new _ _
  have hBm : Below W2.heap.size W2 Wm := by rw [← hWm]; exact belP (belP (Below.refl _ _))
  have hlow : ∀ k, k < Wm.heap.size → wf.heap[k]? = Wm.heap[k]? := fun k hk => (hkf.block k (Nat.lt_of_lt_of_le hk hbn.size) (by show ¬ (k = p ∨ k = g); omega)).trans (hbn.block k hk)
  have m2f : wf.heap[W2.heap.size + 1]? = some (Obj.cells #[.pointer none, .pointer (some ⟨W2.heap.size, 0, none⟩)] 42) := (hlow _ (by omega)).trans m2
  have m1f : wf.heap[W2.heap.size]? = some (Obj.cells #[.pointer none, .int .i64 0, .slice none 0 0, .int .i64 0] 45) := (hlow _ (by omega)).trans m1
  have hBf : Below W2.heap.size W2 wf := btP hBm (hbn.trans (hkf.below hbn.size (fun k e => by omega)))
  have lmf : W2.heap.size + 1 < wf.heap.size := (Array.getElem?_eq_some_iff.1 m2f).1
  have HSF := hidS hsf
  have HM1 := hidS m1f
  have HM2 := hidS m2f
  have HBF := hidS hBf
  clear hWm m1 m2 hBm hlow hbn hkf hsf hsn hpn hgn hAd HNS hzf hzm m1f m2f
  have HNV0 : Hid (∀ W, Below wf.heap.size wf W → NoP W (.pointer none)) := hidS (fun W _ => .inl rfl)
  have HNV1 : Hid (∀ W, Below wf.heap.size wf W → NoP W (.pointer (some ⟨W2.heap.size, 0, none⟩))) := hidS (fun W hW => .inr ⟨_, rfl, (hW.cell (p := ⟨W2.heap.size, 0, none⟩) (by show W2.heap.size < wf.heap.size; omega)).trans ((obj_cell HM1.out 0).trans rfl)⟩)
  obtain ⟨V0, hV0⟩ : ∃ V0, wf = V0 := ⟨_, rfl⟩
  rw [hV0] at HSF HM1 HM2 HBF HNV0 HNV1 lmf hBf ⊢
  clear hV0
  have hv0 : Below V0.heap.size V0 V0 := Below.refl _ _
  have s0 : V0.cell? ⟨W2.heap.size + 1, 0, none⟩ = some (.pointer none) := (obj_cell HM2.out 0).trans rfl
  refine wpIn_loop_rounds 3 ?_

  rw [roundsIn_succ]
  have HQ0 : Hid (∀ W, Below V0.heap.size V0 W → NoP W (.pointer none)) := hidS (fun W hW => HNV0.out W (btP hv0 hW))
  have HF0 : Hid (∀ W, Dr V0 W → SetRI W p g 4 [8] (els 4 (hasW [8])).length) := hidS (fun W hW => hW.setI (HSF.out.kept (Kp.ofBelow (S := fun _ => False) hv0) (fun q => q) (fun q => q)))
  have HNF0 : Hid (∀ W, Dr V0 W → Calls Tryd.prog 18 #[.pointer none, .pointer (some ⟨p, 0, none⟩)] W fun e w' => e = .returned (.bool false) ∧ Dr V0 w') := hidS (fun W hW => (same_nf _ p g 4 _ 8 W (HQ0.out W hW.bel) (HF0.out W hW) (by decide)).mono (fun e w' h => ⟨h.1, hW.tr h.2⟩))
  have HFN0 : Hid (∀ W, Dr V0 W → Calls Tryd.prog 18 #[.pointer (some ⟨p, 0, none⟩), .pointer none] W fun e w' => e = .returned (.bool false) ∧ Dr V0 w') := hidS (fun W hW => (same_fn _ p g 4 _ 8 W (HQ0.out W hW.bel) (HF0.out W hW) (by decide)).mono (fun e w' h => ⟨h.1, hW.tr h.2⟩))
  have HNN0 : Hid (∀ W, Dr V0 W → Calls Tryd.prog 18 #[.pointer none, .pointer none] W fun e w' => e = .returned (.bool true) ∧ Dr V0 w') := hidS (fun W hW => (same_nn _ W (HQ0.out W hW.bel)).mono (fun e w' h => ⟨h.1, hW.tr h.2⟩))
  gi_wp2_with (refine ⟨trivial, ?_⟩; first
    | (gi_at_call 14; refine ((callsIn_wide (n := 29)).2 (sadd_no _ x _ (HQ0.out _ (Below.refl _ _)))).mono ?_; rintro e wc ⟨rfl, hwc⟩; have hwc := hwc.symm; subst hwc)
    | (gi_at_call 15; refine ((callsIn_wide (n := 29)).2 (sdrop_no _ x _ (HQ0.out _ (Below.refl _ _)))).mono ?_; rintro e wc ⟨rfl, hwc⟩; have hwc := hwc.symm; subst hwc)
    | (gi_at_call 16; refine ((callsIn_wide (n := 29)).2 (shas_no _ x _ (HQ0.out _ (Below.refl _ _)))).mono ?_; rintro e wc ⟨rfl, hwc⟩; have hwc := hwc.symm; subst hwc)
    | (gi_at_call 17; refine ((callsIn_wide (n := 29)).2 (slen_no _ _ (HQ0.out _ (Below.refl _ _)))).mono ?_; rintro e wc ⟨rfl, hwc⟩; have hwc := hwc.symm; subst hwc)
    | (gi_at_call 18; with_reducible refine ((callsIn_wide (n := 29)).2 (HNF0.out _ (Dr.refl _))).mono ?_; rintro e wq1 ⟨rfl, hq1⟩)
    | (gi_at_call 18; with_reducible refine ((callsIn_wide (n := 29)).2 (HFN0.out _ hq1)).mono ?_; rintro e wq2 ⟨rfl, hq2⟩; have s2 := hq2.cellD s0)
    | (gi_at_call 18; with_reducible refine ((callsIn_wide (n := 29)).2 (HNN0.out _ hq2)).mono ?_; rintro e wq3 ⟨rfl, hq3⟩)
    | (gi_at_call 19; refine ((callsIn_wide (n := 29)).2 (sall_no _ _ (HQ0.out _ hq3.bel))).mono ?_; rintro e ws0 ⟨Bw0, Bf0, Be0, rfl, hw1, hw2, hw3, hs0⟩))
  have HX0 : Hid (Below V0.heap.size V0 ws0) := hidS (btP hq3.bel hs0)
  have HA0 := hidS hw1
  have HB0 := hidS hw2
  have HC0 := hidS hw3
  refine range_none (F := Fence.wide) rfl (by decide) (gf := 60) (lb := #[.pointer (some ⟨Bw0, 0, none⟩), .pointer (some ⟨Bf0, 0, none⟩), .pointer (some ⟨Be0, 0, none⟩)]) rfl trivial (enters_of Tryd.func60 (by kernel_rfl) rfl)
    (fun l W hW => (callsIn_wide (n := 29)).2 (within0 _ Bw0 Bf0 Be0 W ((hW.cell (p := ⟨Bw0, 0, none⟩) HA0.out.lt).trans HA0.out.cell) ((hW.cell (p := ⟨Bf0, 0, none⟩) HB0.out.lt).trans HB0.out.cell) ((hW.cell (p := ⟨Be0, 0, none⟩) HC0.out.lt).trans HC0.out.cell))) ?_
  intro E0 V1 hE0 hBe0 hKe0
  have hv1 : Below V0.heap.size V0 V1 := btP hv0 (btP HX0.out hBe0)
  have s0 : V1.cell? ⟨W2.heap.size + 1, 0, none⟩ = some (.pointer none) := (hv1.cell (p := ⟨W2.heap.size + 1, 0, none⟩) lmf).trans ((obj_cell HM2.out 0).trans rfl)
  have s1 : V1.cell? ⟨W2.heap.size + 1, 1, none⟩ = some (.pointer (some ⟨W2.heap.size, 0, none⟩)) := (hv1.cell (p := ⟨W2.heap.size + 1, 1, none⟩) lmf).trans ((obj_cell HM2.out 1).trans rfl)
  have HKe0 := hidS hKe0
  have HE0 : Hid (V0.heap.size ≤ E0 ∧ E0 < V1.heap.size) := hidS ⟨Nat.le_trans HX0.out.size hE0, (Array.getElem?_eq_some_iff.1 hKe0).1⟩
  have HBE0 : Hid (Below V0.heap.size V0 V1) := hidS (btP HX0.out hBe0)
  clear hq1 hq2 hq3 hs0 hw1 hw2 hw3 hE0 hKe0 HQ0 HF0 HNF0 HFN0 HNN0 s2 hBe0
  gi_wp2

  rw [roundsIn_succ]
  have HQ1 : Hid (∀ W, Below V1.heap.size V1 W → NoP W (.pointer (some ⟨W2.heap.size, 0, none⟩))) := hidS (fun W hW => HNV1.out W (btP hv1 hW))
  have HF1 : Hid (∀ W, Dr V1 W → SetRI W p g 4 [8] (els 4 (hasW [8])).length) := hidS (fun W hW => hW.setI (HSF.out.kept (Kp.ofBelow (S := fun _ => False) hv1) (fun q => q) (fun q => q)))
  have HNF1 : Hid (∀ W, Dr V1 W → Calls Tryd.prog 18 #[.pointer (some ⟨W2.heap.size, 0, none⟩), .pointer (some ⟨p, 0, none⟩)] W fun e w' => e = .returned (.bool false) ∧ Dr V1 w') := hidS (fun W hW => (same_nf _ p g 4 _ 8 W (HQ1.out W hW.bel) (HF1.out W hW) (by decide)).mono (fun e w' h => ⟨h.1, hW.tr h.2⟩))
  have HFN1 : Hid (∀ W, Dr V1 W → Calls Tryd.prog 18 #[.pointer (some ⟨p, 0, none⟩), .pointer (some ⟨W2.heap.size, 0, none⟩)] W fun e w' => e = .returned (.bool false) ∧ Dr V1 w') := hidS (fun W hW => (same_fn _ p g 4 _ 8 W (HQ1.out W hW.bel) (HF1.out W hW) (by decide)).mono (fun e w' h => ⟨h.1, hW.tr h.2⟩))
  have HNN1 : Hid (∀ W, Dr V1 W → Calls Tryd.prog 18 #[.pointer (some ⟨W2.heap.size, 0, none⟩), .pointer none] W fun e w' => e = .returned (.bool true) ∧ Dr V1 w') := hidS (fun W hW => (same_nn _ W (HQ1.out W hW.bel)).mono (fun e w' h => ⟨h.1, hW.tr h.2⟩))
  gi_wp2_with (refine ⟨trivial, ?_⟩; first
    | (gi_at_call 14; refine ((callsIn_wide (n := 29)).2 (sadd_no _ x _ (HQ1.out _ (Below.refl _ _)))).mono ?_; rintro e wc ⟨rfl, hwc⟩; have hwc := hwc.symm; subst hwc)
    | (gi_at_call 15; refine ((callsIn_wide (n := 29)).2 (sdrop_no _ x _ (HQ1.out _ (Below.refl _ _)))).mono ?_; rintro e wc ⟨rfl, hwc⟩; have hwc := hwc.symm; subst hwc)
    | (gi_at_call 16; refine ((callsIn_wide (n := 29)).2 (shas_no _ x _ (HQ1.out _ (Below.refl _ _)))).mono ?_; rintro e wc ⟨rfl, hwc⟩; have hwc := hwc.symm; subst hwc)
    | (gi_at_call 17; refine ((callsIn_wide (n := 29)).2 (slen_no _ _ (HQ1.out _ (Below.refl _ _)))).mono ?_; rintro e wc ⟨rfl, hwc⟩; have hwc := hwc.symm; subst hwc)
    | (gi_at_call 18; with_reducible refine ((callsIn_wide (n := 29)).2 (HNF1.out _ (Dr.refl _))).mono ?_; rintro e wq1 ⟨rfl, hq1⟩)
    | (gi_at_call 18; with_reducible refine ((callsIn_wide (n := 29)).2 (HFN1.out _ hq1)).mono ?_; rintro e wq2 ⟨rfl, hq2⟩; have s2 := hq2.cellD s0)
    | (gi_at_call 18; with_reducible refine ((callsIn_wide (n := 29)).2 (HNN1.out _ hq2)).mono ?_; rintro e wq3 ⟨rfl, hq3⟩)
    | (gi_at_call 19; refine ((callsIn_wide (n := 29)).2 (sall_no _ _ (HQ1.out _ hq3.bel))).mono ?_; rintro e ws1 ⟨Bw1, Bf1, Be1, rfl, hw1, hw2, hw3, hs1⟩))
  have HX1 : Hid (Below V1.heap.size V1 ws1) := hidS (btP hq3.bel hs1)
  have HA1 := hidS hw1
  have HB1 := hidS hw2
  have HC1 := hidS hw3
  refine range_none (F := Fence.wide) rfl (by decide) (gf := 60) (lb := #[.pointer (some ⟨Bw1, 0, none⟩), .pointer (some ⟨Bf1, 0, none⟩), .pointer (some ⟨Be1, 0, none⟩)]) rfl trivial (enters_of Tryd.func60 (by kernel_rfl) rfl)
    (fun l W hW => (callsIn_wide (n := 29)).2 (within0 _ Bw1 Bf1 Be1 W ((hW.cell (p := ⟨Bw1, 0, none⟩) HA1.out.lt).trans HA1.out.cell) ((hW.cell (p := ⟨Bf1, 0, none⟩) HB1.out.lt).trans HB1.out.cell) ((hW.cell (p := ⟨Be1, 0, none⟩) HC1.out.lt).trans HC1.out.cell))) ?_
  intro E1 V2 hE1 hBe1 hKe1
  have hv2 : Below V0.heap.size V0 V2 := btP hv1 (btP HX1.out hBe1)
  have s0 : V2.cell? ⟨W2.heap.size + 1, 0, none⟩ = some (.pointer none) := (hv2.cell (p := ⟨W2.heap.size + 1, 0, none⟩) lmf).trans ((obj_cell HM2.out 0).trans rfl)
  have s1 : V2.cell? ⟨W2.heap.size + 1, 1, none⟩ = some (.pointer (some ⟨W2.heap.size, 0, none⟩)) := (hv2.cell (p := ⟨W2.heap.size + 1, 1, none⟩) lmf).trans ((obj_cell HM2.out 1).trans rfl)
  have HKe1 := hidS hKe1
  have HE1 : Hid (V1.heap.size ≤ E1 ∧ E1 < V2.heap.size) := hidS ⟨Nat.le_trans HX1.out.size hE1, (Array.getElem?_eq_some_iff.1 hKe1).1⟩
  have HBE1 : Hid (Below V1.heap.size V1 V2) := hidS (btP HX1.out hBe1)
  clear hq1 hq2 hq3 hs1 hw1 hw2 hw3 hE1 hKe1 HQ1 HF1 HNF1 HFN1 HNN1 s2 hBe1
  gi_wp2
  rw [roundsIn_succ]
  clear s0 s1
  have hWV : Below W0.heap.size W0 V2 := btP hb2 (btP HBF.out hv2)
  have bR2 : Boxed V2 w.heap.size 4 (.bool false) := (hWV.block _ (by omega)).trans bR
  have cr := bR2.cell
  have fr := bR2.frozen
  gi_wp2
  have kD0 : V2.heap[D0]? = some (.deferred (some [])) := (hv2.block _ (by have := HD0.out; have := HD1.out; have := HBF.out.size; omega)).trans ((HBF.out.block _ (by have := HD0.out; have := HD1.out; omega)).trans ((HB10.out.block _ HD0.out.2).trans HK0.out))
  have kD1 : V2.heap[D1]? = some (.deferred (some [])) := (hv2.block _ (Nat.lt_of_lt_of_le HD1.out.2 HBF.out.size)).trans ((HBF.out.block _ HD1.out.2).trans HK1.out)
  have kE0 : V2.heap[E0]? = some (.deferred (some [])) := (HBE1.out.block _ HE0.out.2).trans HKe0.out
  have kE1 := HKe1.out
  have n01 : D0 ≠ D1 := by have := HD0.out; have := HD1.out; omega
  have n12 : D1 ≠ E0 := by have := HD1.out; have := HE0.out; have := HBF.out.size; omega
  have n02 : D0 ≠ E0 := by have := HD0.out; have := HD1.out; have := HE0.out; have := HBF.out.size; omega
  have n23 : E0 ≠ E1 := by have := HE0.out; have := HE1.out; omega
  have n13 : D1 ≠ E1 := by have := HD1.out; have := HE0.out; have := HE1.out; have := HBF.out.size; omega
  have n03 : D0 ≠ E1 := by have := HD0.out; have := HD1.out; have := HE0.out; have := HE1.out; have := HBF.out.size; omega
  have lD0 : w.heap.size ≤ D0 := by have := HD0.out; omega
  have lD1 : w.heap.size ≤ D1 := by have := HD0.out; have := HD1.out; omega
  have lE0 : w.heap.size ≤ E0 := by have := HD0.out; have := HD1.out; have := HE0.out; have := HBF.out.size; omega
  have lE1 : w.heap.size ≤ E1 := by have := HE0.out; have := HE1.out; omega
  have hZ := (btP hBW hWV).setCell (p := ⟨w.heap.size, 0, none⟩) (Nat.le_refl _) (.bool true)
  have bz := bR2.set (.bool true)
  have x0 := (KeepsOthers.setCell V2 ⟨w.heap.size, 0, none⟩ (.bool true)).same D0 _ kD0 rfl
  have x1 := (KeepsOthers.setCell V2 ⟨w.heap.size, 0, none⟩ (.bool true)).same D1 _ kD1 rfl
  have x2 := (KeepsOthers.setCell V2 ⟨w.heap.size, 0, none⟩ (.bool true)).same E0 _ kE0 rfl
  have x3 := (KeepsOthers.setCell V2 ⟨w.heap.size, 0, none⟩ (.bool true)).same E1 _ kE1 rfl
  obtain ⟨Z, hZ0⟩ : ∃ Z, V2.setCell ⟨w.heap.size, 0, none⟩ (.bool true) = Z := ⟨_, rfl⟩
  rw [hZ0] at hZ bz x0 x1 x2 x3 ⊢
  have y2 : (Z.putObj E1 (.deferred none)).heap[E0]? = some (.deferred (some [])) := (World.putObj_heap_other n23).trans x2
  have y1 : ((Z.putObj E1 (.deferred none)).putObj E0 (.deferred none)).heap[D1]? = some (.deferred (some [])) := (World.putObj_heap_other n12).trans ((World.putObj_heap_other n13).trans x1)
  have y0 : (((Z.putObj E1 (.deferred none)).putObj E0 (.deferred none)).putObj D1 (.deferred none)).heap[D0]? = some (.deferred (some [])) := (World.putObj_heap_other n01).trans ((World.putObj_heap_other n02).trans ((World.putObj_heap_other n03).trans x0))
  have b3 := boxed_stepP bz (grownBy_putObj' _ E1 (.deferred none)) (fun r e => by cases e; exact ⟨_, x3, rfl⟩)
  have b2 := boxed_stepP b3 (grownBy_putObj' _ E0 (.deferred none)) (fun r e => by cases e; exact ⟨_, y2, rfl⟩)
  have b1 := boxed_stepP b2 (grownBy_putObj' _ D1 (.deferred none)) (fun r e => by cases e; exact ⟨_, y1, rfl⟩)
  have b0 := (boxed_stepP b1 (grownBy_putObj' _ D0 (.deferred none)) (fun r e => by cases e; exact ⟨_, y0, rfl⟩)).cell
  have z3 := hZ.trans (belowK_b (w := w) (Nat.le_refl _) _ E1 _ (.deferred none) lE1 x3 rfl rfl)
  have z2 := z3.trans (belowK_b (w := w) (Nat.le_refl _) _ E0 _ (.deferred none) lE0 y2 rfl rfl)
  have z1 := z2.trans (belowK_b (w := w) (Nat.le_refl _) _ D1 _ (.deferred none) lD1 y1 rfl rfl)
  have z0 := z1.trans (belowK_b (w := w) (Nat.le_refl _) _ D0 _ (.deferred none) lD0 y0 rfl rfl)
  refine ⟨by simp, .inl ⟨_, _, rfl, run_takeDeferred x3, ?_⟩⟩
  refine ⟨by simp, .inl ⟨_, _, rfl, run_takeDeferred y2, ?_⟩⟩
  refine ⟨by simp, .inl ⟨_, _, rfl, run_takeDeferred y1, ?_⟩⟩
  refine ⟨by simp, .inl ⟨_, _, rfl, run_takeDeferred y0, ?_⟩⟩
  refine ⟨.bool true, ?_, rfl, z0⟩
  simp [results, Tryd.f3, go_sem, b0]
end Go.Proofs.YtnlfgijmkgihcaaDoor
