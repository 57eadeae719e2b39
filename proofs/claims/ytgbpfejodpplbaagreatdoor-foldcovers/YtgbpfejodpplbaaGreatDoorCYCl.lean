import Derived.Test.YtgbpfejodpplbaaGreatDoorCDAw
import Derived.Deep.RegionLaw
namespace Go.Proofs.YtgbpfejodpplbaaGreatDoor
open Go.RowKit Go.WideShapes
set_option maxRecDepth 100000
set_option linter.unusedSimpArgs false

theorem nmv_append (A B : List (ByteArray × Nat)) : nmv (A ++ B) = nmv A ++ nmv B := by simp [nmv]
theorem own_capY {w : World} {B e sz n c : Nat} {a : Option Addr} {xs : List Value} (h : w.ownsRow B e sz (.slice a n c) n xs) : n ≤ c := by
  rcases h.2 with ⟨e1, hz⟩ | ⟨g, cap, cur, e1, _, _, h4, _⟩
  · omega
  · cases e1
    exact h4
theorem dvY_append (A B : List Nat) : dv (A ++ B) = dv A ++ dv B := by simp [dv]
theorem infoYJ : (Tryz.prog.info? 25).map (fun i => (i.zero, i.size, i.bytes)) = some (some (.int .u32 0), 1, 4) := by kernel_rfl
theorem appJ_wp {w : World} {o : Oper} {a : Act} {K : Act → World → Prop} {Q : Exit → Act → World → Prop} (s' x' : Operand) (ho : o.op = .call { callee := .builtin .append, args := #[s', x'], argTypes := #[23, 23] })
    (base g : Nat) (lv : Value) (pt : List Nat) (x : Nat) (hs : a.eval s' = lv) (hx : a.eval x' = .slice (some ⟨g, 0, none⟩) 1 1) (hown : w.ownsRow base 25 1 lv pt.length (dv pt)) (hobj : w.heap[g]? = some (Obj.cells #[.int .u32 (x : Int)] 25)) (hm : pt.length ≤ 35184372088703) (hbase : base ≤ w.heap.size)
    (h : ∀ v' w', w'.ownsRow base 25 1 v' (pt.length + 1) (dv (pt ++ [x])) → w.grownBy w' lv.ownBlock → K (a.put o.dst v') w') : Oper.wp Tryz.prog o a w K Q := by
  obtain ⟨i0, hi, hz0, hz1, hz2⟩ := info_parts infoYJ
  refine wp_append_own w s' x' _ ho base 25 i0 (.int .u32 0) 1 4 Tryz.underlying23 hi hz0 hz1 hz2 rfl (by decide) lv pt.length (dv pt) hs hown ⟨g, 0, none⟩ 1 1 [.int .u32 (x : Int)] hx rfl ?_ ?_ (by unfold maxLen; omega) (by omega) hbase ?_
  · intro j u hj
    rw [add_plain]
    have hl : j < 1 := by simpa using (List.getElem?_eq_some_iff.1 hj).1
    match j, hl, hj with
    | 0, _, hj => rw [obj_cell hobj]; exact hj
  · intro u hu
    simp at hu
    subst hu; rfl
  · intro v' w' h1 h2 _
    exact h v' w' (by rw [dvY_append]; exact h1) h2
theorem infoYD : (Tryz.prog.info? 5).map (fun i => (i.zero, i.size, i.bytes)) = some (some (.int .u8 0), 1, 1) := by kernel_rfl
theorem appD_wp {w : World} {o : Oper} {a : Act} {K : Act → World → Prop} {Q : Exit → Act → World → Prop} (s' x' : Operand) (ho : o.op = .call { callee := .builtin .append, args := #[s', x'], argTypes := #[24, 24] })
    (base g : Nat) (lv : Value) (pt : List Int) (x : Int) (hs : a.eval s' = lv) (hx : a.eval x' = .slice (some ⟨g, 0, none⟩) 1 1) (hown : w.ownsRow base 5 1 lv pt.length (bv pt)) (hobj : w.heap[g]? = some (Obj.cells #[.int .u8 x] 5)) (hm : pt.length ≤ 140737488351231) (hbase : base ≤ w.heap.size)
    (h : ∀ v' w', w'.ownsRow base 5 1 v' (pt.length + 1) (bv (pt ++ [x])) → w.grownBy w' lv.ownBlock → K (a.put o.dst v') w') : Oper.wp Tryz.prog o a w K Q := by
  obtain ⟨i0, hi, hz0, hz1, hz2⟩ := info_parts infoYD
  refine wp_append_own w s' x' _ ho base 5 i0 (.int .u8 0) 1 1 Tryz.underlying24 hi hz0 hz1 hz2 rfl (by decide) lv pt.length (bv pt) hs hown ⟨g, 0, none⟩ 1 1 [.int .u8 x] hx rfl ?_ ?_ (by unfold maxLen; omega) (by omega) hbase ?_
  · intro j u hj
    rw [add_plain]
    have hl : j < 1 := by simpa using (List.getElem?_eq_some_iff.1 hj).1
    match j, hl, hj with
    | 0, _, hj => rw [obj_cell hobj]; exact hj
  · intro u hu
    simp at hu
    subst hu; rfl
  · intro v' w' h1 h2 _
    exact h v' w' (by rw [bv_append]; exact h1) h2
theorem infoYM : (Tryz.prog.info? 64).map (fun i => (i.zero, i.size, i.bytes)) = some (some (.agg #[.string ⟨#[]⟩, .int .u32 0]), 2, 24) := by kernel_rfl
theorem appM_wp {w : World} {o : Oper} {a : Act} {K : Act → World → Prop} {Q : Exit → Act → World → Prop} (s' x' : Operand) (ho : o.op = .call { callee := .builtin .append, args := #[s', x'], argTypes := #[26, 26] })
    (base g : Nat) (lv : Value) (pt : List (ByteArray × Nat)) (s : ByteArray) (x : Nat) (hs : a.eval s' = lv) (hx : a.eval x' = .slice (some ⟨g, 0, none⟩) 1 1) (hown : w.ownsRow base 64 2 lv pt.length (nmv pt)) (hobj : w.heap[g]? = some (Obj.cells #[.string s, .int .u32 (x : Int)] 64)) (hm : (pt.length + 1) * 24 ≤ 140737488355328) (hbase : base ≤ w.heap.size)
    (h : ∀ v' w', w'.ownsRow base 64 2 v' (pt.length + 1) (nmv (pt ++ [(s, x)])) → w.grownBy w' lv.ownBlock → K (a.put o.dst v') w') : Oper.wp Tryz.prog o a w K Q := by
  obtain ⟨i0, hi, hz0, hz1, hz2⟩ := info_parts infoYM
  refine wp_append_own w s' x' _ ho base 64 i0 (.agg #[.string ⟨#[]⟩, .int .u32 0]) 2 24 Tryz.underlying26 hi hz0 hz1 hz2 rfl (by decide) lv pt.length (nmv pt) hs hown ⟨g, 0, none⟩ 1 1 [.string s, .int .u32 (x : Int)] hx rfl ?_ ?_ (by unfold maxLen; omega) (by omega) hbase ?_
  · intro j u hj
    rw [add_plain]
    have hl : j < 2 := by simpa using (List.getElem?_eq_some_iff.1 hj).1
    match j, hl, hj with
    | 0, _, hj => rw [obj_cell hobj]; exact hj
    | 1, _, hj => rw [obj_cell hobj]; exact hj
  · intro u hu
    simp at hu
    rcases hu with rfl | rfl <;> rfl
  · intro v' w' h1 h2 _
    exact h v' w' (by rw [nmv_append]; exact h1) h2
set_option maxHeartbeats 4000000 in
theorem rcopied_any (ac aj ad an : Option Addr) (cc cj cd z st cn : Nat) (L : List (Nat × Nat)) (J : List Nat) (ds : List Int) (M : List (ByteArray × Nat)) (w : World) (hL : L.length ≤ 17592186044352) (hJl : J.length ≤ 35184372088704) (hDl : ds.length ≤ 140737488351232) (hMl : M.length * 24 ≤ 140737488355328) (hr : CRd w ac L w.heap.size) (hrJ : JRd w aj J w.heap.size) (hrD : Reads w ad ds w.heap.size) (hrN : NRd w an M w.heap.size) :
    Calls Tryz.prog 5 #[imV ac L.length cc aj J.length cj ad ds.length cd z st an M.length cn] w (CdP w L J ds z st M) := by
  obtain ⟨w2, hw2⟩ : ∃ w2, ((w.alloc (.cells (imC ac L.length cc aj J.length cj ad ds.length cd z st an M.length cn) 28)).alloc (.cells zImC 28)).alloc (.cells zImC 28) = w2 := ⟨_, rfl⟩
  have hb2 : Below w.heap.size w w2 := by rw [← hw2]; exact belP (belP (belP (Below.refl _ _)))
  have hs2 : w2.heap.size = w.heap.size + 3 := by rw [← hw2]; simp
  have o0 : w2.heap[w.heap.size]? = some (.cells (imC ac L.length cc aj J.length cj ad ds.length cd z st an M.length cn) 28) := by
    rw [← hw2, Below.heap_alloc _ _ _ (by simp; omega), Below.heap_alloc _ _ _ (by simp)]
    exact heap_alloc_new w _
  have o1 : w2.heap[w.heap.size + 1]? = some (.cells zImC 28) := by
    have := heap_alloc_new (w.alloc (.cells (imC ac L.length cc aj J.length cj ad ds.length cd z st an M.length cn) 28)) (.cells zImC 28)
    rw [World.size_alloc] at this
    rw [← hw2, Below.heap_alloc _ _ _ (by simp)]
    exact this
  have o2 : w2.heap[w.heap.size + 1 + 1]? = some (.cells zImC 28) := by
    have := heap_alloc_new ((w.alloc (.cells (imC ac L.length cc aj J.length cj ad ds.length cd z st an M.length cn) 28)).alloc (.cells zImC 28)) (.cells zImC 28)
    rw [World.size_alloc, World.size_alloc] at this
    rw [← hw2]
    exact this
  have h0 : CpI w2 w2 (w.heap.size + 1 + 1) (.slice none 0 0) (.slice none 0 0) (.slice none 0 0) (.slice none 0 0) [] [] [] [] := ⟨by omega, Kp.refl _ _, o2, World.ownsRow_nil _ _ _ _, World.ownsRow_nil _ _ _ _, World.ownsRow_nil _ _ _ _, World.ownsRow_nil _ _ _ _⟩
  have HW2 := hidS hw2
  have HCe : Hid (∀ W, Kp (fun i => i = w.heap.size + 1 + 1) w2 W → ∀ i, W.cell? ⟨w.heap.size, i, none⟩ = (imC ac L.length cc aj J.length cj ad ds.length cd z st an M.length cn)[i]?) := hidS (fun W hW i => obj_cell ((hW.block w.heap.size (by omega) (by show ¬ _ = _; omega)).trans o0) i)
  have HCr : Hid (∀ W, Kp (fun i => i = w.heap.size + 1 + 1) w2 W → CRd W ac L w.heap.size) := hidS (fun W hW => hr.below (hb2.trans (hW.below hb2.size (fun i e => by omega))))
  have HCj : Hid (∀ W, Kp (fun i => i = w.heap.size + 1 + 1) w2 W → JRd W aj J w.heap.size) := hidS (fun W hW => hrJ.below (hb2.trans (hW.below hb2.size (fun i e => by omega))))
  have HCd : Hid (∀ W, Kp (fun i => i = w.heap.size + 1 + 1) w2 W → Reads W ad ds w.heap.size) := hidS (fun W hW => hrD.below (hb2.trans (hW.below hb2.size (fun i e => by omega))))
  have HCn : Hid (∀ W, Kp (fun i => i = w.heap.size + 1 + 1) w2 W → NRd W an M w.heap.size) := hidS (fun W hW => hrN.below (hb2.trans (hW.below hb2.size (fun i e => by omega))))
  have H0 := hidS h0
  have HO1 := hidS o1
  clear hw2 hr hrJ hrD hrN h0 o0 o1 o2
  go_enter Tryz.func5, Tryz.ntmps5
  go_wp2
  rw [HW2.out]
  go_loopw [4] (fun u wr => ∃ (k : Nat) (v1 : Value), u = .int .i64 k ∧ k ≤ L.length ∧ CpI w2 wr (w.heap.size + 1 + 1) v1 (.slice none 0 0) (.slice none 0 0) (.slice none 0 0) (L.take k) [] [] [])
    (fun u _ => L.length - (intOf u).toNat)
  case atStart => exact ⟨0, _, rfl, Nat.zero_le _, H0.out⟩
  case round =>
    obtain ⟨k, v1, rfl, hk, hI⟩ := hrel
    have c0 := HCe.out wr hI.kp 0
    simp only [List.getElem?_toArray, List.getElem?_cons_zero, List.getElem?_cons_succ] at c0
    by_cases hlt : k < L.length
    · have hltI : (k : Int) < (L.length : Int) := by omega
      obtain ⟨b, off, rfl, hb, hc⟩ := HCr.out wr hI.kp (by omega)
      obtain ⟨e0, e1⟩ := hc k hlt
      have hkL : (L.take k).length = k := by simp; omega
      have HTK : Hid (L.take (k + 1) = L.take k ++ [((L.getD k (0, 0)).1, (L.getD k (0, 0)).2)]) := hidS (by
        rw [List.take_add_one, List.getElem?_eq_getElem hlt, List.getD_eq_getElem?_getD, List.getElem?_eq_getElem hlt]; rfl)
      generalize (L.getD k (0, 0)).1 = op at e0 HTK
      generalize (L.getD k (0, 0)).2 = arg at e1 HTK
      have hsz := hI.kp.size
      have HS : Hid (∀ W, Kp (fun q => v1.ownBlock = some q) wr W → W.cell? ⟨w.heap.size + 1 + 1, 0, none⟩ = some v1 ∧ W.cell? ⟨w.heap.size, 0, none⟩ = some (.slice (some ⟨b, off, none⟩) L.length cc) ∧ W.cell? ⟨b, off + k * 2, none⟩ = some (.int .u8 (op : Nat)) ∧ W.cell? ⟨b, off + k * 2 + 1, none⟩ = some (.int .u32 (arg : Nat)) ∧ W.frozen? ⟨w.heap.size + 1 + 1, 0, none⟩ = false) := hidS (fun W hW => by
        have nb : ∀ q, q < w2.heap.size → ¬ v1.ownBlock = some q := fun q hq e => by have := (hI.r1.lt q e).1; omega
        have ho := (hW.block (w.heap.size + 1 + 1) (by omega) (nb _ (by omega))).trans hI.obj
        exact ⟨(obj_cell ho 0).trans rfl, (hW.cell (p := ⟨w.heap.size, 0, none⟩) (by show w.heap.size < _; omega) (nb w.heap.size (by omega))).trans c0, (hW.cell (p := ⟨b, off + k * 2, none⟩) (by show b < _; omega) (nb b (by omega))).trans e0, (hW.cell (p := ⟨b, off + k * 2 + 1, none⟩) (by show b < _; omega) (nb b (by omega))).trans e1, obj_frozen ho 0⟩)
      have HI := hidS hI
      have HRA : Hid (∀ o, (wr.alloc o).drew.ownsRow w2.heap.size 43 2 v1 (L.take k).length (cv (L.take k))) := hidS (fun o => (hI.r1.alloc o).drew)
      have HKL := hidS hkL
      obtain ⟨n1, n2, n3, n4, n5⟩ := HS.out wr (Kp.refl _ _)
      have HA := fun o => HS.out (wr.alloc o) (kpA (Kp.refl _ _))
      have m1 := fun o => (HA o).1
      have m2 := fun o => (HA o).2.1
      have m3 := fun o => (HA o).2.2.1
      have m4 := fun o => (HA o).2.2.2.1
      have m5 := fun o => (HA o).2.2.2.2
      clear HA c0 hI hc e0 e1
      go_wp2_with fail
      go_region_law ((first
        | (rw [if_pos (by rfl)]; refine appC_wp _ _ rfl w2.heap.size _ v1 (L.take k) op arg rfl rfl (HRA.out _) (heap_alloc_new wr _) (by omega) (by simp; omega) ?_; intro v' w1 hown' hg1; obtain ⟨va, vc, rfl⟩ := own_slice hown'; have HK1 := app_of hg1; have HON := hidS hown'; clear hown' hg1; obtain ⟨p1, p2, p3, p4, p5⟩ := HS.out w1 HK1)))
      all_goals
        go_wp2
        go_roundw
        case rel =>
          have q := HI.out.app1 HK1 HON.out
          rw [HKL.out, ← HTK.out] at q
          exact ⟨k + 1, _, by go_num, by omega, q⟩
        case measure => simp [intOf]; omega
    · have hltI : ¬ (k : Int) < (L.length : Int) := by omega
      rw [List.take_of_length_le (by omega)] at hI
      have HE1 := hidS hI
      clear hI
      go_wp2
      go_loopw [5] (fun u wr => ∃ (k : Nat) (v2 : Value), u = .int .i64 k ∧ k ≤ J.length ∧ CpI w2 wr (w.heap.size + 1 + 1) v1 v2 (.slice none 0 0) (.slice none 0 0) L (J.take k) [] [])
        (fun u _ => J.length - (intOf u).toNat)
      case atStart => exact ⟨0, _, rfl, Nat.zero_le _, HE1.out⟩
      case round =>
        obtain ⟨k, v2, rfl, hk, hI⟩ := hrel
        have c0 := HCe.out wr hI.kp 1
        simp only [List.getElem?_toArray, List.getElem?_cons_zero, List.getElem?_cons_succ] at c0
        by_cases hlt : k < J.length
        · have hltI : (k : Int) < (J.length : Int) := by omega
          obtain ⟨b, off, rfl, hb, hc⟩ := HCj.out wr hI.kp (by omega)
          have e0 := hc k hlt
          have hkL : (J.take k).length = k := by simp; omega
          have HTK : Hid (J.take (k + 1) = J.take k ++ [J.getD k 0]) := hidS (by
            rw [List.take_add_one, List.getElem?_eq_getElem hlt, List.getD_eq_getElem?_getD, List.getElem?_eq_getElem hlt]; rfl)
          generalize J.getD k 0 = x at e0 HTK
          have hsz := hI.kp.size
          have HS : Hid (∀ W, Kp (fun q => v2.ownBlock = some q) wr W → W.cell? ⟨w.heap.size + 1 + 1, 1, none⟩ = some v2 ∧ W.cell? ⟨w.heap.size, 1, none⟩ = some (.slice (some ⟨b, off, none⟩) J.length cj) ∧ W.cell? ⟨b, off + k, none⟩ = some (.int .u32 (x : Nat)) ∧ W.frozen? ⟨w.heap.size + 1 + 1, 1, none⟩ = false) := hidS (fun W hW => by
            have nb : ∀ q, q < w2.heap.size → ¬ v2.ownBlock = some q := fun q hq e => by have := (hI.r2.lt q e).1; omega
            have ho := (hW.block (w.heap.size + 1 + 1) (by omega) (nb _ (by omega))).trans hI.obj
            exact ⟨(obj_cell ho 1).trans rfl, (hW.cell (p := ⟨w.heap.size, 1, none⟩) (by show w.heap.size < _; omega) (nb w.heap.size (by omega))).trans c0, (hW.cell (p := ⟨b, off + k, none⟩) (by show b < _; omega) (nb b (by omega))).trans e0, obj_frozen ho 1⟩)
          have HI := hidS hI
          have HRA : Hid (∀ o, (wr.alloc o).drew.ownsRow w2.heap.size 25 1 v2 (J.take k).length (dv (J.take k))) := hidS (fun o => (hI.r2.alloc o).drew)
          have HKL := hidS hkL
          obtain ⟨n1, n2, n3, n4⟩ := HS.out wr (Kp.refl _ _)
          have HA := fun o => HS.out (wr.alloc o) (kpA (Kp.refl _ _))
          have m1 := fun o => (HA o).1
          have m2 := fun o => (HA o).2.1
          have m3 := fun o => (HA o).2.2.1
          have m4 := fun o => (HA o).2.2.2
          clear HA c0 hI hc e0
          go_wp2_with fail
          go_region_law ((first
            | (rw [if_pos (by rfl)]; refine appJ_wp _ _ rfl w2.heap.size _ v2 (J.take k) x rfl rfl (HRA.out _) (heap_alloc_new wr _) (by omega) (by simp; omega) ?_; intro v' w1 hown' hg1; obtain ⟨va, vc, rfl⟩ := own_slice hown'; have HK1 := app_of hg1; have HON := hidS hown'; clear hown' hg1; obtain ⟨p1, p2, p3, p4⟩ := HS.out w1 HK1)))
          all_goals
            go_wp2
            go_roundw
            case rel =>
              have q := HI.out.app2 HK1 HON.out
              rw [HKL.out, ← HTK.out] at q
              exact ⟨k + 1, _, by go_num, by omega, q⟩
            case measure => simp [intOf]; omega
        · have hltI : ¬ (k : Int) < (J.length : Int) := by omega
          rw [List.take_of_length_le (by omega)] at hI
          have HE2 := hidS hI
          clear hI
          go_wp2
          go_loopw [6] (fun u wr => ∃ (k : Nat) (v3 : Value), u = .int .i64 k ∧ k ≤ ds.length ∧ CpI w2 wr (w.heap.size + 1 + 1) v1 v2 v3 (.slice none 0 0) L J (ds.take k) [])
            (fun u _ => ds.length - (intOf u).toNat)
          case atStart => exact ⟨0, _, rfl, Nat.zero_le _, HE2.out⟩
          case round =>
            obtain ⟨k, v3, rfl, hk, hI⟩ := hrel
            have c0 := HCe.out wr hI.kp 2
            simp only [List.getElem?_toArray, List.getElem?_cons_zero, List.getElem?_cons_succ] at c0
            by_cases hlt : k < ds.length
            · have hltI : (k : Int) < (ds.length : Int) := by omega
              obtain ⟨b, off, rfl, hb, hc⟩ := HCd.out wr hI.kp (by omega)
              have e0 := hc k hlt
              have hkL : (ds.take k).length = k := by simp; omega
              have HTK : Hid (ds.take (k + 1) = ds.take k ++ [ds.getD k 0]) := hidS (by
                rw [List.take_add_one, List.getElem?_eq_getElem hlt, List.getD_eq_getElem?_getD, List.getElem?_eq_getElem hlt]; rfl)
              generalize ds.getD k 0 = x at e0 HTK
              have hsz := hI.kp.size
              have HS : Hid (∀ W, Kp (fun q => v3.ownBlock = some q) wr W → W.cell? ⟨w.heap.size + 1 + 1, 2, none⟩ = some v3 ∧ W.cell? ⟨w.heap.size, 2, none⟩ = some (.slice (some ⟨b, off, none⟩) ds.length cd) ∧ W.cell? ⟨b, off + k, none⟩ = some (.int .u8 x) ∧ W.frozen? ⟨w.heap.size + 1 + 1, 2, none⟩ = false) := hidS (fun W hW => by
                have nb : ∀ q, q < w2.heap.size → ¬ v3.ownBlock = some q := fun q hq e => by have := (hI.r3.lt q e).1; omega
                have ho := (hW.block (w.heap.size + 1 + 1) (by omega) (nb _ (by omega))).trans hI.obj
                exact ⟨(obj_cell ho 2).trans rfl, (hW.cell (p := ⟨w.heap.size, 2, none⟩) (by show w.heap.size < _; omega) (nb w.heap.size (by omega))).trans c0, (hW.cell (p := ⟨b, off + k, none⟩) (by show b < _; omega) (nb b (by omega))).trans e0, obj_frozen ho 2⟩)
              have HI := hidS hI
              have HRA : Hid (∀ o, (wr.alloc o).drew.ownsRow w2.heap.size 5 1 v3 (ds.take k).length (bv (ds.take k))) := hidS (fun o => (hI.r3.alloc o).drew)
              have HKL := hidS hkL
              obtain ⟨n1, n2, n3, n4⟩ := HS.out wr (Kp.refl _ _)
              have HA := fun o => HS.out (wr.alloc o) (kpA (Kp.refl _ _))
              have m1 := fun o => (HA o).1
              have m2 := fun o => (HA o).2.1
              have m3 := fun o => (HA o).2.2.1
              have m4 := fun o => (HA o).2.2.2
              clear HA c0 hI hc e0
              go_wp2_with fail
              go_region_law ((first
                | (rw [if_pos (by rfl)]; refine appD_wp _ _ rfl w2.heap.size _ v3 (ds.take k) x rfl rfl (HRA.out _) (heap_alloc_new wr _) (by omega) (by simp; omega) ?_; intro v' w1 hown' hg1; obtain ⟨va, vc, rfl⟩ := own_slice hown'; have HK1 := app_of hg1; have HON := hidS hown'; clear hown' hg1; obtain ⟨p1, p2, p3, p4⟩ := HS.out w1 HK1)))
              all_goals
                go_wp2
                go_roundw
                case rel =>
                  have q := HI.out.app3 HK1 HON.out
                  rw [HKL.out, ← HTK.out] at q
                  exact ⟨k + 1, _, by go_num, by omega, q⟩
                case measure => simp [intOf]; omega
            · have hltI : ¬ (k : Int) < (ds.length : Int) := by omega
              rw [List.take_of_length_le (by omega)] at hI
              have HE3 := hidS hI
              clear hI
              go_wp2
              go_loopw [7] (fun u wr => ∃ (k : Nat) (v4 : Value), u = .int .i64 k ∧ k ≤ M.length ∧ CpI w2 wr (w.heap.size + 1 + 1) v1 v2 v3 v4 L J ds (M.take k))
                (fun u _ => M.length - (intOf u).toNat)
              case atStart => exact ⟨0, _, rfl, Nat.zero_le _, HE3.out⟩
              case round =>
                obtain ⟨k, v4, rfl, hk, hI⟩ := hrel
                have c0 := HCe.out wr hI.kp 5
                simp only [List.getElem?_toArray, List.getElem?_cons_zero, List.getElem?_cons_succ] at c0
                by_cases hlt : k < M.length
                · have hltI : (k : Int) < (M.length : Int) := by omega
                  obtain ⟨b, off, rfl, hb, hc⟩ := HCn.out wr hI.kp (by omega)
                  obtain ⟨e0, e1⟩ := hc k hlt
                  have hkL : (M.take k).length = k := by simp; omega
                  have HTK : Hid (M.take (k + 1) = M.take k ++ [((M.getD k (.empty, 0)).1, (M.getD k (.empty, 0)).2)]) := hidS (by
                    rw [List.take_add_one, List.getElem?_eq_getElem hlt, List.getD_eq_getElem?_getD, List.getElem?_eq_getElem hlt]; rfl)
                  generalize (M.getD k (.empty, 0)).1 = s at e0 HTK
                  generalize (M.getD k (.empty, 0)).2 = x at e1 HTK
                  have hsz := hI.kp.size
                  have HS : Hid (∀ W, Kp (fun q => v4.ownBlock = some q) wr W → W.cell? ⟨w.heap.size + 1 + 1, 5, none⟩ = some v4 ∧ W.cell? ⟨w.heap.size, 5, none⟩ = some (.slice (some ⟨b, off, none⟩) M.length cn) ∧ W.cell? ⟨b, off + k * 2, none⟩ = some (.string s) ∧ W.cell? ⟨b, off + k * 2 + 1, none⟩ = some (.int .u32 (x : Nat)) ∧ W.frozen? ⟨w.heap.size + 1 + 1, 5, none⟩ = false) := hidS (fun W hW => by
                    have nb : ∀ q, q < w2.heap.size → ¬ v4.ownBlock = some q := fun q hq e => by have := (hI.r4.lt q e).1; omega
                    have ho := (hW.block (w.heap.size + 1 + 1) (by omega) (nb _ (by omega))).trans hI.obj
                    exact ⟨(obj_cell ho 5).trans rfl, (hW.cell (p := ⟨w.heap.size, 5, none⟩) (by show w.heap.size < _; omega) (nb w.heap.size (by omega))).trans c0, (hW.cell (p := ⟨b, off + k * 2, none⟩) (by show b < _; omega) (nb b (by omega))).trans e0, (hW.cell (p := ⟨b, off + k * 2 + 1, none⟩) (by show b < _; omega) (nb b (by omega))).trans e1, obj_frozen ho 5⟩)
                  have HI := hidS hI
                  have HRA : Hid (∀ o, (wr.alloc o).drew.ownsRow w2.heap.size 64 2 v4 (M.take k).length (nmv (M.take k))) := hidS (fun o => (hI.r4.alloc o).drew)
                  have HKL := hidS hkL
                  obtain ⟨n1, n2, n3, n4, n5⟩ := HS.out wr (Kp.refl _ _)
                  have HA := fun o => HS.out (wr.alloc o) (kpA (Kp.refl _ _))
                  have m1 := fun o => (HA o).1
                  have m2 := fun o => (HA o).2.1
                  have m3 := fun o => (HA o).2.2.1
                  have m4 := fun o => (HA o).2.2.2.1
                  have m5 := fun o => (HA o).2.2.2.2
                  clear HA c0 hI hc e0 e1
                  go_wp2_with fail
                  go_region_law ((first
                    | (rw [if_pos (by rfl)]; refine appM_wp _ _ rfl w2.heap.size _ v4 (M.take k) s x rfl rfl (HRA.out _) (heap_alloc_new wr _) (by omega) (by simp; omega) ?_; intro v' w1 hown' hg1; obtain ⟨va, vc, rfl⟩ := own_slice hown'; have HK1 := app_of hg1; have HON := hidS hown'; clear hown' hg1; obtain ⟨p1, p2, p3, p4, p5⟩ := HS.out w1 HK1)))
                  all_goals
                    go_wp2
                    go_roundw
                    case rel =>
                      have q := HI.out.app4 HK1 HON.out
                      rw [HKL.out, ← HTK.out] at q
                      exact ⟨k + 1, _, by go_num, by omega, q⟩
                    case measure => simp [intOf]; omega
                · have hltI : ¬ (k : Int) < (M.length : Int) := by omega
                  rw [List.take_of_length_le (by omega)] at hI
                  have HE4 := hidS hI
                  obtain ⟨a1, c1, rfl⟩ := own_slice hI.r1
                  obtain ⟨a2, c2, rfl⟩ := own_slice hI.r2
                  obtain ⟨a3, c3, rfl⟩ := own_slice hI.r3
                  obtain ⟨a4, c4, rfl⟩ := own_slice hI.r4
                  have hKp := hI.kp
                  have hRo := hI.obj
                  have d0 : wr.cell? ⟨w.heap.size + 1 + 1, 0, none⟩ = some (.slice a1 L.length c1) := (obj_cell hRo 0).trans rfl
                  have d1 : wr.cell? ⟨w.heap.size + 1 + 1, 1, none⟩ = some (.slice a2 J.length c2) := (obj_cell hRo 1).trans rfl
                  have d2 : wr.cell? ⟨w.heap.size + 1 + 1, 2, none⟩ = some (.slice a3 ds.length c3) := (obj_cell hRo 2).trans rfl
                  have d3 : wr.cell? ⟨w.heap.size + 1 + 1, 3, none⟩ = some (.int .u32 0) := (obj_cell hRo 3).trans rfl
                  have d4 : wr.cell? ⟨w.heap.size + 1 + 1, 4, none⟩ = some (.int .u32 0) := (obj_cell hRo 4).trans rfl
                  have d5 : wr.cell? ⟨w.heap.size + 1 + 1, 5, none⟩ = some (.slice a4 M.length c4) := (obj_cell hRo 5).trans rfl
                  have f3 := obj_frozen hRo 3
                  have f4 := obj_frozen hRo 4
                  have g3 := HCe.out wr hKp 3
                  have g4 := HCe.out wr hKp 4
                  simp only [List.getElem?_toArray, List.getElem?_cons_zero, List.getElem?_cons_succ] at g3 g4
                  have hne1 : w.heap.size ≠ w.heap.size + 1 + 1 := by omega
                  have oR : wr.heap[w.heap.size + 1]? = some (.cells zImC 28) := (hKp.block (w.heap.size + 1) (by omega) (by show ¬ _ = _; omega)).trans HO1.out
                  obtain ⟨W5, hW5⟩ : ∃ W5, (wr.setCell ⟨w.heap.size + 1 + 1, 3, none⟩ (.int .u32 (z : Nat))).setCell ⟨w.heap.size + 1 + 1, 4, none⟩ (.int .u32 (st : Nat)) = W5 := ⟨_, rfl⟩
                  have oR5 : W5.heap[w.heap.size + 1]? = some (.cells zImC 28) := by
                    rw [← hW5]
                    exact (Below.heap_setCell _ _ _ _ (by show w.heap.size + 1 ≠ w.heap.size + 1 + 1; omega)).trans ((Below.heap_setCell _ _ _ _ (by show w.heap.size + 1 ≠ w.heap.size + 1 + 1; omega)).trans oR)
                  have q1 : W5.ownsRow w2.heap.size 43 2 (.slice a1 L.length c1) L.length (cv L) := by rw [← hW5]; exact own_set (own_set hI.r1 hI.lt) hI.lt
                  have q2 : W5.ownsRow w2.heap.size 25 1 (.slice a2 J.length c2) J.length (dv J) := by rw [← hW5]; exact own_set (own_set hI.r2 hI.lt) hI.lt
                  have q3 : W5.ownsRow w2.heap.size 5 1 (.slice a3 ds.length c3) ds.length (bv ds) := by rw [← hW5]; exact own_set (own_set hI.r3 hI.lt) hI.lt
                  have q4 : W5.ownsRow w2.heap.size 64 2 (.slice a4 M.length c4) M.length (nmv M) := by rw [← hW5]; exact own_set (own_set hI.r4 hI.lt) hI.lt
                  have hbW : Below w.heap.size w W5 := by
                    rw [← hW5]
                    have k5 : Kp (fun i => i = w.heap.size + 1 + 1) w2 ((wr.setCell ⟨w.heap.size + 1 + 1, 3, none⟩ (.int .u32 (z : Nat))).setCell ⟨w.heap.size + 1 + 1, 4, none⟩ (.int .u32 (st : Nat))) := (hKp.trans (Kp.setCell (S := fun i => i = w.heap.size + 1 + 1) wr _ _ rfl) (fun _ _ q => q)).trans (Kp.setCell (S := fun i => i = w.heap.size + 1 + 1) _ _ _ rfl) (fun _ _ q => q)
                    exact hb2.trans (k5.below hb2.size (fun i e => by omega))
                  have HF := hidS (And.intro q1 (And.intro q2 (And.intro q3 (And.intro q4 (And.intro oR5 hbW)))))
                  have HW5 := hidS hW5
                  have hs3 : w.heap.size ≤ w2.heap.size := by omega
                  clear hI hKp hRo oR q1 q2 q3 q4 hbW hW5 oR5
                  go_wp2_with (first
                    | (rw [HW5.out]; refine wpList_store_rowV rfl _ _ _ rfl (w.heap.size + 1) _ (imC a1 L.length c1 a2 J.length c2 a3 ds.length c3 z st a4 M.length c4) rfl rfl HF.out.2.2.2.2.1 (by rw [sizeVIm]; rfl) rfl (by simp [Value.oneCell']) ?_)
                    | (refine wpList_store_rowV rfl _ _ _ rfl (w.heap.size + 1) _ (imC a1 L.length c1 a2 J.length c2 a3 ds.length c3 z st a4 M.length c4) rfl rfl HF.out.2.2.2.2.1 (by rw [sizeVIm]; rfl) rfl (by simp [Value.oneCell']) ?_))
                  have HN := hidS (setRow_heap W5 (w.heap.size + 1) _ (imC a1 L.length c1 a2 J.length c2 a3 ds.length c3 z st a4 M.length c4) _ _ HF.out.2.2.2.2.1)
                  refine bodyPost_ret (resVIm (p := 2) (by kernel_rfl) _ (w.heap.size + 1) (imC a1 L.length c1 a2 J.length c2 a3 ds.length c3 z st a4 M.length c4) rfl HN.out _ rfl) rfl ?_
                  obtain ⟨q1, q2, q3, q4, oR5, hbW⟩ := HF.out
                  exact ⟨a1, c1, a2, c2, a3, c3, a4, c4, rfl, ⟨own_capY q1, own_capY q2, own_capY q3, own_capY q4, fun _ => own_rowg oR5 (own_monoV q1 hs3) (by decide), fun _ => own_rowg oR5 (own_monoV q2 hs3) (by decide), fun _ => own_rowg oR5 (own_monoV q3 hs3) (by decide), fun _ => own_rowg oR5 (own_monoV q4 hs3) (by decide)⟩, below_setRow hbW (Nat.le_add_right _ _) _⟩
end Go.Proofs.YtgbpfejodpplbaaGreatDoor
