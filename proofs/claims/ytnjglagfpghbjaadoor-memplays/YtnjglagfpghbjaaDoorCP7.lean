import Derived.Test.YtnjglagfpghbjaaDoorCP6
import Derived.Test.YtnjglagfpghbjaaDoorCP4
namespace Go.Proofs.YtnjglagfpghbjaaDoor
open Go.RowKit Go.WideShapes
set_option maxRecDepth 100000

set_option maxHeartbeats 4000000 in
theorem apartT_any (lo : Option Addr) (lc n B : Nat) (vals : Nat → Value) (Z : Nat → List (Int × Bool)) (w : World) (hn : n ≤ 5800000000000) (hl : ∀ i, i < n → (Z i).length ≤ 67108864) (hB : B ≤ w.heap.size) (hO : OwnX w B lo lc n vals Z) :
    Calls Tryd.prog 23 #[.slice lo n lc] w fun e w' => e = .returned (.bool true) ∧ Touch n vals w w' := by
  obtain ⟨i0, hi, hz0, hz1, hz2⟩ := info_parts infoT
  obtain ⟨j0, hj, hy0, hy1, hy2⟩ := info_parts infoTL
  have HV : Hid (∀ i, i < n → ∃ a c, vals i = .slice a (Z i).length c) := fun i hi => own_form0' (hO.each i hi)
  have HL : Hid (∀ i, i < n → (Z i).length ≤ 67108864) := hl
  clear hl
  go_enter Tryd.func23, Tryd.ntmps23
  go_wp2_with fail
  go_loopw [3] (fun i wr => ∃ (k : Nat) (Y : Nat → List (Int × Bool)), k ≤ n ∧ i = .int .i64 k ∧ (∀ j, j < n → (Y j).length = (Z j).length) ∧ (∀ j, j < k → Y j = mks (j + 1) (Z j).length) ∧ OwnX wr B lo lc n vals Y ∧ Touch n vals w wr)
    (fun i _ => n - (intOf i).toNat)
  case atStart => exact ⟨0, Z, Nat.zero_le _, rfl, fun _ _ => rfl, fun j hj => absurd hj (Nat.not_lt_zero _), hO, Touch.refl _ _ _⟩
  case round =>
    clear hO
    obtain ⟨k, Y, hk, rfl, hYl, hYm, hO, hT⟩ := hrel
    by_cases hlt : k < n
    · obtain ⟨g0, rfl⟩ := own_pos' hO.row (by omega)
      obtain ⟨ak, ck, hvk⟩ := HV.out k hlt
      have hlk := HL.out k hlt
      have HYl : Hid (∀ j, j < n → (Y j).length = (Z j).length) := hYl
      have HYm : Hid (∀ j, j < k → Y j = mks (j + 1) (Z j).length) := hYm
      have HVK : Hid (vals k = .slice ak (Z k).length ck) := hvk
      have hlI : (k : Int) < (n : Int) := by omega
      clear hYl hYm hvk
      go_wp2_with fail
      go_loopw [4] (fun i wi => ∃ e : Nat, e ≤ (Z k).length ∧ i = .int .i64 e ∧ OwnX wi B (some ⟨g0, 0, none⟩) lc n vals (updX Y k (mks (k + 1) e ++ (Y k).drop e)) ∧ Touch n vals w wi)
        (fun i _ => (Z k).length - (intOf i).toNat)
      case atStart => exact ⟨0, Nat.zero_le _, rfl, by
        have e : updX Y k (mks (k + 1) 0 ++ (Y k).drop 0) = Y := by funext j; by_cases h : j = k <;> simp [updX, h, mks]
        rw [e]; exact hO, hT⟩
      case round =>
        clear hO hT
        obtain ⟨e, he, rfl, hO, hT⟩ := hrel
        have hc0 := own_at hO.row hlt
        rw [HVK.out] at hc0
        by_cases hlt2 : e < (Z k).length
        · have hown := hO.each k hlt
          rw [updC_same, HVK.out] at hown
          have hln : (mks (k + 1) e ++ (Y k).drop e).length = (Z k).length := by
            have := HYl.out k hlt
            simp [mks_len]; omega
          rw [hln] at hown
          obtain ⟨gk, rfl⟩ := own_pos' hown (by omega)
          obtain ⟨m1, hm1⟩ : ∃ m1 : Int, (mkC (k + 1) e).1 = m1 := ⟨_, rfl⟩
          have hm2 : (mkC (k + 1) e).2 = false := rfl
          have hset := msetX (k + 1) (Y k) e (by rw [HYl.out k hlt]; exact hlt2)
          obtain ⟨c0, c1⟩ := tvv_getD (mks (k + 1) e ++ (Y k).drop e) e (by rw [hln]; exact hlt2)
          rw [hm1, hm2] at hset
          have x0 := hown.cells (g := gk) rfl _ _ c0
          have x1 := hown.cells (g := gk) rfl _ _ c1
          rw [Go.WideShapes.add_plain, Nat.zero_add] at x0 x1
          have y0 := hown.frozenAt (e * 2)
          have y1 := hown.frozenAt (e * 2 + 1)
          obtain ⟨R1, G1⟩ := hown.stored (e * 2) (.int .u32 m1)
          have hx1 : ((tvv (mks (k + 1) e ++ (Y k).drop e)).set (e * 2) (.int .u32 m1))[e * 2 + 1]? = some (.bool ((mks (k + 1) e ++ (Y k).drop e).getD e (0, false)).2) := by
            rw [List.getElem?_set_ne (by omega)]; exact c1
          have x2 := R1.cells (g := gk) rfl _ _ hx1
          rw [Go.WideShapes.add_plain, Nat.zero_add] at x2
          have y2 := R1.frozenAt (e * 2 + 1)
          obtain ⟨R2, G2⟩ := R1.stored (e * 2 + 1) (.bool false)
          rw [← hset] at R2
          have hblk : (vals k).ownBlock = some gk := by rw [HVK.out]; rfl
          have HO2 : Hid (OwnX ((wr.setCell ⟨gk, e * 2, none⟩ (.int .u32 m1)).setCell ⟨gk, e * 2 + 1, none⟩ (.bool false)) B (some ⟨g0, 0, none⟩) lc n vals (updX Y k (mks (k + 1) (e + 1) ++ (Y k).drop (e + 1)))) := by
            refine ⟨(hO.row.kept G1 ?_).kept G2 ?_, fun j hj => ?_, hO.apart⟩
            · have := rows_type (e := 40) (e' := 56) (by decide) hO.row hown
              simpa [Value.ownBlock] using this
            · have := rows_type (e := 40) (e' := 56) (by decide) hO.row hown
              simpa [Value.ownBlock] using this
            · by_cases hjk : j = k
              · subst hjk
                rw [updC_same, HVK.out, show (mks (j + 1) (e + 1) ++ (Y j).drop (e + 1)).length = (Z j).length by have := HYl.out j hj; simp [mks_len]; omega]
                exact R2
              · have h3 := hO.each j hj
                rw [updC_other _ _ hjk] at h3 ⊢
                have h4 := hO.apart j k hj hlt hjk
                rw [hblk] at h4
                exact (h3.kept G1 h4).kept G2 h4
          have HT2 : Hid (Touch n vals w ((wr.setCell ⟨gk, e * 2, none⟩ (.int .u32 m1)).setCell ⟨gk, e * 2 + 1, none⟩ (.bool false)))   := (hT.trans (Touch.of_grown hlt (by rw [hblk]; exact G1))).trans (Touch.of_grown hlt (by rw [hblk]; exact G2))
          have hgw : gk < wr.heap.size := (hown.lt gk rfl).2
          have hgw0 : g0 < wr.heap.size := (hO.row.lt g0 rfl).2
          generalize ((mks (k + 1) e ++ (Y k).drop e).getD e (0, false)).1 = q0 at x0
          generalize ((mks (k + 1) e ++ (Y k).drop e).getD e (0, false)).2 = q1 at x1 x2
          have hltI2 : (e : Int) < ((Z k).length : Int) := by omega
          have HW4 := hidS ((mk_md k e).trans hm1)
          clear hO hown hT R1 R2 G1 G2 hx1 c0 c1 hset hm1 hm2 hln hblk
          go_wp2_with fail
          rw [HW4.out]
          go_roundw
          case rel => exact ⟨e + 1, by omega, by go_num, HO2.out, HT2.out⟩
          case measure => simp [intOf]; omega
        · obtain rfl : e = (Z k).length := by omega
          have hltI2 : ¬ ((Z k).length : Int) < ((Z k).length : Int) := by omega
          have HO2 : Hid (OwnX wr B (some ⟨g0, 0, none⟩) lc n vals (updX Y k (mks (k + 1) (Z k).length))) := by
            have := hO
            rw [List.drop_of_length_le (by rw [HYl.out k hlt]; exact Nat.le_refl _), List.append_nil] at this
            exact this
          clear hO
          go_wp2_with fail
          go_roundw
          case rel =>
            refine ⟨k + 1, updX Y k (mks (k + 1) (Z k).length), by omega, by go_num, fun j hj => ?_, fun j hj => ?_, HO2.out, hT⟩
            · by_cases h : j = k
              · subst h; rw [updC_same, mks_len]
              · rw [updC_other _ _ h]; exact HYl.out j hj
            · by_cases h : j = k
              · subst h; rw [updC_same]
              · rw [updC_other _ _ h]; exact HYm.out j (by omega)
          case measure => simp [intOf]; omega
    · obtain rfl : k = n := by omega
      have hsz := hT.size
      have HB : Hid (∀ j, j < k → ∀ b, (vals j).ownBlock = some b → b < wr.heap.size ∧ B ≤ b) := fun j hj b hb => ⟨((hO.each j hj).lt b hb).2, ((hO.each j hj).lt b hb).1⟩
      have HAP : Hid (∀ i j, i < k → j < k → i ≠ j → (vals i).ownBlock = none ∨ (vals i).ownBlock ≠ (vals j).ownBlock) := hO.apart
      have HVV : Hid (∀ i, i < k → ∃ a c, vals i = .slice a (Z i).length c) := HV.out
      generalize wr = wo at *
      have hSt0 : StX wo B lo lc k vals (fun j => (Z j).length) 0 0 (fun _ => 0) (fun _ => 0) (.slice none 0 0) wo := by
        refine ⟨hO.row, World.ownsRow_nil _ _ _ _, ?_, fun b e => by simp [Value.ownBlock] at e, fun j _ hj => ?_, fun j hj => absurd hj (Nat.not_lt_zero _), fun j hj => absurd hj (Nat.not_lt_zero _), Touch.refl _ _ _⟩
        · cases hq : (Value.slice lo k lc).ownBlock <;> simp [Value.ownBlock]
        · have := hO.each j hj
          rwa [hYm j hj, mks_len] at this
      have HT0 : Hid (Touch k vals w wo) := hT
      have HSR : Hid (∀ j, j < k → wo.ownsRow B 56 2 (vals j) (Z j).length (tvv (mks (j + 1) (Z j).length))) := fun j hj => hSt0.rest j (Nat.zero_le _) hj
      have hlI : ¬ (k : Int) < (k : Int) := by omega
      clear hO hT hYl hYm HV
      go_wp2_with fail
      go_loopw [5, 6] (fun vgs i wr => ∃ (q : Nat) (gb gc : Nat → Nat), q ≤ k ∧ i = .int .i64 q ∧ StX wo B lo lc k vals (fun j => (Z j).length) q q gb gc vgs wr)
        (fun _ i _ => k - (intOf i).toNat)
      case atStart => exact ⟨0, _, _, Nat.zero_le _, rfl, hSt0⟩
      case round =>
        clear hSt0
        obtain ⟨q, gb, gc, hq, rfl, hSt⟩ := hrel
        by_cases hlt : q < k
        · obtain ⟨g0, rfl⟩ := own_pos' hSt.ls (by omega)
          obtain ⟨ak, ck, hvk⟩ := HVV.out q hlt
          have hlq := HL.out q hlt
          have hc0 := own_at hSt.ls hlt
          rw [hvk] at hc0
          have HVK : Hid (vals q = .slice ak (Z q).length ck) := hvk
          have hqI : (q : Int) < (k : Int) := by omega
          have hSt1 : StX wo B (some ⟨g0, 0, none⟩) lc k vals (fun j => (Z j).length) q (q + 1) gb gc u5 wr := by
            refine ⟨hSt.ls, hSt.gs, hSt.lg, hSt.gf, fun j h1 h2 => hSt.rest j (by omega) h2, fun j h1 b hb => ?_, hSt.new, hSt.tch⟩
            by_cases hj : j = q
            · subst hj
              have := hSt.rest j (Nat.le_refl _) hlt
              rw [HVK.out] at this hb
              have hak : ak = some ⟨b, 0, none⟩ := by
                rcases this.2 with ⟨e, hz⟩ | ⟨g, cap, cur, e, _⟩
                · rw [e] at hb; simp [Value.ownBlock] at hb
                · simp only [Value.slice.injEq] at e
                  rw [e.1] at hb ⊢
                  simp only [Value.ownBlock, Option.some.injEq] at hb
                  rw [hb]
              subst hak
              exact RowX.of_own this (by rw [List.take_length])
            · exact hSt.old j (by omega) b hb
          have hown0 := hSt.rest q (Nat.le_refl _) hlt
          rw [HVK.out] at hown0
          have hC0 : ∀ b, (Value.slice ak (Z q).length ck).ownBlock = some b → (∀ j, j < k → j ≠ q → (vals j).ownBlock ≠ some b) ∧ (∀ j, j < q → gb j ≠ b) ∧ ((vals q).ownBlock = some b ∨ wo.heap.size ≤ b) := by
            intro b hb
            have hb' : (vals q).ownBlock = some b := by rw [HVK.out]; exact hb
            refine ⟨fun j hj hne e => ?_, fun j hj e => ?_, .inl hb'⟩
            · rcases HAP.out j q hj hlt hne with h | h
              · rw [h] at e; cases e
              · rw [e, hb'] at h; exact h rfl
            · exact (hSt.new j hj).2 q hlt (by omega) (by rw [e]; exact hb')
          have HC0 : Hid (∀ b, (Value.slice ak (Z q).length ck).ownBlock = some b → (∀ j, j < k → j ≠ q → (vals j).ownBlock ≠ some b) ∧ (∀ j, j < q → gb j ≠ b) ∧ ((vals q).ownBlock = some b ∨ wo.heap.size ≤ b)) := hC0
          generalize u5 = vgs at *
          clear hSt hC0 hvk
          go_wp2_with fail
          go_loopw [7, 8] (fun vg i wi => ∃ j : Nat, j ≤ 64 ∧ i = .int .i64 j ∧ wi.ownsRow B 56 2 vg ((Z q).length + j) (tvv (mks (q + 1) ((Z q).length + j))) ∧ (∀ b, vg.ownBlock = some b → (∀ j, j < k → j ≠ q → (vals j).ownBlock ≠ some b) ∧ (∀ j, j < q → gb j ≠ b) ∧ ((vals q).ownBlock = some b ∨ wo.heap.size ≤ b)) ∧ StX wo B (some ⟨g0, 0, none⟩) lc k vals (fun j => (Z j).length) q (q + 1) gb gc vgs wi)
            (fun _ i _ => 64 - (intOf i).toNat)
          case atStart => exact ⟨0, by omega, rfl, hown0, HC0.out, hSt1⟩
          case round =>
            clear hown0 HC0 hSt1 hc0
            obtain ⟨j, hj64, rfl, hown, hC, hSt⟩ := hrel
            have HC : Hid (∀ b, u7.ownBlock = some b → (∀ j, j < k → j ≠ q → (vals j).ownBlock ≠ some b) ∧ (∀ j, j < q → gb j ≠ b) ∧ ((vals q).ownBlock = some b ∨ wo.heap.size ≤ b)) := hC
            clear hC
            have hc0 := own_at hSt.ls hlt
            rw [HVK.out] at hc0
            have hsw := hSt.tch.size
            have hBw : B ≤ wr.heap.size := by omega
            by_cases hlt2 : j < 64
            · have HM1 := hidS (mk_md2 q (Z q).length j)
              obtain ⟨m1, hm1⟩ : ∃ m1 : Int, (mkC (q + 1) ((Z q).length + j)).1 = m1 := ⟨_, rfl⟩
              have HMS : Hid (tvv (mks (q + 1) ((Z q).length + j + 1)) = tvv (mks (q + 1) ((Z q).length + j)) ++ [.int .u32 ((1000003 * ((q : Int) + 1) + ((Z q).length : Int) + (j : Int)) % 4294967296), .bool false]) := by
                rw [Hid, mks_succ, tvv_append, tvv_one, HM1.out]; rfl
              clear hm1 HM1
              have hg0w : g0 < wr.heap.size := (hSt.ls.lt g0 rfl).2
              go_wp2_with (at_builtin; refine wpList_append_keepX rfl _ _ rfl B i0 hi hz0 hz1 hz2 _ _ _ rfl (hown.alloc _) ⟨_, 0, none⟩ 1 [.int .u32 ((1000003 * ((q : Int) + 1) + ((Z q).length : Int) + (j : Int)) % 4294967296), .bool false] rfl rfl ?c1 ?c2 ?c4 ?c5 ?_)
              case c1 =>
                intro j u hj
                match j, hj with
                | 0, hj => simp at hj; subst hj; simp [Addr.add]
                | 1, hj => simp at hj; subst hj; simp [Addr.add]
              case c2 => intro u hu; simp at hu; rcases hu with rfl | rfl <;> rfl
              case c4 => omega
              case c5 => simp; omega
              intro g5 cap5 w5 hown5 hor
              rw [← HMS.out] at hown5
              have hfin : (∀ b, (Value.slice (some ⟨g5, 0, none⟩) ((Z q).length + j + 1) cap5).ownBlock = some b → (∀ j, j < k → j ≠ q → (vals j).ownBlock ≠ some b) ∧ (∀ j, j < q → gb j ≠ b) ∧ ((vals q).ownBlock = some b ∨ wo.heap.size ≤ b)) ∧ StX wo B (some ⟨g0, 0, none⟩) lc k vals (fun j => (Z j).length) q (q + 1) gb gc vgs w5 := by
                rcases hor with ⟨he, hg⟩ | ⟨he, hg⟩
                · obtain ⟨h1, h2, h3⟩ := HC.out g5 he
                  obtain ⟨g6, c6, hv6⟩ : ∃ g6 c6, u7 = .slice (some ⟨g6, 0, none⟩) ((Z q).length + j) c6 := by
                    rcases hown.2 with ⟨e, _⟩ | ⟨g, cap, cur, e, _⟩
                    · rw [e] at he; simp [Value.ownBlock] at he
                    · exact ⟨g, cap, e⟩
                  subst hv6
                  have : g6 = g5 := by simpa [Value.ownBlock] using he
                  subst this
                  exact ⟨fun b hb => by have : g6 = b := by simpa [Value.ownBlock] using hb
                                        subst this; exact ⟨h1, h2, h3⟩, hSt.place hlt hown hg hown5 (by show (Z q).length ≤ _; omega) h1 h2 h3⟩
                · refine ⟨fun b hb => ?_, hSt.same hg⟩
                  have hbe : g5 = b := by simpa [Value.ownBlock] using hb
                  subst hbe
                  rw [he]
                  refine ⟨fun j hj _ e => ?_, fun j hj e => ?_, .inr (by first | omega | (simp; omega))⟩
                  · have := (HB.out j hj _ e).1
                    first | omega | (simp at this; omega)
                  · have := (hSt.new j hj).1.lt
                    rw [e] at this
                    first | omega | (simp at this; omega)
              clear hor hown hSt
              go_wp2_with fail
              go_roundw
              case rel => exact ⟨j + 1, by omega, by go_num, hown5, hfin.1, hfin.2⟩
              case measure => simp [intOf]; omega
            · obtain rfl : j = 64 := by omega
              obtain ⟨g5, c5, rfl, hc5⟩ := own_form hown (by omega)
              obtain ⟨h1, h2, _⟩ := HC.out g5 rfl
              go_wp2_with (at_builtin; refine wpList_append_lies _ rfl _ _ 28 rfl B 40 j0 (.slice none 0 0) 1 24 Tryd.underlying28 hj hy0 hy1 hy2 rfl (by decide) _ _ _ rfl (hSt.gs.alloc _) ⟨_, 0, none⟩ 1 1 [.slice (some ⟨g5, 0, none⟩) ((Z q).length + 64) c5] rfl rfl ?d1 ?d2 (by decide) ?d3 ?d4 ?d5 (wr.heap.size + 1) (by simp) ?_)
              case d1 =>
                intro j u hj
                match j, hj with
                | 0, hj => simp at hj; subst hj; simp [Addr.add]
              case d2 => intro u hu; simp at hu; subst hu; rfl
              case d3 => unfold maxLen; omega
              case d4 => omega
              case d5 => simp; omega
              intro g6 cap6 w6 hown6 hgrow hor _
              have hSt2 : StX wo B (some ⟨g0, 0, none⟩) lc k vals (fun j => (Z j).length) (q + 1) (q + 1) (fun j => if j = q then g5 else gb j) (fun j => if j = q then c5 else gc j) (.slice (some ⟨g6, 0, none⟩) (q + 1) cap6) w6 := by
                refine ⟨(hSt.ls.alloc _).kept hgrow hSt.lg, ?_, ?_, fun b hb => ?_, fun j ha hb => ((hSt.rest j ha hb).alloc _).kept hgrow (rows_type (e := 56) (e' := 40) (by decide) (hSt.rest j ha hb) hSt.gs), fun j ha b hb => (hSt.old j ha b hb).grown hgrow ((hSt.old j ha b hb).type (by decide) hSt.gs), fun j ha => ?_, hSt.tch.alloc_grown hgrow (fun b hb => .inr (hSt.gf b hb))⟩
                · have e : (List.range (q + 1)).map (gvalX (fun j => (Z j).length) (fun j => if j = q then g5 else gb j) (fun j => if j = q then c5 else gc j)) = (List.range q).map (gvalX (fun j => (Z j).length) gb gc) ++ [.slice (some ⟨g5, 0, none⟩) ((Z q).length + 64) c5] := by
                    rw [List.range_succ, List.map_append]
                    congr 1
                    · refine List.map_congr_left fun j hj => ?_
                      have : ¬ j = q := by have := List.mem_range.1 hj; omega
                      simp [gvalX, this]
                    · simp [gvalX]
                  rw [e]; exact hown6
                · rcases hor with h | h
                  · have e := hSt.lg
                    rw [h] at e; exact e
                  · right
                    intro e
                    have : g0 = g6 := by simpa [Value.ownBlock] using e
                    have h' := (hSt.ls.lt g0 rfl).2
                    omega
                · have hbe : g6 = b := by simpa [Value.ownBlock] using hb
                  subst hbe
                  rcases hor with h | h
                  · exact hSt.gf _ h
                  · omega
                · by_cases hj : j = q
                  · subst hj
                    simp only [if_true]
                    refine ⟨RowX.of_own ((hown.alloc _).kept hgrow (rows_type (e := 56) (e' := 40) (by decide) hown hSt.gs)) (by rw [List.take_length]), fun i hi hne => h1 i hi hne⟩
                  · simp only [if_neg hj]
                    have hn := hSt.new j (by omega)
                    exact ⟨hn.1.grown hgrow (hn.1.type (by decide) hSt.gs), hn.2⟩
              clear hown hSt hgrow hor hown6 HC
              go_wp2_with fail
              go_roundw
              case rel => exact ⟨q + 1, _, _, by omega, by go_num, hSt2⟩
              case measure => simp [intOf]; omega
        · obtain rfl : q = k := by omega
          have HT1 : Hid (Touch q vals w wr) := HT0.out.trans hSt.tch
          have hlI2 : ¬ (q : Int) < (q : Int) := by omega
          obtain ⟨ag, cg, hvg⟩ := own_form0' hSt.gs
          subst hvg
          have HS : Hid (StX wo B lo lc q vals (fun j => (Z j).length) q q gb gc (.slice ag q cg) wr) := hSt
          clear hSt
          generalize wr = wz at *
          go_wp2_with fail
          go_loopw [9] (fun i wi => ∃ a : Nat, a ≤ q ∧ i = .int .i64 a ∧ Below wz.heap.size wz wi) (fun i _ => q - (intOf i).toNat)
          case atStart => exact ⟨0, Nat.zero_le _, rfl, Below.refl _ _⟩
          case round =>
            obtain ⟨a, ha, rfl, hbz⟩ := hrel
            by_cases hlt : a < q
            · obtain ⟨g0, rfl⟩ := own_pos' HS.out.ls (by omega)
              obtain ⟨gg, rfl⟩ := own_pos' HS.out.gs (by omega)
              obtain ⟨ak, ck, hvk⟩ := HVV.out a hlt
              have hla := HL.out a hlt
              have hcl := own_at HS.out.ls hlt
              have hcg := own_at HS.out.gs hlt
              have hg0 := (HS.out.ls.lt g0 rfl).2
              have hgg := (HS.out.gs.lt gg rfl).2
              rw [hvk] at hcl
              simp only [gvalX] at hcg
              have haI : (a : Int) < (q : Int) := by omega
              have HN : Hid (gb a < wz.heap.size ∧ ∀ i, i < (Z a).length + 64 → wz.cell? ⟨gb a, i * 2, none⟩ = some (.int .u32 (mkC (a + 1) i).1) ∧ wz.cell? ⟨gb a, i * 2 + 1, none⟩ = some (.bool (mkC (a + 1) i).2)) := ⟨(HS.out.new a hlt).1.lt, fun i hi => by
                have := (HS.out.new a hlt).1.cell (i := i) (by rw [mks_len]; exact hi)
                rw [mks_getD _ _ _ hi] at this
                exact this⟩
              have HOl : Hid (∀ i, i < (Z a).length → ∃ b, ak = some ⟨b, 0, none⟩ ∧ b < wz.heap.size ∧ wz.cell? ⟨b, i * 2, none⟩ = some (.int .u32 (mkC (a + 1) i).1) ∧ wz.cell? ⟨b, i * 2 + 1, none⟩ = some (.bool (mkC (a + 1) i).2)) := fun i hi => by
                have hak : ∃ b, ak = some ⟨b, 0, none⟩ ∧ (vals a).ownBlock = some b := by
                  have hh := HSR.out a hlt
                  rw [hvk] at hh ⊢
                  obtain ⟨b, rfl⟩ := own_pos' hh (by omega)
                  exact ⟨b, rfl, rfl⟩
                obtain ⟨b, e1, e2⟩ := hak
                have := (HS.out.old a hlt b e2).cell (i := i) (by rw [mks_len]; exact hi)
                rw [mks_getD _ _ _ hi] at this
                exact ⟨b, e1, (HS.out.old a hlt b e2).lt, this⟩
              clear hvk
              generalize gb a = gba at *
              generalize gc a = gca at *
              have hclr := (hbz.cell (p := ⟨g0, a, none⟩) hg0).trans hcl
              have hcgr := (hbz.cell (p := ⟨gg, a, none⟩) hgg).trans hcg
              go_wp2_with fail
              go_loopw [10] (fun i wi => ∃ e : Nat, e ≤ (Z a).length + 64 ∧ i = .int .i64 e ∧ Below wz.heap.size wz wi) (fun i _ => (Z a).length + 64 - (intOf i).toNat)
              case atStart => exact ⟨0, Nat.zero_le _, rfl, hbz⟩
              case round =>
                clear hbz hclr hcgr
                obtain ⟨e, he, rfl, hbz⟩ := hrel
                have hclr := (hbz.cell (p := ⟨g0, a, none⟩) hg0).trans hcl
                have hcgr := (hbz.cell (p := ⟨gg, a, none⟩) hgg).trans hcg
                have hszz := hbz.size
                by_cases hlt2 : e < (Z a).length + 64
                · obtain ⟨hn1, hn2⟩ := HN.out
                  obtain ⟨hn3, hn4⟩ := hn2 e hlt2
                  have hmd := mk_md a e
                  rw [← hmd] at hn3
                  have hm2 : (mkC (a + 1) e).2 = false := rfl
                  rw [hm2] at hn4
                  have heI : (e : Int) < ((Z a).length : Int) + 64 := by omega
                  by_cases hlt3 : e < (Z a).length
                  · obtain ⟨b, rfl, hb1, hb2, hb3⟩ := HOl.out e hlt3
                    rw [← hmd] at hb2
                    rw [hm2] at hb3
                    have d3 : decide ((e : Int) < ((Z a).length : Int)) = true := by simp; omega
                    have heI3 : (e : Int) < ((Z a).length : Int) := by omega
                    clear hn2 hmd hm2
                    go_wp2_with fail
                    have hb5 : Below wz.heap.size wz (wr.alloc (.cells #[.int .u32 ((1000003 * ((a : Int) + 1) + (e : Int)) % 4294967296), .bool false] 56)) := hbz.trans (((Below.refl _ _).alloc (Nat.le_refl _) _).mono hbz.size)
                    have v0 : (wr.alloc (.cells #[.int .u32 ((1000003 * ((a : Int) + 1) + (e : Int)) % 4294967296), .bool false] 56)).cell? ⟨wr.heap.size, 0, none⟩ = some (.int .u32 ((1000003 * ((a : Int) + 1) + (e : Int)) % 4294967296)) := (obj_cell (heap_alloc_new wr _) 0).trans rfl
                    have v1 : (wr.alloc (.cells #[.int .u32 ((1000003 * ((a : Int) + 1) + (e : Int)) % 4294967296), .bool false] 56)).cell? ⟨wr.heap.size, 1, none⟩ = some (.bool false) := (obj_cell (heap_alloc_new wr _) 1).trans rfl
                    have v2 := (hb5.cell (p := ⟨g0, a, none⟩) hg0).trans hcl
                    have v3 := (hb5.cell (p := ⟨gg, a, none⟩) hgg).trans hcg
                    have v4 := (hb5.cell (p := ⟨gba, e * 2, none⟩) hn1).trans hn3
                    have v5 := (hb5.cell (p := ⟨gba, e * 2 + 1, none⟩) hn1).trans hn4
                    have v6 := (hb5.cell (p := ⟨b, e * 2, none⟩) hb1).trans hb2
                    have v7 := (hb5.cell (p := ⟨b, e * 2 + 1, none⟩) hb1).trans hb3
                    clear hb2 hb3
                    have HB5 := hidS hb5
                    clear hb5
                    generalize (wr.alloc (.cells #[.int .u32 ((1000003 * ((a : Int) + 1) + (e : Int)) % 4294967296), .bool false] 56)) = W at *
                    generalize ((1000003 * ((a : Int) + 1) + (e : Int)) % 4294967296) = m1 at *
                    go_quiet (fail)
                    go_wp2_with fail
                    go_roundw
                    case rel => exact ⟨e + 1, by omega, by go_num, below_drewN HB5.out _⟩
                    case measure => simp [intOf]; omega
                  · have d3 : decide ((e : Int) < ((Z a).length : Int)) = false := by simp; omega
                    clear hn2 hmd hm2
                    go_wp2_with fail
                    have hb5 : Below wz.heap.size wz (wr.alloc (.cells #[.int .u32 ((1000003 * ((a : Int) + 1) + (e : Int)) % 4294967296), .bool false] 56)) := hbz.trans (((Below.refl _ _).alloc (Nat.le_refl _) _).mono hbz.size)
                    have v0 : (wr.alloc (.cells #[.int .u32 ((1000003 * ((a : Int) + 1) + (e : Int)) % 4294967296), .bool false] 56)).cell? ⟨wr.heap.size, 0, none⟩ = some (.int .u32 ((1000003 * ((a : Int) + 1) + (e : Int)) % 4294967296)) := (obj_cell (heap_alloc_new wr _) 0).trans rfl
                    have v1 : (wr.alloc (.cells #[.int .u32 ((1000003 * ((a : Int) + 1) + (e : Int)) % 4294967296), .bool false] 56)).cell? ⟨wr.heap.size, 1, none⟩ = some (.bool false) := (obj_cell (heap_alloc_new wr _) 1).trans rfl
                    have v2 := (hb5.cell (p := ⟨g0, a, none⟩) hg0).trans hcl
                    have v3 := (hb5.cell (p := ⟨gg, a, none⟩) hgg).trans hcg
                    have v4 := (hb5.cell (p := ⟨gba, e * 2, none⟩) hn1).trans hn3
                    have v5 := (hb5.cell (p := ⟨gba, e * 2 + 1, none⟩) hn1).trans hn4
                    have HB5 := hidS hb5
                    clear hb5
                    generalize (wr.alloc (.cells #[.int .u32 ((1000003 * ((a : Int) + 1) + (e : Int)) % 4294967296), .bool false] 56)) = W at *
                    generalize ((1000003 * ((a : Int) + 1) + (e : Int)) % 4294967296) = m1 at *
                    go_quiet (fail)
                    go_wp2_with fail
                    go_roundw
                    case rel => exact ⟨e + 1, by omega, by go_num, below_drewN HB5.out _⟩
                    case measure => simp [intOf]; omega
                · have heI : ¬ (e : Int) < ((Z a).length : Int) + 64 := by omega
                  go_wp2_with fail
                  go_roundw
                  case rel => exact ⟨a + 1, by omega, by go_num, hbz⟩
                  case measure => simp [intOf]; omega
            · have haI : ¬ (a : Int) < (q : Int) := by omega
              go_wp2_with fail
              go_ret
              exact ⟨rfl, HT1.out.trans (Touch.of_below hbz)⟩
end Go.Proofs.YtnjglagfpghbjaaDoor
namespace Go.Proofs.YtnjglagfpghbjaaDoor
open Go.RowKit Go.WideShapes
set_option maxRecDepth 100000

/-- a thing in memory, whose blocks are all of F -/
structure Pc where
  h : (Nat → Prop) → World → Prop
  fr : ∀ (F G S : Nat → Prop) (W W' : World), h F W → Kp S W W' → (∀ k, k < W.heap.size → F k → ¬ S k ∧ G k) → h G W'
/-- the document's segment with its log, whose blocks are all of F -/
def RefF (F : Nat → Prop) (lg : Bool) (w : World) (a : Nat) (bs : List Int) (ts : List (Int × Bool)) : Prop := ∃ g cap tv, RefS w a g cap bs lg tv ts ∧ ∀ k, Foot a g tv k → F k
def noP : Pc := ⟨fun _ _ => True, fun _ _ _ _ _ _ _ _ => trivial⟩
def objP (o : Nat) (cs : Array Value) (t : TypeId) : Pc := ⟨fun F W => W.heap[o]? = some (.cells cs t (0, 0)) ∧ F o, fun _ _ _ _ _ h hk hs => by
  have hl := (Array.getElem?_eq_some_iff.1 h.1).1
  exact ⟨(hk.block o hl (hs o hl h.2).1).trans h.1, (hs o hl h.2).2⟩⟩
def rowP (e sz : Nat) (v : Value) (n : Nat) (xs : List Value) : Pc := ⟨fun F W => W.ownsRow 0 e sz v n xs ∧ ∀ k, v.ownBlock = some k → F k, fun _ _ _ _ _ h hk hs =>
  ⟨hk.own h.1 (fun k hv => (hs k (h.1.lt k hv).2 (h.2 k hv)).1), fun k hv => (hs k (h.1.lt k hv).2 (h.2 k hv)).2⟩⟩
def outP (w0 : World) : Pc := ⟨fun F W => Below w0.heap.size w0 W ∧ ∀ k, k < w0.heap.size → F k, fun _ _ _ _ _ h hk hs =>
  ⟨⟨hk.os.trans h.1.os, hk.tape.trans h.1.tape, hk.output.trans h.1.output, Nat.le_trans h.1.size hk.size, fun k hl => (hk.block k (Nat.lt_of_lt_of_le hl h.1.size) (hs k (Nat.lt_of_lt_of_le hl h.1.size) (h.2 k hl)).1).trans (h.1.block k hl)⟩,
   fun k hl => (hs k (Nat.lt_of_lt_of_le hl h.1.size) (h.2 k hl)).2⟩⟩
def segP (lg : Bool) (a : Nat) (bs : List Int) (ts : List (Int × Bool)) : Pc := ⟨fun F W => SegF F lg W a bs ts, fun _ _ _ _ _ ⟨g, cap, tv, h1, h3⟩ hk hs =>
  ⟨g, cap, tv, h1.kept hk (fun k hF => (hs k (h1.lt k hF) (h3 k hF)).1), fun k hF => (hs k (h1.lt k hF) (h3 k hF)).2⟩⟩
def refP (lg : Bool) (a : Nat) (bs : List Int) (ts : List (Int × Bool)) : Pc := ⟨fun F W => RefF F lg W a bs ts, fun _ _ _ _ _ ⟨g, cap, tv, h1, h3⟩ hk hs =>
  ⟨g, cap, tv, h1.kept hk (fun k hF => (hs k (h1.lt k hF) (h3 k hF)).1), fun k hF => (hs k (h1.lt k hF) (h3 k hF)).2⟩⟩
/-- all things that are held, each with blocks of its own -/
abbrev Col := Nat × Nat
def Stt (W : World) (M : Col → Pc) : Prop := ∃ col : Nat → Col, ∀ d, (M d).h (fun k => col k = d) W
def upd (M : Col → Pc) (c : Col) (p : Pc) : Col → Pc := fun d => if d = c then p else M d
theorem upd_eq (M : Col → Pc) (c : Col) (p : Pc) : upd M c p c = p := by simp [upd]
theorem upd_ne {M : Col → Pc} {c d : Col} {p : Pc} (h : d ≠ c) : upd M c p d = M d := by simp [upd, h]
/-- one thing is changed, what is new may be its own -/
theorem stt_one {W W' : World} {M : Col → Pc} {col : Nat → Col} {c : Col} {p : Pc} (h : ∀ d, (M d).h (fun k => col k = d) W) (hp : p.h (fun k => k < W.heap.size → col k = c) W') (hk : Kp (fun k => k < W.heap.size → col k = c) W W') : Stt W' (upd M c p) := by
  refine ⟨fun k => if k < W.heap.size then col k else c, fun d => ?_⟩
  by_cases hd : d = c
  · subst hd
    rw [upd_eq]
    refine p.fr _ _ (fun _ => False) _ _ hp (Kp.refl _ _) (fun k _ hF => ⟨id, ?_⟩)
    by_cases hl : k < W.heap.size
    · simp only [hl, if_true]; exact hF hl
    · simp [hl]
  · rw [upd_ne hd]
    refine (M d).fr _ _ _ _ _ (h d) hk (fun k hl hF => ⟨fun hn => hd (hF.symm.trans (hn hl)), ?_⟩)
    simp only [hl, if_true]; exact hF
/-- one thing is changed, and a second one comes out of it or is new -/
theorem stt_two {W W' : World} {M : Col → Pc} {col : Nat → Col} {c c2 : Col} {p q : Pc} {G : Nat → Prop} (h : ∀ d, (M d).h (fun k => col k = d) W) (hp : p.h (fun k => (k < W.heap.size → col k = c) ∧ ¬ G k) W') (hq : q.h (fun k => (k < W.heap.size → col k = c) ∧ G k) W') (hk : Kp (fun k => k < W.heap.size → col k = c) W W') (hc : c ≠ c2) : Stt W' (upd (upd M c p) c2 q) := by
  classical
  refine ⟨fun k => if (k < W.heap.size → col k = c) then (if G k then c2 else c) else col k, fun d => ?_⟩
  by_cases hd2 : d = c2
  · subst hd2
    rw [upd_eq]
    refine q.fr _ _ (fun _ => False) _ _ hq (Kp.refl _ _) (fun k _ hF => ⟨id, ?_⟩)
    simp only [if_pos hF.1, if_pos hF.2]
  rw [upd_ne hd2]
  by_cases hd : d = c
  · subst hd
    rw [upd_eq]
    refine p.fr _ _ (fun _ => False) _ _ hp (Kp.refl _ _) (fun k _ hF => ⟨id, ?_⟩)
    simp only [if_pos hF.1, if_neg hF.2]
  · rw [upd_ne hd]
    refine (M d).fr _ _ _ _ _ (h d) hk (fun k hl hF => ⟨fun hn => hd (hF.symm.trans (hn hl)), ?_⟩)
    simp only
    rw [if_neg (fun hn => hd (hF.symm.trans (hn hl)))]; exact hF
theorem stt_below {W W' : World} {M : Col → Pc} (h : Stt W M) (hb : Below W.heap.size W W') : Stt W' M := by
  obtain ⟨col, h⟩ := h
  exact ⟨col, fun d => (M d).fr _ _ (fun _ => False) _ _ (h d) (Kp.ofBelow hb) (fun k _ hF => ⟨id, hF⟩)⟩
theorem stt_drewN {W : World} {M : Col → Pc} (n : Nat) (h : Stt W M) : Stt (W.drewN n) M := stt_below h ⟨rfl, rfl, rfl, Nat.le_refl _, fun _ _ => rfl⟩
theorem stt_drew {W : World} {M : Col → Pc} (h : Stt W M) : Stt W.drew M := stt_below h ((Below.refl _ _).drew)
/-- a new thing -/
theorem stt_new {W W' : World} {M : Col → Pc} {c : Col} {p : Pc} (h : Stt W M) (hb : Below W.heap.size W W') (hp : p.h (fun k => W.heap.size ≤ k) W') : Stt W' (upd M c p) := by
  obtain ⟨col, h⟩ := h
  refine ⟨fun k => if k < W.heap.size then col k else c, fun d => ?_⟩
  by_cases hd : d = c
  · subst hd
    rw [upd_eq]
    refine p.fr _ _ (fun _ => False) _ _ hp (Kp.refl _ _) (fun k _ hF => ⟨id, ?_⟩)
    exact if_neg (Nat.not_lt.2 hF)
  · rw [upd_ne hd]
    refine (M d).fr _ _ (fun _ => False) _ _ (h d) (Kp.ofBelow hb) (fun k hl hF => ⟨id, ?_⟩)
    simp only [hl, if_true]; exact hF
theorem stt_drop {W : World} {M M' : Col → Pc} (h : Stt W M) (hd : ∀ d, M' d = M d ∨ M' d = noP) : Stt W M' := by
  obtain ⟨col, h⟩ := h
  refine ⟨col, fun d => ?_⟩
  rcases hd d with e | e
  · rw [e]; exact h d
  · rw [e]; trivial
/-- what is held of one thing -/
theorem stt_get {W : World} {M : Col → Pc} {c : Col} {p : Pc} (h : Stt W M) (hc : M c = p) : ∃ F, p.h F W := by
  obtain ⟨col, h⟩ := h
  exact ⟨_, hc ▸ h c⟩
theorem stt_obj {W : World} {M : Col → Pc} {c : Col} {o : Nat} {cs : Array Value} {t : TypeId} (h : Stt W M) (hc : M c = objP o cs t) : W.heap[o]? = some (.cells cs t (0, 0)) := (stt_get h hc).choose_spec.1
theorem stt_cell {W : World} {M : Col → Pc} {c : Col} {o : Nat} {cs : Array Value} {t : TypeId} (h : Stt W M) (hc : M c = objP o cs t) (i : Nat) (v : Value) (hv : cs[i]? = some v) : W.cell? ⟨o, i, none⟩ = some v := (obj_cell (stt_obj h hc) i).trans hv
theorem stt_row {W : World} {M : Col → Pc} {c : Col} {e sz n : Nat} {v : Value} {xs : List Value} (h : Stt W M) (hc : M c = rowP e sz v n xs) : W.ownsRow 0 e sz v n xs := (stt_get h hc).choose_spec.1
theorem stt_out {W w0 : World} {M : Col → Pc} {c : Col} (h : Stt W M) (hc : M c = outP w0) : Below w0.heap.size w0 W := (stt_get h hc).choose_spec.1
/-- a call on one thing -/
theorem stt_call {P : Program} {f : Nat} {args : Array Value} {W : World} {M : Col → Pc} {c : Col} {Q : Ending → Prop} {p p' : Pc} (hM : M c = p) (hS : Stt W M)
    (hc : ∀ F : Nat → Prop, p.h F W → (∀ k, W.heap.size ≤ k → F k) → Calls P f args W fun e w' => Q e ∧ p'.h F w' ∧ Kp F W w') : Calls P f args W fun e w' => Q e ∧ Hid (Stt w' (upd M c p')) := by
  obtain ⟨col, h⟩ := hS
  refine (hc (fun k => k < W.heap.size → col k = c) ?_ (fun k hk hl => by omega)).mono fun e w' ⟨he, hp, hk⟩ => ⟨he, stt_one h hp hk⟩
  exact p.fr _ _ (fun _ => False) _ _ (hM ▸ h c) (Kp.refl _ _) (fun k _ hF => ⟨id, fun _ => hF⟩)
/-- a call on one thing that gives a second one -/
theorem stt_call2 {P : Program} {f : Nat} {args : Array Value} {W : World} {M : Col → Pc} {c c2 : Col} {α : Type} {Q : α → Ending → Prop} {p : Pc} {p' q : α → Pc} (hM : M c = p) (hS : Stt W M) (hne : c ≠ c2)
    (hc : ∀ F : Nat → Prop, p.h F W → (∀ k, W.heap.size ≤ k → F k) → Calls P f args W fun e w' => ∃ x, Q x e ∧ (∃ G : Nat → Prop, (p' x).h (fun k => F k ∧ ¬ G k) w' ∧ (q x).h (fun k => F k ∧ G k) w') ∧ Kp F W w') : Calls P f args W fun e w' => ∃ x, Q x e ∧ Hid (Stt w' (upd (upd M c (p' x)) c2 (q x))) := by
  obtain ⟨col, h⟩ := hS
  refine (hc (fun k => k < W.heap.size → col k = c) ?_ (fun k hk hl => by omega)).mono fun e w' ⟨x, he, ⟨G, hp, hq⟩, hk⟩ => ⟨x, he, stt_two h hp hq hk hne⟩
  exact p.fr _ _ (fun _ => False) _ _ (hM ▸ h c) (Kp.refl _ _) (fun k _ hF => ⟨id, fun _ => hF⟩)
end Go.Proofs.YtnjglagfpghbjaaDoor
namespace Go.Proofs.YtnjglagfpghbjaaDoor
open Go.RowKit Go.WideShapes
set_option maxRecDepth 100000

/-- what a segment holds -/
structure Sg where
  bs : List Int
  lg : Bool
  ts : List (Int × Bool)
/-- a slot: the program's segment at a, the document's at r -/
structure Sl where
  a : Nat
  r : Nat
  g : Sg
def haveV : Option Sl → Value
  | none => .pointer none
  | some s => .pointer (some ⟨s.a, 0, none⟩)
def wantV : Option Sl → Value
  | none => .pointer none
  | some s => .pointer (some ⟨s.r, 0, none⟩)
def segO : Option Sl → Pc
  | none => noP
  | some s => segP s.g.lg s.a s.g.bs s.g.ts
def refO : Option Sl → Pc
  | none => noP
  | some s => refP s.g.lg s.r s.g.bs s.g.ts
def mapS (f : Sg → Sg) : Option Sl → Option Sl
  | none => none
  | some s => some ⟨s.a, s.r, f s.g⟩
def rdG (x n : Nat) (g : Sg) : Sg := ⟨g.bs, g.lg, lgL g.lg g.ts (tcs x n g.bs.length false)⟩
def stG (x n : Nat) (v : Int) (g : Sg) : Sg := ⟨wrL g.bs x ((by4 v).take n), g.lg, lgL g.lg g.ts (tcs x n g.bs.length true)⟩
def wrG (x : Nat) (zs : List Int) (g : Sg) : Sg := ⟨wrL g.bs x zs, g.lg, lgL g.lg g.ts (tcs x zs.length g.bs.length true)⟩
def cpG (to fr n : Nat) (g : Sg) : Sg := ⟨wrL g.bs to (rdL g.bs fr n), g.lg, lgL g.lg (lgL g.lg g.ts (tcs fr n g.bs.length false)) (tcs to n g.bs.length true)⟩
def ldV (x n : Nat) : Option Sl → Int
  | none => 0
  | some s => n4 (rdL s.g.bs x n)
theorem notmade_nil (w : World) : NotMade (.pointer none) w := made_nil w
theorem RefF.wf {F : Nat → Prop} {a : Nat} {lg : Bool} {bs : List Int} {ts : List (Int × Bool)} {w : World} : RefF F lg w a bs ts → ∀ z ∈ bs, 0 ≤ z ∧ z ≤ 255 := fun ⟨_, _, _, h1, _⟩ => h1.wf
theorem reff_after {F : Nat → Prop} {w w' : World} {a g cap : Nat} {bs' : List Int} {lg : Bool} {tv : Value} {ts' : List (Int × Bool)} (h3 : ∀ k, Foot a g tv k → F k) (hB : ∀ k, w.heap.size ≤ k → F k)
    (p : ∃ t2, RefS w' a g cap bs' lg t2 ts' ∧ (∀ j, t2.ownBlock = some j → tv.ownBlock = some j ∨ w.heap.size ≤ j) ∧ Kp (Foot a g tv) w w') : RefF F lg w' a bs' ts' ∧ Kp F w w' := by
  obtain ⟨t2, p1, p2, hk⟩ := p
  refine ⟨⟨g, cap, t2, p1, ?_⟩, hk.mono (fun i _ hi => h3 i hi)⟩
  rintro k (e | e | e)
  · exact h3 k (.inl e)
  · exact h3 k (.inr (.inl e))
  · rcases p2 k e with e | e
    · exact h3 k (.inr (.inr e))
    · exact hB k e
theorem ld1_h (S : Option Sl) (x : Nat) (F : Nat → Prop) (W : World) (h : (segO S).h F W) (hB : ∀ k, W.heap.size ≤ k → F k) (hx : x < 4294967296) :
    Calls Tryd.prog 36 #[haveV S, .int .u32 x] W fun e w' => e = .returned (.int .u32 (ldV x 1 S)) ∧ (segO (mapS (rdG x 1) S)).h F w' ∧ Kp F W w' := by
  cases S with
  | none => exact (nld1 _ _ W (notmade_nil W)).mono fun e w' ⟨he, hw⟩ => ⟨he, trivial, by rw [hw]; exact Kp.refl _ _⟩
  | some s => exact load1_lf F s.a x s.g.lg s.g.bs s.g.ts W h hB hx
theorem st1_h (S : Option Sl) (x v : Nat) (F : Nat → Prop) (W : World) (h : (segO S).h F W) (hB : ∀ k, W.heap.size ≤ k → F k) (hx : x < 4294967296) (hv : v < 4294967296) :
    Calls Tryd.prog 13 #[haveV S, .int .u32 x, .int .u32 v] W fun e w' => e = .returned (.tuple #[]) ∧ (segO (mapS (stG x 1 v) S)).h F w' ∧ Kp F W w' := by
  cases S with
  | none => exact (nst1 _ _ _ W (notmade_nil W)).mono fun e w' ⟨he, hw⟩ => ⟨he, trivial, by rw [hw]; exact Kp.refl _ _⟩
  | some s => exact store1_lf F s.a x v s.g.lg s.g.bs s.g.ts W h hB hx (by omega)
theorem ld2_h (S : Option Sl) (x : Nat) (F : Nat → Prop) (W : World) (h : (segO S).h F W) (hB : ∀ k, W.heap.size ≤ k → F k) (hx : x < 4294967296) :
    Calls Tryd.prog 38 #[haveV S, .int .u32 x] W fun e w' => e = .returned (.int .u32 (ldV x 2 S)) ∧ (segO (mapS (rdG x 2) S)).h F w' ∧ Kp F W w' := by
  cases S with
  | none => exact (nld2 _ _ W (notmade_nil W)).mono fun e w' ⟨he, hw⟩ => ⟨he, trivial, by rw [hw]; exact Kp.refl _ _⟩
  | some s => exact load2_lf F s.a x s.g.lg s.g.bs s.g.ts W h hB hx
theorem st2_h (S : Option Sl) (x v : Nat) (F : Nat → Prop) (W : World) (h : (segO S).h F W) (hB : ∀ k, W.heap.size ≤ k → F k) (hx : x < 4294967296) (hv : v < 4294967296) :
    Calls Tryd.prog 40 #[haveV S, .int .u32 x, .int .u32 v] W fun e w' => e = .returned (.tuple #[]) ∧ (segO (mapS (stG x 2 v) S)).h F w' ∧ Kp F W w' := by
  cases S with
  | none => exact (nst2 _ _ _ W (notmade_nil W)).mono fun e w' ⟨he, hw⟩ => ⟨he, trivial, by rw [hw]; exact Kp.refl _ _⟩
  | some s => exact store2_lf F s.a x v s.g.lg s.g.bs s.g.ts W h hB hx (by omega)
theorem ld4_h (S : Option Sl) (x : Nat) (F : Nat → Prop) (W : World) (h : (segO S).h F W) (hB : ∀ k, W.heap.size ≤ k → F k) (hx : x < 4294967296) :
    Calls Tryd.prog 39 #[haveV S, .int .u32 x] W fun e w' => e = .returned (.int .u32 (ldV x 4 S)) ∧ (segO (mapS (rdG x 4) S)).h F w' ∧ Kp F W w' := by
  cases S with
  | none => exact (nld4 _ _ W (notmade_nil W)).mono fun e w' ⟨he, hw⟩ => ⟨he, trivial, by rw [hw]; exact Kp.refl _ _⟩
  | some s => exact load4_lf F s.a x s.g.lg s.g.bs s.g.ts W h hB hx
theorem st4_h (S : Option Sl) (x v : Nat) (F : Nat → Prop) (W : World) (h : (segO S).h F W) (hB : ∀ k, W.heap.size ≤ k → F k) (hx : x < 4294967296) (hv : v < 4294967296) :
    Calls Tryd.prog 41 #[haveV S, .int .u32 x, .int .u32 v] W fun e w' => e = .returned (.tuple #[]) ∧ (segO (mapS (stG x 4 v) S)).h F w' ∧ Kp F W w' := by
  cases S with
  | none => exact (nst4 _ _ _ W (notmade_nil W)).mono fun e w' ⟨he, hw⟩ => ⟨he, trivial, by rw [hw]; exact Kp.refl _ _⟩
  | some s => exact store4_lf F s.a x v s.g.lg s.g.bs s.g.ts W h hB hx (by omega)
theorem ld_w (n : Nat) (h0 : 0 < n) (h4 : n ≤ 4) (S : Option Sl) (x : Nat) (F : Nat → Prop) (W : World) (h : (refO S).h F W) (hB : ∀ k, W.heap.size ≤ k → F k) (hx : x < 4294967296) :
    Calls Tryd.prog 37 #[wantV S, .int .u32 x, .int .i64 n] W fun e w' => e = .returned (.int .u32 (ldV x n S)) ∧ (refO (mapS (rdG x n) S)).h F w' ∧ Kp F W w' := by
  cases S with
  | none => exact (gn_load _ _ W).mono fun e w' ⟨he, hw⟩ => ⟨he, trivial, by rw [hw]; exact Kp.refl _ _⟩
  | some s =>
    obtain ⟨g, cap, tv, h1, h3⟩ := h
    exact (load_r s.r g cap x n s.g.lg s.g.bs tv s.g.ts W h1 hx h4 h0).mono fun e w' ⟨he, p⟩ => ⟨he, reff_after h3 hB p.out⟩
theorem st_w (n : Nat) (h0 : 0 < n) (h4 : n ≤ 4) (S : Option Sl) (x v : Nat) (F : Nat → Prop) (W : World) (h : (refO S).h F W) (hB : ∀ k, W.heap.size ≤ k → F k) (hx : x < 4294967296) (hv : v < 4294967296) :
    Calls Tryd.prog 14 #[wantV S, .int .u32 x, .int .u32 v, .int .i64 n] W fun e w' => e = .returned (.tuple #[]) ∧ (refO (mapS (stG x n v) S)).h F w' ∧ Kp F W w' := by
  cases S with
  | none => exact (gn_store _ _ _ W).mono fun e w' ⟨he, hw⟩ => ⟨he, trivial, by rw [hw]; exact Kp.refl _ _⟩
  | some s =>
    obtain ⟨g, cap, tv, h1, h3⟩ := h
    exact (store_r s.r g cap x n v s.g.lg s.g.bs tv s.g.ts W h1 hx h4 h0 (by omega)).mono fun e w' ⟨he, p⟩ => ⟨he, reff_after h3 hB p.out⟩
/-- Copy -/
def cpE (n : Nat) : Option Sl → Int
  | none => 1
  | some _ => if n ≤ 4096 then 0 else 92
def cpS (to fr n : Nat) (S : Option Sl) : Option Sl := if n ≤ 4096 then mapS (cpG to fr n) S else S
theorem cp_h (S : Option Sl) (to fr n : Nat) (F : Nat → Prop) (W : World) (h : (segO S).h F W) (hB : ∀ k, W.heap.size ≤ k → F k) (ht : to < 4294967296) (hf : fr < 4294967296) :
    Calls Tryd.prog 42 #[haveV S, .int .u32 to, .int .u32 fr, .int .u32 n] W fun e w' => e = .returned (.int .i64 (cpE n S)) ∧ (segO (cpS to fr n S)).h F w' ∧ Kp F W w' := by
  cases S with
  | none => exact (ncopy _ _ _ _ W (notmade_nil W)).mono fun e w' ⟨he, hw⟩ => ⟨he, by unfold cpS; split <;> trivial, by rw [hw]; exact Kp.refl _ _⟩
  | some s =>
    by_cases hn : n ≤ 4096
    · simp only [cpE, cpS, hn, if_true]
      exact copy_lf F s.a to fr n s.g.lg s.g.bs s.g.ts W h hB ht hf hn
    · simp only [cpE, cpS, hn, if_false]
      exact copy_llf F s.a n _ _ s.g.lg s.g.bs s.g.ts W h (by omega)
theorem cp_w (S : Option Sl) (to fr n : Nat) (F : Nat → Prop) (W : World) (h : (refO S).h F W) (hB : ∀ k, W.heap.size ≤ k → F k) (ht : to < 4294967296) (hf : fr < 4294967296) :
    Calls Tryd.prog 43 #[wantV S, .int .u32 to, .int .u32 fr, .int .u32 n] W fun e w' => e = .returned (.int .i64 (cpE n S)) ∧ (refO (cpS to fr n S)).h F w' ∧ Kp F W w' := by
  cases S with
  | none => exact (gn_copy _ _ _ W).mono fun e w' ⟨he, hw⟩ => ⟨he, by unfold cpS; split <;> trivial, by rw [hw]; exact Kp.refl _ _⟩
  | some s =>
    by_cases hn : n ≤ 4096
    · simp only [cpE, cpS, hn, if_true]
      obtain ⟨g, cap, tv, h1, h3⟩ := h
      exact (copy_r s.r g cap to fr n s.g.lg s.g.bs tv s.g.ts W h1 ht hf hn).mono fun e w' ⟨he, p⟩ => ⟨he, reff_after h3 hB p.out⟩
    · simp only [cpE, cpS, hn, if_false]
      exact (copy_rbad s.r n _ _ W (by omega)).mono fun e w' ⟨he, hw⟩ => ⟨he, by rw [hw]; exact h, by rw [hw]; exact Kp.refl _ _⟩
/-- Read -/
def rdE (N : Int) : Option Sl → Int
  | none => 1
  | some _ => if 0 ≤ N ∧ N ≤ 4096 then 0 else 92
def rdS (x : Nat) (N : Int) (S : Option Sl) : Option Sl := if 0 ≤ N ∧ N ≤ 4096 then mapS (rdG x N.toNat) S else S
def rdD (x : Nat) (N : Int) : Option Sl → List Int
  | none => []
  | some s => if 0 ≤ N ∧ N ≤ 4096 then rdL s.g.bs x N.toNat else []
def rowB (v : Value) (zs : List Int) : Pc := rowP 5 1 v zs.length (bv zs)
theorem nil_row (F : Nat → Prop) (W : World) : (rowB (.slice none 0 0) []).h F W := ⟨⟨rfl, .inl ⟨rfl, rfl⟩⟩, fun k e => by simp [Value.ownBlock] at e⟩
theorem seg_same {F : Nat → Prop} {W : World} {p : Pc} (h : p.h F W) : p.h (fun k => F k ∧ ¬ False) W := p.fr _ _ (fun _ => False) _ _ h (Kp.refl _ _) (fun _ _ hF => ⟨id, hF, id⟩)
theorem seg_split {F G : Nat → Prop} {W : World} {p : Pc} (h : p.h F W) (hG : ∀ k, F k → G k) : p.h G W := p.fr _ _ (fun _ => False) _ _ h (Kp.refl _ _) (fun k _ hF => ⟨id, hG k hF⟩)
theorem rd_h (S : Option Sl) (x : Nat) (N : Int) (F : Nat → Prop) (W : World) (h : (segO S).h F W) (hB : ∀ k, W.heap.size ≤ k → F k) (hx : x < 4294967296) :
    Calls Tryd.prog 44 #[haveV S, .int .u32 x, .int .i64 N] W fun e w' => ∃ v, e = .returned (.tuple #[v, .int .i64 (rdE N S)]) ∧ (∃ G : Nat → Prop, (segO (rdS x N S)).h (fun k => F k ∧ ¬ G k) w' ∧ (rowB v (rdD x N S)).h (fun k => F k ∧ G k) w') ∧ Kp F W w' := by
  cases S with
  | none => exact (nread _ _ _ W (notmade_nil W)).mono fun e w' ⟨he, hw⟩ => ⟨_, he, ⟨fun _ => False, by unfold rdS; split <;> trivial, nil_row _ _⟩, by rw [hw]; exact Kp.refl _ _⟩
  | some s =>
    by_cases hn : 0 ≤ N ∧ N ≤ 4096
    · simp only [rdE, rdS, rdD, hn, and_self, if_true]
      obtain ⟨n, rfl⟩ := Int.eq_ofNat_of_zero_le hn.1
      rw [Int.toNat_natCast]
      obtain ⟨g, cap, tv, h1, h3⟩ := h
      have hf := fun k (hF : Foot s.a g tv k) => h1.lt k hF
      refine (read_m s.g.lg (note_R s.g.lg) s.a g cap x n s.g.bs tv s.g.ts W h1 hx (by omega)).mono fun e w' ⟨he, ⟨t2, p1, p2⟩, hk, hn2⟩ => ⟨_, he, ⟨fun k => k = W.heap.size, ⟨g, cap, t2, p1, ?_⟩, ⟨?_, ?_⟩⟩, hk.mono (fun i _ hi => h3 i hi)⟩
      · rintro k (e | e | e)
        · exact ⟨h3 k (.inl e), fun h => by have := hf k (.inl e); omega⟩
        · exact ⟨h3 k (.inr (.inl e)), fun h => by have := hf k (.inr (.inl e)); omega⟩
        · rcases p2 k e with e | e
          · exact ⟨h3 k (.inr (.inr e)), fun h => by have := hf k (.inr (.inr e)); omega⟩
          · exact ⟨hB k (by omega), by omega⟩
      · refine ⟨by simp [bv, rdL_len], .inr ⟨W.heap.size, n, _, by rw [rdL_len], Nat.zero_le _, hn2, by rw [rdL_len]; omega, by unfold maxLen; omega, by simp [bv, rdL_len], ?_⟩⟩
        rw [List.take_of_length_le (by simp [bv, rdL_len])]
      · intro k e
        simp only [Value.ownBlock, Option.some.injEq] at e
        exact ⟨hB k (by omega), e.symm⟩
    · simp only [rdE, rdS, rdD, hn, if_false]
      exact (read_badf F s.a _ N s.g.lg s.g.bs s.g.ts W h (by omega)).mono fun e w' ⟨he, hw⟩ => ⟨_, he, ⟨fun _ => False, by rw [hw]; exact seg_same h, nil_row _ _⟩, by rw [hw]; exact Kp.refl _ _⟩
theorem rd_w (S : Option Sl) (x : Nat) (N : Int) (F : Nat → Prop) (W : World) (h : (refO S).h F W) (hB : ∀ k, W.heap.size ≤ k → F k) (hx : x < 4294967296) :
    Calls Tryd.prog 45 #[wantV S, .int .u32 x, .int .i64 N] W fun e w' => ∃ v, e = .returned (.tuple #[v, .int .i64 (rdE N S)]) ∧ (∃ G : Nat → Prop, (refO (rdS x N S)).h (fun k => F k ∧ ¬ G k) w' ∧ (rowB v (rdD x N S)).h (fun k => F k ∧ G k) w') ∧ Kp F W w' := by
  cases S with
  | none => exact (gn_read _ _ W).mono fun e w' ⟨he, hw⟩ => ⟨_, he, ⟨fun _ => False, by unfold rdS; split <;> trivial, nil_row _ _⟩, by rw [hw]; exact Kp.refl _ _⟩
  | some s =>
    by_cases hn : 0 ≤ N ∧ N ≤ 4096
    · simp only [rdE, rdS, rdD, hn, and_self, if_true]
      obtain ⟨n, rfl⟩ := Int.eq_ofNat_of_zero_le hn.1
      rw [Int.toNat_natCast]
      obtain ⟨g, cap, tv, h1, h3⟩ := h
      have hf := fun k (hF : Foot s.r g tv k) => h1.lt k hF
      refine (read_r s.r g cap x n s.g.lg s.g.bs tv s.g.ts W h1 hx (by omega)).mono fun e w' ⟨v, t2, he, hq⟩ => ?_
      obtain ⟨hrow, p1, p2, hk, hne⟩ := hq.out
      have hvl : ∀ k, v.ownBlock = some k → W.heap.size ≤ k := fun k e => (hrow.lt k e).1
      refine ⟨v, he, ⟨fun k => v.ownBlock = some k, ⟨g, cap, t2, p1, ?_⟩, ⟨?_, fun k e => ⟨hB k (hvl k e), e⟩⟩⟩, hk.mono (fun i _ hi => h3 i hi)⟩
      · rintro k (e | e | e)
        · exact ⟨h3 k (.inl e), fun h => by have := hf k (.inl e); have := hvl k h; omega⟩
        · exact ⟨h3 k (.inr (.inl e)), fun h => by have := hf k (.inr (.inl e)); have := hvl k h; omega⟩
        · refine ⟨?_, fun h => hne k h e⟩
          rcases p2 k e with e | e
          · exact h3 k (.inr (.inr e))
          · exact hB k e
      · rw [rdL_len]; exact own_base hrow (Nat.zero_le _)
    · simp only [rdE, rdS, rdD, hn, if_false]
      exact (read_rbad s.r _ N W (by omega)).mono fun e w' ⟨he, hw⟩ => ⟨_, he, ⟨fun _ => False, by rw [hw]; exact seg_same h, nil_row _ _⟩, by rw [hw]; exact Kp.refl _ _⟩
/-- Write -/
def wrE (n : Nat) : Option Sl → Int
  | none => 1
  | some _ => if n ≤ 4096 then 0 else 92
def wrS (x : Nat) (zs : List Int) (S : Option Sl) : Option Sl := if zs.length ≤ 4096 then mapS (wrG x zs) S else S
theorem wr_h (S : Option Sl) (x cap : Nat) (bo : Option Addr) (zs : List Int) (F : Nat → Prop) (W : World) (h : (segO S).h F W) (hB : ∀ k, W.heap.size ≤ k → F k) (hx : x < 4294967296) (hc : zs.length ≤ cap) (hwf : ∀ z ∈ zs, 0 ≤ z ∧ z ≤ 255) (hr : Reads W bo zs W.heap.size) (hR : ∀ b off, 0 < zs.length → bo = some ⟨b, off, none⟩ → ¬ F b) :
    Calls Tryd.prog 47 #[haveV S, .int .u32 x, .slice bo zs.length cap] W fun e w' => e = .returned (.int .i64 (wrE zs.length S)) ∧ (segO (wrS x zs S)).h F w' ∧ Kp F W w' := by
  cases S with
  | none => exact (nwrite _ _ _ W (notmade_nil W)).mono fun e w' ⟨he, hw⟩ => ⟨he, by unfold wrS; split <;> trivial, by rw [hw]; exact Kp.refl _ _⟩
  | some s =>
    by_cases hn : zs.length ≤ 4096
    · simp only [wrE, wrS, hn, if_true]
      exact write_lf F s.a x cap bo s.g.lg s.g.bs zs s.g.ts W h hB hx hn hc hwf hr hR
    · simp only [wrE, wrS, hn, if_false]
      exact (write_badf F s.a zs.length cap _ bo s.g.lg s.g.bs s.g.ts W h (by omega)).mono fun e w' ⟨he, hw⟩ => ⟨he, by rw [hw]; exact h, by rw [hw]; exact Kp.refl _ _⟩
theorem wr_w (S : Option Sl) (x cap : Nat) (bo : Option Addr) (zs : List Int) (F : Nat → Prop) (W : World) (h : (refO S).h F W) (hB : ∀ k, W.heap.size ≤ k → F k) (hx : x < 4294967296) (hwf : ∀ z ∈ zs, 0 ≤ z ∧ z ≤ 255) (hr : Reads W bo zs W.heap.size) (hR : ∀ b off, 0 < zs.length → bo = some ⟨b, off, none⟩ → ¬ F b) :
    Calls Tryd.prog 48 #[wantV S, .int .u32 x, .slice bo zs.length cap] W fun e w' => e = .returned (.int .i64 (wrE zs.length S)) ∧ (refO (wrS x zs S)).h F w' ∧ Kp F W w' := by
  cases S with
  | none => exact (gn_write _ _ W).mono fun e w' ⟨he, hw⟩ => ⟨he, by unfold wrS; split <;> trivial, by rw [hw]; exact Kp.refl _ _⟩
  | some s =>
    by_cases hn : zs.length ≤ 4096
    · simp only [wrE, wrS, hn, if_true]
      obtain ⟨g, cp, tv, h1, h3⟩ := h
      by_cases h0 : 0 < zs.length
      · obtain ⟨b, off, rfl, hlt, hcell⟩ := hr h0
        exact (write_r s.r g cp x cap b off (some ⟨b, off, none⟩) s.g.lg s.g.bs zs tv s.g.ts W h1 hx hn hwf (fun _ => ⟨rfl, hlt, hcell⟩) (fun hF => hR b off h0 rfl (h3 b hF))).mono fun e w' ⟨he, p⟩ => ⟨he, reff_after h3 hB p.out⟩
      · exact (write_r s.r g cp x cap W.heap.size 0 bo s.g.lg s.g.bs zs tv s.g.ts W h1 hx hn hwf (fun h => absurd h h0) (fun hF => by have := h1.lt _ hF; omega)).mono fun e w' ⟨he, p⟩ => ⟨he, reff_after h3 hB p.out⟩
    · simp only [wrE, wrS, hn, if_false]
      exact (write_rbad s.r zs.length cap _ bo W (by omega)).mono fun e w' ⟨he, hw⟩ => ⟨he, by rw [hw]; exact h, by rw [hw]; exact Kp.refl _ _⟩
/-- Bytes, All -/
def btD : Option Sl → List Int
  | none => []
  | some s => s.g.bs
theorem bt_h (S : Option Sl) (F : Nat → Prop) (W : World) (h : (segO S).h F W) :
    Calls Tryd.prog 20 #[haveV S] W fun e w' => ∃ v, e = .returned v ∧ (rowB v (btD S)).h (fun k => W.heap.size ≤ k) w' ∧ Below W.heap.size W w' := by
  cases S with
  | none => exact (nbytes _ W (notmade_nil W)).mono fun e w' ⟨he, hw⟩ => ⟨_, he, nil_row _ _, by rw [hw]; exact Below.refl _ _⟩
  | some s => exact (bytes_lf F s.a s.g.lg s.g.bs s.g.ts W h).mono fun e w' ⟨g, c, he, h1, _, h3⟩ => ⟨_, he, ⟨own_base h1 (Nat.zero_le _), fun k e => (h1.lt k e).1⟩, h3⟩
theorem bt_w (S : Option Sl) (F : Nat → Prop) (W : World) (h : (refO S).h F W) :
    Calls Tryd.prog 21 #[wantV S] W fun e w' => ∃ v, e = .returned v ∧ (rowB v (btD S)).h (fun k => W.heap.size ≤ k) w' ∧ Below W.heap.size W w' := by
  cases S with
  | none => exact (gn_all W).mono fun e w' ⟨he, hw⟩ => ⟨_, he, nil_row _ _, by rw [hw]; exact Below.refl _ _⟩
  | some s =>
    obtain ⟨g, cap, tv, h1, h3⟩ := h
    exact (all_r s.r g cap s.g.bs s.g.lg tv s.g.ts W h1).mono fun e w' ⟨g, c, he, hq⟩ => ⟨_, he, ⟨own_base hq.out.1 (Nat.zero_le _), fun k e => (hq.out.1.lt k e).1⟩, hq.out.2⟩
/-- Log, SetLog -/
def lgG (on : Bool) (g : Sg) : Sg := ⟨g.bs, on, []⟩
theorem lg_h (S : Option Sl) (on : Bool) (F : Nat → Prop) (W : World) (h : (segO S).h F W) (hB : ∀ k, W.heap.size ≤ k → F k) :
    Calls Tryd.prog 8 #[haveV S, .bool on] W fun e w' => e = .returned (.tuple #[]) ∧ (segO (mapS (lgG on) S)).h F w' ∧ Kp F W w' := by
  cases S with
  | none => exact (nlog _ _ W (notmade_nil W)).mono fun e w' ⟨he, hw⟩ => ⟨he, trivial, by rw [hw]; exact Kp.refl _ _⟩
  | some s => exact log_lf F s.a s.g.lg on s.g.bs s.g.ts W h hB
theorem lg_w (S : Option Sl) (on : Bool) (F : Nat → Prop) (W : World) (h : (refO S).h F W) (_hB : ∀ k, W.heap.size ≤ k → F k) :
    Calls Tryd.prog 9 #[wantV S, .bool on] W fun e w' => e = .returned (.tuple #[]) ∧ (refO (mapS (lgG on) S)).h F w' ∧ Kp F W w' := by
  cases S with
  | none => exact (gn_setlog _ W).mono fun e w' ⟨he, hw⟩ => ⟨he, trivial, by rw [hw]; exact Kp.refl _ _⟩
  | some s =>
    obtain ⟨g, cap, tv, h1, h3⟩ := h
    refine (setlog_r s.r g cap s.g.bs s.g.lg on tv s.g.ts W h1).mono fun e w' ⟨he, p, hk⟩ => ⟨he, ⟨g, cap, _, p, ?_⟩, hk.mono (fun i _ hi => h3 i (.inl hi))⟩
    rintro k (e | e | e)
    · exact h3 k (.inl e)
    · exact h3 k (.inr (.inl e))
    · simp [Value.ownBlock] at e
/-- Touched -/
def tcG (g : Sg) : Sg := ⟨g.bs, g.lg, []⟩
def tcD : Option Sl → List (Int × Bool)
  | none => []
  | some s => s.g.ts
def rowT (v : Value) (ts : List (Int × Bool)) : Pc := rowP 56 2 v ts.length (tvv ts)
theorem nil_rowT (F : Nat → Prop) (W : World) : (rowT (.slice none 0 0) []).h F W := ⟨⟨rfl, .inl ⟨rfl, rfl⟩⟩, fun k e => by simp [Value.ownBlock] at e⟩
theorem tc_h (S : Option Sl) (F : Nat → Prop) (W : World) (h : (segO S).h F W) (_hB : ∀ k, W.heap.size ≤ k → F k) :
    Calls Tryd.prog 11 #[haveV S] W fun e w' => ∃ v, e = .returned v ∧ (∃ G : Nat → Prop, (segO (mapS tcG S)).h (fun k => F k ∧ ¬ G k) w' ∧ (rowT v (tcD S)).h (fun k => F k ∧ G k) w') ∧ Kp F W w' := by
  cases S with
  | none => exact (ntouch _ W (notmade_nil W)).mono fun e w' ⟨he, hw⟩ => ⟨_, he, ⟨fun _ => False, trivial, nil_rowT _ _⟩, by rw [hw]; exact Kp.refl _ _⟩
  | some s =>
    obtain ⟨g, cap, tv, h1, h3⟩ := h
    refine (touched_any s.a g cap s.g.bs s.g.lg tv s.g.ts W h1).mono fun e w' ⟨he, p, hl, hk⟩ => ⟨tv, he, ⟨fun k => tv.ownBlock = some k, ⟨g, cap, _, p, ?_⟩, hl, fun k e => ⟨h3 k (.inr (.inr e)), e⟩⟩, hk.mono (fun i _ hi => h3 i (.inl hi))⟩
    rintro k (e | e | e)
    · exact ⟨h3 k (.inl e), fun h => h1.na (e ▸ h)⟩
    · exact ⟨h3 k (.inr (.inl e)), fun h => h1.ng (e ▸ h)⟩
    · simp [Value.ownBlock] at e
theorem tc_w (S : Option Sl) (F : Nat → Prop) (W : World) (h : (refO S).h F W) (_hB : ∀ k, W.heap.size ≤ k → F k) :
    Calls Tryd.prog 12 #[wantV S] W fun e w' => ∃ v, e = .returned v ∧ (∃ G : Nat → Prop, (refO (mapS tcG S)).h (fun k => F k ∧ ¬ G k) w' ∧ (rowT v (tcD S)).h (fun k => F k ∧ G k) w') ∧ Kp F W w' := by
  cases S with
  | none => exact (gn_touched W).mono fun e w' ⟨he, hw⟩ => ⟨_, he, ⟨fun _ => False, trivial, nil_rowT _ _⟩, by rw [hw]; exact Kp.refl _ _⟩
  | some s =>
    obtain ⟨g, cap, tv, h1, h3⟩ := h
    refine (touched_r s.r g cap s.g.bs s.g.lg tv s.g.ts W h1).mono fun e w' ⟨he, p, hl, hk⟩ => ⟨tv, he, ⟨fun k => tv.ownBlock = some k, ⟨g, cap, _, p, ?_⟩, hl, fun k e => ⟨h3 k (.inr (.inr e)), e⟩⟩, hk.mono (fun i _ hi => h3 i (.inl hi))⟩
    rintro k (e | e | e)
    · exact ⟨h3 k (.inl e), fun h => h1.na (e ▸ h)⟩
    · exact ⟨h3 k (.inr (.inl e)), fun h => h1.ng (e ▸ h)⟩
    · simp [Value.ownBlock] at e
end Go.Proofs.YtnjglagfpghbjaaDoor
