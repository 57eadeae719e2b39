import Derived.Test.YtfjnpmbkmoodnaaLApRa
namespace Go.Proofs.Ytfjnpmbkmoodnaa
open Go.RowKit Go.WideShapes
set_option maxRecDepth 100000

set_option maxHeartbeats 4000000 in
theorem apartR_any (lo : Option Addr) (lc n B : Nat) (vals : Nat → Value) (Z : Nat → List (Nat × Value)) (w : World) (hn : n ≤ 5800000000000) (hl : ∀ i, i < n → (Z i).length ≤ 67108864) (hB : B ≤ w.heap.size) (hO : OwnR w B lo lc n vals Z) :
    Calls Try.prog 16 #[.slice lo n lc] w fun e w' => e = .returned (.bool true) ∧ Touch n vals w w' := by
  obtain ⟨i0, hi, hz0, hz1, hz2⟩ := info_parts Try.infoR
  obtain ⟨j0, hj, hy0, hy1, hy2⟩ := info_parts infoRL
  have HV : Hid (∀ i, i < n → ∃ a c, vals i = .slice a (Z i).length c) := fun i hi => own_form0' (hO.each i hi)
  have HL : Hid (∀ i, i < n → (Z i).length ≤ 67108864) := hl
  clear hl
  go_enter Try.func16, Try.ntmps16
  go_wp2_with fail
  go_loopw [3] (fun i wr => ∃ (k : Nat) (Y : Nat → List (Nat × Value)), k ≤ n ∧ i = .int .i64 k ∧ (∀ j, j < n → (Y j).length = (Z j).length) ∧ (∀ j, j < k → Y j = mks (j + 1) (Z j).length) ∧ OwnR wr B lo lc n vals Y ∧ Touch n vals w wr)
    (fun i _ => n - (intOf i).toNat)
  case atStart => exact ⟨0, Z, Nat.zero_le _, rfl, fun _ _ => rfl, fun j hj => absurd hj (Nat.not_lt_zero _), hO, Touch.refl _ _ _⟩
  case round =>
    clear hO
    obtain ⟨k, Y, hk, rfl, hYl, hYm, hO, hT⟩ := hrel
    by_cases hlt : k < n
    · obtain ⟨g0, rfl⟩ := own_pos' hO.row (by omega)
      obtain ⟨ak, ck, hvk⟩ := HV.out k hlt
      have hlk := HL.out k hlt
      have HYl : Hid (∀ j, j < n → (Y j).length = (Z j).length) := hYl
      have HYm : Hid (∀ j, j < k → Y j = mks (j + 1) (Z j).length) := hYm
      have HVK : Hid (vals k = .slice ak (Z k).length ck) := hvk
      have hlI : (k : Int) < (n : Int) := by omega
      clear hYl hYm hvk
      go_wp2_with fail
      go_loopw [4] (fun i wi => ∃ e : Nat, e ≤ (Z k).length ∧ i = .int .i64 e ∧ OwnR wi B (some ⟨g0, 0, none⟩) lc n vals (updR Y k (mks (k + 1) e ++ (Y k).drop e)) ∧ Touch n vals w wi)
        (fun i _ => (Z k).length - (intOf i).toNat)
      case atStart => exact ⟨0, Nat.zero_le _, rfl, by
        have e : updR Y k (mks (k + 1) 0 ++ (Y k).drop 0) = Y := by funext j; by_cases h : j = k <;> simp [updR, h, mks]
        rw [e]; exact hO, hT⟩
      case round =>
        clear hO hT
        obtain ⟨e, he, rfl, hO, hT⟩ := hrel
        have hc0 := own_at hO.row hlt
        rw [HVK.out] at hc0
        by_cases hlt2 : e < (Z k).length
        · have hown := hO.each k hlt
          rw [updR_same, HVK.out] at hown
          have hln : (mks (k + 1) e ++ (Y k).drop e).length = (Z k).length := by
            have := HYl.out k hlt
            simp [mks_len]; omega
          rw [hln] at hown
          obtain ⟨gk, rfl⟩ := own_pos' hown (by omega)
          obtain ⟨m1, hm1⟩ : ∃ m1 : Int, (((mkC (k + 1) e).1 : Nat) : Int) = m1 := ⟨_, rfl⟩
          have hm2 := mk_ar k e
          have hset := msetR (k + 1) (Y k) e (by rw [HYl.out k hlt]; exact hlt2)
          obtain ⟨c0, c1⟩ := wc_all (mks (k + 1) e ++ (Y k).drop e) e (by rw [hln]; exact hlt2)
          rw [hm1, hm2] at hset
          have x0 := hown.cells (g := gk) rfl _ _ c0
          have x1 := hown.cells (g := gk) rfl _ _ c1
          rw [Go.WideShapes.add_plain, Nat.zero_add] at x0 x1
          have y0 := hown.frozenAt (e * 2)
          have y1 := hown.frozenAt (e * 2 + 1)
          obtain ⟨R1, G1⟩ := hown.stored (e * 2) (.int .u32 m1)
          have hx1 : ((wcs (mks (k + 1) e ++ (Y k).drop e)).set (e * 2) (.int .u32 m1))[e * 2 + 1]? = some ((mks (k + 1) e ++ (Y k).drop e).getD e dW).2 := by
            rw [List.getElem?_set_ne (by omega)]; exact c1
          have x2 := R1.cells (g := gk) rfl _ _ hx1
          rw [Go.WideShapes.add_plain, Nat.zero_add] at x2
          have y2 := R1.frozenAt (e * 2 + 1)
          obtain ⟨R2, G2⟩ := R1.stored (e * 2 + 1) (.slice none 0 0)
          rw [← hset] at R2
          have hblk : (vals k).ownBlock = some gk := by rw [HVK.out]; rfl
          have HO2 : Hid (OwnR ((wr.setCell ⟨gk, e * 2, none⟩ (.int .u32 m1)).setCell ⟨gk, e * 2 + 1, none⟩ (.slice none 0 0)) B (some ⟨g0, 0, none⟩) lc n vals (updR Y k (mks (k + 1) (e + 1) ++ (Y k).drop (e + 1)))) := by
            refine ⟨(hO.row.kept G1 ?_).kept G2 ?_, fun j hj => ?_, hO.apart⟩
            · have := rows_type (e := 27) (e' := 48) (by decide) hO.row hown
              simpa [Value.ownBlock] using this
            · have := rows_type (e := 27) (e' := 48) (by decide) hO.row hown
              simpa [Value.ownBlock] using this
            · by_cases hjk : j = k
              · subst hjk
                rw [updR_same, HVK.out, show (mks (j + 1) (e + 1) ++ (Y j).drop (e + 1)).length = (Z j).length by have := HYl.out j hj; simp [mks_len]; omega]
                exact R2
              · have h3 := hO.each j hj
                rw [updR_other _ _ hjk] at h3 ⊢
                have h4 := hO.apart j k hj hlt hjk
                rw [hblk] at h4
                exact (h3.kept G1 h4).kept G2 h4
          have HT2 : Hid (Touch n vals w ((wr.setCell ⟨gk, e * 2, none⟩ (.int .u32 m1)).setCell ⟨gk, e * 2 + 1, none⟩ (.slice none 0 0)))   := (hT.trans (Touch.of_grown hlt (by rw [hblk]; exact G1))).trans (Touch.of_grown hlt (by rw [hblk]; exact G2))
          have hgw : gk < wr.heap.size := (hown.lt gk rfl).2
          have hgw0 : g0 < wr.heap.size := (hO.row.lt g0 rfl).2
          generalize ((mks (k + 1) e ++ (Y k).drop e).getD e dW).1 = q0 at x0
          generalize ((mks (k + 1) e ++ (Y k).drop e).getD e dW).2 = q1 at x1 x2
          have hltI2 : (e : Int) < ((Z k).length : Int) := by omega
          have HW4 := hidS ((mk_md k e).trans hm1)
          clear hO hown hT R1 R2 G1 G2 hx1 c0 c1 hset hm1 hm2 hln hblk
          go_wp2_with fail
          rw [HW4.out]
          go_roundw
          case rel => exact ⟨e + 1, by omega, by go_num, HO2.out, HT2.out⟩
          case measure => simp [intOf]; omega
        · obtain rfl : e = (Z k).length := by omega
          have hltI2 : ¬ ((Z k).length : Int) < ((Z k).length : Int) := by omega
          have HO2 : Hid (OwnR wr B (some ⟨g0, 0, none⟩) lc n vals (updR Y k (mks (k + 1) (Z k).length))) := by
            have := hO
            rw [List.drop_of_length_le (by rw [HYl.out k hlt]; exact Nat.le_refl _), List.append_nil] at this
            exact this
          clear hO
          go_wp2_with fail
          go_roundw
          case rel =>
            refine ⟨k + 1, updR Y k (mks (k + 1) (Z k).length), by omega, by go_num, fun j hj => ?_, fun j hj => ?_, HO2.out, hT⟩
            · by_cases h : j = k
              · subst h; rw [updR_same, mks_len]
              · rw [updR_other _ _ h]; exact HYl.out j hj
            · by_cases h : j = k
              · subst h; rw [updR_same]
              · rw [updR_other _ _ h]; exact HYm.out j (by omega)
          case measure => simp [intOf]; omega
    · obtain rfl : k = n := by omega
      have hsz := hT.size
      have HB : Hid (∀ j, j < k → ∀ b, (vals j).ownBlock = some b → b < wr.heap.size ∧ B ≤ b) := fun j hj b hb => ⟨((hO.each j hj).lt b hb).2, ((hO.each j hj).lt b hb).1⟩
      have HAP : Hid (∀ i j, i < k → j < k → i ≠ j → (vals i).ownBlock = none ∨ (vals i).ownBlock ≠ (vals j).ownBlock) := hO.apart
      have HVV : Hid (∀ i, i < k → ∃ a c, vals i = .slice a (Z i).length c) := HV.out
      generalize wr = wo at *
      have hSt0 : StR wo B lo lc k vals (fun j => (Z j).length) 0 0 (fun _ => 0) (fun _ => 0) (.slice none 0 0) wo := by
        refine ⟨hO.row, World.ownsRow_nil _ _ _ _, ?_, fun b e => by simp [Value.ownBlock] at e, fun j _ hj => ?_, fun j hj => absurd hj (Nat.not_lt_zero _), fun j hj => absurd hj (Nat.not_lt_zero _), Touch.refl _ _ _⟩
        · cases hq : (Value.slice lo k lc).ownBlock <;> simp [Value.ownBlock]
        · have := hO.each j hj
          rwa [hYm j hj, mks_len] at this
      have HT0 : Hid (Touch k vals w wo) := hT
      have HSR : Hid (∀ j, j < k → wo.ownsRow B 48 2 (vals j) (Z j).length (wcs (mks (j + 1) (Z j).length))) := fun j hj => hSt0.rest j (Nat.zero_le _) hj
      have hlI : ¬ (k : Int) < (k : Int) := by omega
      clear hO hT hYl hYm HV
      go_wp2_with fail
      go_loopw [5, 6] (fun vgs i wr => ∃ (q : Nat) (gb gc : Nat → Nat), q ≤ k ∧ i = .int .i64 q ∧ StR wo B lo lc k vals (fun j => (Z j).length) q q gb gc vgs wr)
        (fun _ i _ => k - (intOf i).toNat)
      case atStart => exact ⟨0, _, _, Nat.zero_le _, rfl, hSt0⟩
      case round =>
        clear hSt0
        obtain ⟨q, gb, gc, hq, rfl, hSt⟩ := hrel
        by_cases hlt : q < k
        · obtain ⟨g0, rfl⟩ := own_pos' hSt.ls (by omega)
          obtain ⟨ak, ck, hvk⟩ := HVV.out q hlt
          have hlq := HL.out q hlt
          have hc0 := own_at hSt.ls hlt
          rw [hvk] at hc0
          have HVK : Hid (vals q = .slice ak (Z q).length ck) := hvk
          have hqI : (q : Int) < (k : Int) := by omega
          have hSt1 : StR wo B (some ⟨g0, 0, none⟩) lc k vals (fun j => (Z j).length) q (q + 1) gb gc u5 wr := by
            refine ⟨hSt.ls, hSt.gs, hSt.lg, hSt.gf, fun j h1 h2 => hSt.rest j (by omega) h2, fun j h1 b hb => ?_, hSt.new, hSt.tch⟩
            by_cases hj : j = q
            · subst hj
              have := hSt.rest j (Nat.le_refl _) hlt
              rw [HVK.out] at this hb
              have hak : ak = some ⟨b, 0, none⟩ := by
                rcases this.2 with ⟨e, hz⟩ | ⟨g, cap, cur, e, _⟩
                · rw [e] at hb; simp [Value.ownBlock] at hb
                · simp only [Value.slice.injEq] at e
                  rw [e.1] at hb ⊢
                  simp only [Value.ownBlock, Option.some.injEq] at hb
                  rw [hb]
              subst hak
              exact RowR.of_own this (by rw [List.take_length])
            · exact hSt.old j (by omega) b hb
          have hown0 := hSt.rest q (Nat.le_refl _) hlt
          rw [HVK.out] at hown0
          have hC0 : ∀ b, (Value.slice ak (Z q).length ck).ownBlock = some b → (∀ j, j < k → j ≠ q → (vals j).ownBlock ≠ some b) ∧ (∀ j, j < q → gb j ≠ b) ∧ ((vals q).ownBlock = some b ∨ wo.heap.size ≤ b) := by
            intro b hb
            have hb' : (vals q).ownBlock = some b := by rw [HVK.out]; exact hb
            refine ⟨fun j hj hne e => ?_, fun j hj e => ?_, .inl hb'⟩
            · rcases HAP.out j q hj hlt hne with h | h
              · rw [h] at e; cases e
              · rw [e, hb'] at h; exact h rfl
            · exact (hSt.new j hj).2 q hlt (by omega) (by rw [e]; exact hb')
          have HC0 : Hid (∀ b, (Value.slice ak (Z q).length ck).ownBlock = some b → (∀ j, j < k → j ≠ q → (vals j).ownBlock ≠ some b) ∧ (∀ j, j < q → gb j ≠ b) ∧ ((vals q).ownBlock = some b ∨ wo.heap.size ≤ b)) := hC0
          generalize u5 = vgs at *
          clear hSt hC0 hvk
          go_wp2_with fail
          go_loopw [7, 8] (fun vg i wi => ∃ j : Nat, j ≤ 64 ∧ i = .int .i64 j ∧ wi.ownsRow B 48 2 vg ((Z q).length + j) (wcs (mks (q + 1) ((Z q).length + j))) ∧ (∀ b, vg.ownBlock = some b → (∀ j, j < k → j ≠ q → (vals j).ownBlock ≠ some b) ∧ (∀ j, j < q → gb j ≠ b) ∧ ((vals q).ownBlock = some b ∨ wo.heap.size ≤ b)) ∧ StR wo B (some ⟨g0, 0, none⟩) lc k vals (fun j => (Z j).length) q (q + 1) gb gc vgs wi)
            (fun _ i _ => 64 - (intOf i).toNat)
          case atStart => exact ⟨0, by omega, rfl, hown0, HC0.out, hSt1⟩
          case round =>
            clear hown0 HC0 hSt1 hc0
            obtain ⟨j, hj64, rfl, hown, hC, hSt⟩ := hrel
            have HC : Hid (∀ b, u7.ownBlock = some b → (∀ j, j < k → j ≠ q → (vals j).ownBlock ≠ some b) ∧ (∀ j, j < q → gb j ≠ b) ∧ ((vals q).ownBlock = some b ∨ wo.heap.size ≤ b)) := hC
            clear hC
            have hc0 := own_at hSt.ls hlt
            rw [HVK.out] at hc0
            have hsw := hSt.tch.size
            have hBw : B ≤ wr.heap.size := by omega
            by_cases hlt2 : j < 64
            · have HM1 := hidS (mk_md2 q (Z q).length j)
              obtain ⟨m1, hm1⟩ : ∃ m1 : Int, (((mkC (q + 1) ((Z q).length + j)).1 : Nat) : Int) = m1 := ⟨_, rfl⟩
              have HMS : Hid (wcs (mks (q + 1) ((Z q).length + j + 1)) = wcs (mks (q + 1) ((Z q).length + j)) ++ [.int .u32 ((1000003 * ((q : Int) + 1) + ((Z q).length : Int) + (j : Int)) % 4294967296), .slice none 0 0]) := by
                rw [Hid, mks_succ, wc_append, wc_one, HM1.out]; rfl
              clear hm1 HM1
              have hg0w : g0 < wr.heap.size := (hSt.ls.lt g0 rfl).2
              go_wp2_with (at_builtin; refine wpList_append_keepR rfl _ _ rfl B i0 hi hz0 hz1 hz2 _ _ _ rfl (hown.alloc _) ⟨_, 0, none⟩ 1 [.int .u32 ((1000003 * ((q : Int) + 1) + ((Z q).length : Int) + (j : Int)) % 4294967296), .slice none 0 0] rfl rfl ?c1 ?c2 ?c4 ?c5 ?_)
              case c1 =>
                intro j u hj
                match j, hj with
                | 0, hj => simp at hj; subst hj; simp [Addr.add]
                | 1, hj => simp at hj; subst hj; simp [Addr.add]
              case c2 => intro u hu; simp at hu; rcases hu with rfl | rfl <;> rfl
              case c4 => omega
              case c5 => simp; omega
              intro g5 cap5 w5 hown5 hor
              rw [← HMS.out] at hown5
              have hfin : (∀ b, (Value.slice (some ⟨g5, 0, none⟩) ((Z q).length + j + 1) cap5).ownBlock = some b → (∀ j, j < k → j ≠ q → (vals j).ownBlock ≠ some b) ∧ (∀ j, j < q → gb j ≠ b) ∧ ((vals q).ownBlock = some b ∨ wo.heap.size ≤ b)) ∧ StR wo B (some ⟨g0, 0, none⟩) lc k vals (fun j => (Z j).length) q (q + 1) gb gc vgs w5 := by
                rcases hor with ⟨he, hg⟩ | ⟨he, hg⟩
                · obtain ⟨h1, h2, h3⟩ := HC.out g5 he
                  obtain ⟨g6, c6, hv6⟩ : ∃ g6 c6, u7 = .slice (some ⟨g6, 0, none⟩) ((Z q).length + j) c6 := by
                    rcases hown.2 with ⟨e, _⟩ | ⟨g, cap, cur, e, _⟩
                    · rw [e] at he; simp [Value.ownBlock] at he
                    · exact ⟨g, cap, e⟩
                  subst hv6
                  have : g6 = g5 := by simpa [Value.ownBlock] using he
                  subst this
                  exact ⟨fun b hb => by have : g6 = b := by simpa [Value.ownBlock] using hb
                                        subst this; exact ⟨h1, h2, h3⟩, hSt.place hlt hown hg hown5 (by show (Z q).length ≤ _; omega) h1 h2 h3⟩
                · refine ⟨fun b hb => ?_, hSt.same hg⟩
                  have hbe : g5 = b := by simpa [Value.ownBlock] using hb
                  subst hbe
                  rw [he]
                  refine ⟨fun j hj _ e => ?_, fun j hj e => ?_, .inr (by first | omega | (simp; omega))⟩
                  · have := (HB.out j hj _ e).1
                    first | omega | (simp at this; omega)
                  · have := (hSt.new j hj).1.lt
                    rw [e] at this
                    first | omega | (simp at this; omega)
              clear hor hown hSt
              go_wp2_with fail
              go_roundw
              case rel => exact ⟨j + 1, by omega, by go_num, hown5, hfin.1, hfin.2⟩
              case measure => simp [intOf]; omega
            · obtain rfl : j = 64 := by omega
              obtain ⟨g5, c5, rfl, hc5⟩ := own_form hown (by omega)
              obtain ⟨h1, h2, _⟩ := HC.out g5 rfl
              go_wp2_with (at_builtin; refine wpList_append_lies _ rfl _ _ 25 rfl B 27 j0 (.slice none 0 0) 1 24 Try.underlying25 hj hy0 hy1 hy2 rfl (by decide) _ _ _ rfl (hSt.gs.alloc _) ⟨_, 0, none⟩ 1 1 [.slice (some ⟨g5, 0, none⟩) ((Z q).length + 64) c5] rfl rfl ?d1 ?d2 (by decide) ?d3 ?d4 ?d5 (wr.heap.size + 1) (by simp) ?_)
              case d1 =>
                intro j u hj
                match j, hj with
                | 0, hj => simp at hj; subst hj; simp [Addr.add]
              case d2 => intro u hu; simp at hu; subst hu; rfl
              case d3 => unfold maxLen; omega
              case d4 => omega
              case d5 => simp; omega
              intro g6 cap6 w6 hown6 hgrow hor _
              have hSt2 : StR wo B (some ⟨g0, 0, none⟩) lc k vals (fun j => (Z j).length) (q + 1) (q + 1) (fun j => if j = q then g5 else gb j) (fun j => if j = q then c5 else gc j) (.slice (some ⟨g6, 0, none⟩) (q + 1) cap6) w6 := by
                refine ⟨(hSt.ls.alloc _).kept hgrow hSt.lg, ?_, ?_, fun b hb => ?_, fun j ha hb => ((hSt.rest j ha hb).alloc _).kept hgrow (rows_type (e := 48) (e' := 27) (by decide) (hSt.rest j ha hb) hSt.gs), fun j ha b hb => (hSt.old j ha b hb).grown hgrow ((hSt.old j ha b hb).type (by decide) hSt.gs), fun j ha => ?_, hSt.tch.alloc_grown hgrow (fun b hb => .inr (hSt.gf b hb))⟩
                · have e : (List.range (q + 1)).map (gvalR (fun j => (Z j).length) (fun j => if j = q then g5 else gb j) (fun j => if j = q then c5 else gc j)) = (List.range q).map (gvalR (fun j => (Z j).length) gb gc) ++ [.slice (some ⟨g5, 0, none⟩) ((Z q).length + 64) c5] := by
                    rw [List.range_succ, List.map_append]
                    congr 1
                    · refine List.map_congr_left fun j hj => ?_
                      have : ¬ j = q := by have := List.mem_range.1 hj; omega
                      simp [gvalR, this]
                    · simp [gvalR]
                  rw [e]; exact hown6
                · rcases hor with h | h
                  · have e := hSt.lg
                    rw [h] at e; exact e
                  · right
                    intro e
                    have : g0 = g6 := by simpa [Value.ownBlock] using e
                    have h' := (hSt.ls.lt g0 rfl).2
                    omega
                · have hbe : g6 = b := by simpa [Value.ownBlock] using hb
                  subst hbe
                  rcases hor with h | h
                  · exact hSt.gf _ h
                  · omega
                · by_cases hj : j = q
                  · subst hj
                    simp only [if_true]
                    refine ⟨RowR.of_own ((hown.alloc _).kept hgrow (rows_type (e := 48) (e' := 27) (by decide) hown hSt.gs)) (by rw [List.take_length]), fun i hi hne => h1 i hi hne⟩
                  · simp only [if_neg hj]
                    have hn := hSt.new j (by omega)
                    exact ⟨hn.1.grown hgrow (hn.1.type (by decide) hSt.gs), hn.2⟩
              clear hown hSt hgrow hor hown6 HC
              go_wp2_with fail
              go_roundw
              case rel => exact ⟨q + 1, _, _, by omega, by go_num, hSt2⟩
              case measure => simp [intOf]; omega
        · obtain rfl : q = k := by omega
          have HT1 : Hid (Touch q vals w wr) := HT0.out.trans hSt.tch
          have hlI2 : ¬ (q : Int) < (q : Int) := by omega
          obtain ⟨ag, cg, hvg⟩ := own_form0' hSt.gs
          subst hvg
          have HS : Hid (StR wo B lo lc q vals (fun j => (Z j).length) q q gb gc (.slice ag q cg) wr) := hSt
          clear hSt
          generalize wr = wz at *
          go_wp2_with fail
          go_loopw [9] (fun i wi => ∃ a : Nat, a ≤ q ∧ i = .int .i64 a ∧ Below wz.heap.size wz wi) (fun i _ => q - (intOf i).toNat)
          case atStart => exact ⟨0, Nat.zero_le _, rfl, Below.refl _ _⟩
          case round =>
            obtain ⟨a, ha, rfl, hbz⟩ := hrel
            by_cases hlt : a < q
            · obtain ⟨g0, rfl⟩ := own_pos' HS.out.ls (by omega)
              obtain ⟨gg, rfl⟩ := own_pos' HS.out.gs (by omega)
              obtain ⟨ak, ck, hvk⟩ := HVV.out a hlt
              have hla := HL.out a hlt
              have hcl := own_at HS.out.ls hlt
              have hcg := own_at HS.out.gs hlt
              have hg0 := (HS.out.ls.lt g0 rfl).2
              have hgg := (HS.out.gs.lt gg rfl).2
              rw [hvk] at hcl
              simp only [gvalR] at hcg
              have haI : (a : Int) < (q : Int) := by omega
              have HN : Hid (gb a < wz.heap.size ∧ ∀ i, i < (Z a).length + 64 → wz.cell? ⟨gb a, i * 2, none⟩ = some (.int .u32 ((mkC (a + 1) i).1 : Nat)) ∧ wz.cell? ⟨gb a, i * 2 + 1, none⟩ = some ((mkC (a + 1) i).2)) := ⟨(HS.out.new a hlt).1.lt, fun i hi => by
                have := (HS.out.new a hlt).1.cell (i := i) (by rw [mks_len]; exact hi)
                rw [mks_getD _ _ _ hi] at this
                exact this⟩
              have HOl : Hid (∀ i, i < (Z a).length → ∃ b, ak = some ⟨b, 0, none⟩ ∧ b < wz.heap.size ∧ wz.cell? ⟨b, i * 2, none⟩ = some (.int .u32 ((mkC (a + 1) i).1 : Nat)) ∧ wz.cell? ⟨b, i * 2 + 1, none⟩ = some ((mkC (a + 1) i).2)) := fun i hi => by
                have hak : ∃ b, ak = some ⟨b, 0, none⟩ ∧ (vals a).ownBlock = some b := by
                  have hh := HSR.out a hlt
                  rw [hvk] at hh ⊢
                  obtain ⟨b, rfl⟩ := own_pos' hh (by omega)
                  exact ⟨b, rfl, rfl⟩
                obtain ⟨b, e1, e2⟩ := hak
                have := (HS.out.old a hlt b e2).cell (i := i) (by rw [mks_len]; exact hi)
                rw [mks_getD _ _ _ hi] at this
                exact ⟨b, e1, (HS.out.old a hlt b e2).lt, this⟩
              clear hvk
              generalize gb a = gba at *
              generalize gc a = gca at *
              have hclr := (hbz.cell (p := ⟨g0, a, none⟩) hg0).trans hcl
              have hcgr := (hbz.cell (p := ⟨gg, a, none⟩) hgg).trans hcg
              go_wp2_with fail
              go_loopw [10] (fun i wi => ∃ e : Nat, e ≤ (Z a).length + 64 ∧ i = .int .i64 e ∧ Below wz.heap.size wz wi) (fun i _ => (Z a).length + 64 - (intOf i).toNat)
              case atStart => exact ⟨0, Nat.zero_le _, rfl, hbz⟩
              case round =>
                clear hbz hclr hcgr
                obtain ⟨e, he, rfl, hbz⟩ := hrel
                have hclr := (hbz.cell (p := ⟨g0, a, none⟩) hg0).trans hcl
                have hcgr := (hbz.cell (p := ⟨gg, a, none⟩) hgg).trans hcg
                have hszz := hbz.size
                by_cases hlt2 : e < (Z a).length + 64
                · obtain ⟨hn1, hn2⟩ := HN.out
                  obtain ⟨hn3, hn4⟩ := hn2 e hlt2
                  have hmd := mk_md a e
                  rw [← hmd] at hn3
                  have heI : (e : Int) < ((Z a).length : Int) + 64 := by omega
                  have hcn3 := (hbz.cell (p := ⟨gba, e * 2, none⟩) hn1).trans hn3
                  have HB5 := hidS hbz
                  by_cases hlt3 : e < (Z a).length
                  · obtain ⟨b, rfl, hb1, hb2, hb3⟩ := HOl.out e hlt3
                    rw [← hmd] at hb2
                    have hcb2 := (hbz.cell (p := ⟨b, e * 2, none⟩) hb1).trans hb2
                    have heI3 : (e : Int) < ((Z a).length : Int) := by omega
                    clear hn2 hmd hb2 hb3 hn3 hn4 hbz
                    go_wp2_with fail
                    go_roundw
                    case rel => exact ⟨e + 1, by omega, by go_num, HB5.out⟩
                    case measure => simp [intOf]; omega
                  · have d3 : decide ((e : Int) < ((Z a).length : Int)) = false := by simp; omega
                    clear hn2 hmd hn3 hn4 hbz
                    go_wp2_with fail
                    go_roundw
                    case rel => exact ⟨e + 1, by omega, by go_num, HB5.out⟩
                    case measure => simp [intOf]; omega
                · have heI : ¬ (e : Int) < ((Z a).length : Int) + 64 := by omega
                  go_wp2_with fail
                  go_roundw
                  case rel => exact ⟨a + 1, by omega, by go_num, hbz⟩
                  case measure => simp [intOf]; omega
            · have haI : ¬ (a : Int) < (q : Int) := by omega
              go_wp2_with fail
              go_ret
              exact ⟨rfl, HT1.out.trans (Touch.of_below hbz)⟩
end Go.Proofs.Ytfjnpmbkmoodnaa
