import Derived.Test.YtahghghobibgdaaDoorFNm
import Derived.Test.YtahghghobibgdaaDoorCFSi
import Derived.Test.YtahghghobibgdaaDoorQPk
import Derived.Laws.AppendOwnNone
namespace Go.Proofs.YtahghghobibgdaaDoor
open Go.RowKit Go.WideShapes Go.Shelf
set_option maxRecDepth 100000
theorem Tryd.infoCd : (Tryd.prog.info? 39).map (fun i => (i.zero, i.size, i.bytes)) = some (some (.agg #[.int .u8 0, .int .u32 0]), 2, 8) := by kernel_rfl
theorem nop_wf {L : List (Nat × Nat)} (h : Wfc L) (k : Nat) : Wfc (nopL L k) := fun p hp => by
  unfold nopL at hp
  rcases List.mem_or_eq_of_mem_set hp with h1 | h1
  · exact h p h1
  · subst h1; decide
theorem own_crdN {w : World} {B : Nat} {v : Value} {L : List (Nat × Nat)} (h : w.ownsRow B 39 2 v L.length (cv L)) : ∃ ao cap, v = .slice ao L.length cap ∧ CRd w ao L w.heap.size := by
  rcases h.2 with ⟨rfl, h0⟩ | ⟨g, cap, cur, rfl, hh⟩
  · exact ⟨none, 0, by rw [h0], fun hp => absurd hp (by omega)⟩
  · refine ⟨some ⟨g, 0, none⟩, cap, rfl, fun _ => ⟨g, 0, rfl, (h.lt g rfl).2, fun j hj => ?_⟩⟩
    obtain ⟨c0, c1⟩ := cv_all L j hj
    have a0 := h.cells (g := g) rfl _ _ c0
    have a1 := h.cells (g := g) rfl _ _ c1
    rw [Go.WideShapes.add_plain] at a0 a1
    exact ⟨a0, by rw [Nat.add_assoc]; exact a1⟩
set_option maxHeartbeats 2000000 in
theorem nops_any (ao aj : Option Addr) (cap capj : Nat) (L : List (Nat × Nat)) (J : List Nat) (at_ : Int) (w : World) (ha0 : -9223372036854775808 ≤ at_) (ha1 : at_ ≤ 9223372036854775807) (hn : L.length ≤ 9223372036854775807) (hJn : J.length ≤ 9223372036854775807) (hwf : Wfc L) (hJ : ∀ z ∈ J, z < 4294967296)
    (hr : CRd w ao L w.heap.size) (hrJ : JRd w aj J w.heap.size) (hT : TabW w) (hp : 0 < w.heap.size) :
    Calls Tryd.prog 4 #[.agg #[.slice ao L.length cap, .slice aj J.length capj], .int .i64 at_] w fun e w' => e = .returned (.bool true) ∧ Below w.heap.size w w' := by
  have HW : Hid (∀ W, Below w.heap.size w W → CRd W ao L W.heap.size ∧ JRd W aj J W.heap.size ∧ TabW W ∧ 0 < W.heap.size) := hidS (fun W hW => ⟨(hr.below hW).mono hW.size, (hrJ.below hW).mono hW.size, hT.below hW hp, Nat.lt_of_lt_of_le hp hW.size⟩)
  clear hr hrJ hT hp
  have HL := hidS (fun W (hW : Below w.heap.size w W) => lives_any W (HW.out W hW).2.2.1 (HW.out W hW).2.2.2)
  have HD := hidS (fun W (hW : Below w.heap.size w W) => fdepths_any ao aj cap capj L J W hn hJn hwf hJ (HW.out W hW).1 (HW.out W hW).2.1 (HW.out W hW).2.2.1 (HW.out W hW).2.2.2)
  have hb0 : ∀ o, Below w.heap.size w (w.alloc o) := fun o => belP (Below.refl _ _)
  go_enter Tryd.func4, Tryd.ntmps4
  go_wp2_with fail
  refine (HL.out _ (hb0 _)).mono ?_
  rintro e w1 ⟨rfl, hb1⟩
  have hO1 := heap_thru hb1 (heap_alloc_new w _)
  have HX : Hid (∀ W, Below w1.heap.size w1 W → W.cell? ⟨w.heap.size, 0, none⟩ = some (.slice ao L.length cap) ∧ W.cell? ⟨w.heap.size, 1, none⟩ = some (.slice aj J.length capj)) := hidS fun W hW => ⟨obj_cell (heap_thru hW hO1) 0, obj_cell (heap_thru hW hO1) 1⟩
  have HB1 := hidS (btP (hb0 _) hb1)
  clear hb1 hO1 HL hb0
  have x0 := (HX.out w1 (Below.refl _ _)).1
  have x1 := (HX.out w1 (Below.refl _ _)).2
  go_wp2_with fail
  refine (HD.out w1 HB1.out).mono ?_
  rintro e w2 ⟨hb2, hcase⟩
  have HB2 := hidS (btP HB1.out hb2)
  have HX2 := hidS (fun W (hW : Below w2.heap.size w2 W) => HX.out W (btP hb2 hW))
  clear hb2 HX x0 x1 HD
  have x0 := (HX2.out w2 (Below.refl _ _)).1
  rcases hcase with ⟨i, x, rfl, hx, hB⟩ | ⟨hG, i, x, rfl, hx, _⟩ | ⟨hG, gd, cp, nv, D, N, rfl, hDp, hNr, hK⟩
  · clear hB
    have hxI : ((x : Int) != 0) = true := by simpa using hx
    go_wp2
    go_ret
    exact ⟨rfl, HB2.out⟩
  · have hxI : ((x : Int) != 0) = true := by rcases hx with rfl | rfl | rfl | rfl <;> rfl
    clear hG hx
    go_wp2
    go_ret
    exact ⟨rfl, HB2.out⟩
  · have HG := hidS hG
    have HK := hidS hK
    have hl : L.length ≤ 16384 := encX_len hG.enc
    have hpos : 0 < L.length := by
      have := hG.fst
      unfold isEn at this
      simp at this
      exact this.1
    obtain ⟨an, cn, rfl, hNR⟩ := nv_reads hNr
    have hDl := hK.len
    have hNl := hK.nl
    rw [hDl]
    have HDp := hidS hDp
    have HNR := hidS hNR
    have HN := hidS (And.intro hDl hNl)
    clear hG hK hNr hDp hNR hDl hNl
    have hlI : (L.length : Int) ≤ 16384 := by omega
    have hp0 : ((L.length : Int) == 0) = false := beq_eq_false_iff_ne.2 (by omega)
    have HP := hidS (fun W => pick_any at_ (L.length : Int) W ha0 ha1 (by omega) (by omega))
    obtain ⟨k, hk⟩ : ∃ k : Nat, at_ % (L.length : Int) = k := ⟨(at_ % (L.length : Int)).toNat, by
      have := Int.emod_nonneg at_ (show (L.length : Int) ≠ 0 by omega)
      omega⟩
    have hkl : k < L.length := by
      have := Int.emod_lt_of_pos at_ (show (0 : Int) < (L.length : Int) by omega)
      omega
    rw [hk] at HP
    clear hk
    go_wp2_with fail
    refine (HP.out _).mono ?_
    rintro e w2' ⟨rfl, rfl⟩
    clear HP
    have hkI : (k : Int) < (L.length : Int) := by omega
    have cd := DpW.cell HDp.out (i := k) (by rw [HN.out.1]; exact hkl)
    by_cases hd : 0 ≤ D.getD k (-1)
    · generalize D.getD k (-1) = d at cd hd
      go_wp2
      go_ret
      exact ⟨rfl, HB2.out⟩
    · have HDn : Hid (D.getD k (-1) < 0) := hidS (by omega)
      generalize D.getD k (-1) = d at cd hd
      have HE : Hid (isEn L k = false) := hidS (by
        refine Bool.eq_false_iff.2 fun he => ?_
        obtain ⟨p, hp, h1, h2⟩ := lies_in HG.out.fst hkl
        rw [getD_anyP hp 0 L.length] at h1
        have ee := (at_in hp h1 h2).2
        rw [he] at ee
        have e1 : k = bAt L p := by simpa using ee
        have := (HK.out.fin p hp).sol.at0
        rw [← e1] at this
        have := HDn.out
        omega)
      obtain ⟨i0, hi, hz0, hz1, hz2⟩ := info_parts Tryd.infoCd
      go_wp2
      clear x0 cd
      go_loopw [10, 11] (fun v i wr => ∃ j : Nat, j ≤ L.length ∧ i = .int .i64 j ∧ wr.ownsRow w2'.heap.size 39 2 v j (cv ((nopL L k).take j)) ∧ Below w2'.heap.size w2' wr)
        (fun _ i _ => L.length - (intOf i).toNat)
      case atStart => exact ⟨0, Nat.zero_le _, rfl, World.ownsRow_nil _ _ _ _, Below.refl _ _⟩
      case round =>
        obtain ⟨j, hj, rfl, hown, hb⟩ := hrel
        have x0 := (HX2.out wr hb).1
        have hB := hb.size
        by_cases hlt : j < L.length
        · have hltI : (j : Int) < (L.length : Int) := by omega
          have HS := hid_of (ptake (0, 0) (nopL L k) j (by rw [nopL_len]; exact hlt))
          by_cases hjk : j = k
          · subst hjk
            rw [nopL_at hkl] at HS
            go_wp2_with (at_builtin; refine wpList_append_own _ rfl _ _ 22 rfl w2'.heap.size 39 i0 (.agg #[.int .u8 0, .int .u32 0]) 2 8 Tryd.underlying22 hi hz0 hz1 hz2 rfl (by decide) _ _ _ rfl (hown.alloc _) ⟨wr.heap.size, 0, none⟩ 1 1 [.int .u8 1, .int .u32 0] rfl rfl ?c1 ?c2 ?c3 ?c4 ?c5 ?_)
            case c1 =>
              intro j u hj
              match j, hj with
              | 0, hj => simp at hj; subst hj; simp [Addr.add]
              | 1, hj => simp at hj; subst hj; simp [Addr.add]
            case c2 => intro u hu; simp at hu; rcases hu with rfl | rfl <;> rfl
            case c3 => unfold maxLen; omega
            case c4 => omega
            case c5 => simp; omega
            intro v' w1' hown' hgrow _
            have R1 : w1'.ownsRow w2'.heap.size 39 2 v' (j + 1) (cv ((nopL L j).take (j + 1))) := by rw [HS.out, cv_append]; exact hown'
            have R2 := grown_below hb hB hown hgrow
            clear hown' hgrow hown hb
            go_wp2
            go_roundw
            case rel => exact ⟨j + 1, by omega, by go_num, R1, R2⟩
            case measure => simp [intOf]; omega
          · have hjI : ((j : Int) == (k : Int)) = false := beq_eq_false_iff_ne.2 (by omega)
            rw [nopL_get hjk] at HS
            obtain ⟨b, off, rfl, hbl, hc⟩ := (HW.out wr (btP HB2.out hb)).1 (by omega)
            obtain ⟨y0, y1⟩ := hc j hlt
            clear hc
            generalize L.getD j (0, 0) = c at y0 y1 HS
            go_wp2_with (at_builtin; refine wpList_append_own _ rfl _ _ 22 rfl w2'.heap.size 39 i0 (.agg #[.int .u8 0, .int .u32 0]) 2 8 Tryd.underlying22 hi hz0 hz1 hz2 rfl (by decide) _ _ _ rfl (hown.alloc _) ⟨wr.heap.size, 0, none⟩ 1 1 [.int .u8 c.1, .int .u32 c.2] rfl rfl ?c1 ?c2 ?c3 ?c4 ?c5 ?_)
            case c1 =>
              intro j u hj
              match j, hj with
              | 0, hj => simp at hj; subst hj; simp [Addr.add]
              | 1, hj => simp at hj; subst hj; simp [Addr.add]
            case c2 => intro u hu; simp at hu; rcases hu with rfl | rfl <;> rfl
            case c3 => unfold maxLen; omega
            case c4 => omega
            case c5 => simp; omega
            intro v' w1' hown' hgrow _
            have R1 : w1'.ownsRow w2'.heap.size 39 2 v' (j + 1) (cv ((nopL L k).take (j + 1))) := by rw [HS.out, cv_append]; exact hown'
            have R2 := grown_below hb hB hown hgrow
            clear hown' hgrow hown hb
            go_wp2
            go_roundw
            case rel => exact ⟨j + 1, by omega, by go_num, R1, R2⟩
            case measure => simp [intOf]; omega
        · have hltI : ¬ (j : Int) < (L.length : Int) := by omega
          obtain rfl : j = L.length := by omega
          rw [List.take_of_length_le (by rw [nopL_len]; exact Nat.le_refl _)] at hown
          rw [← nopL_len L k] at hown
          have hown' := hown
          obtain ⟨ac, cc, rfl, hcr⟩ := own_crdN hown'
          rw [nopL_len]
          have HBr := hidS (btP HB2.out hb)
          have hT := HW.out wr HBr.out
          have HF := find_any ac aj none cc capj 0 (nopL L k) J [] wr (by rw [nopL_len]; omega) hJn (by simp) (nop_wf hwf k) hJ (fun j hj => absurd hj (by simp)) hcr hT.2.1 (fun q => absurd q (by simp)) hT.2.2.1 hT.2.2.2
          have HC := hidS (fun W (hW : Below wr.heap.size wr W) => (hcr.below hW).mono hW.size)
          have HXr := hidS (fun W (hW : Below wr.heap.size wr W) => HX2.out W (btP hb hW))
          have hgl := (HDp.out.lt gd rfl).2
          have HRr := hidS (fun W (hW : Below wr.heap.size wr W) => And.intro (readsUp (dp_reads HDp.out) (btP hb hW)) (readsUp HNR.out (btP hb hW)))
          clear hown hown' hcr hT hb HX2 hgl hB HDp HNR
          rw [nopL_len, show ([] : List (ByteArray × Nat)).length = 0 from rfl] at HF
          have x1 := (HXr.out wr (Below.refl _ _)).2
          go_wp2_with fail
          refine HF.mono ?_
          rintro e w3 ⟨hb3, ⟨i', x', rfl, hx', hB'⟩ | ⟨B, pp, p1, g1, p2, g2, lv, A, C, rfl, _, _, _, _, _, hG2⟩⟩
          · have hxI : ((x' : Int) != 0) = true := by simpa using hx'
            have HB3 := hidS (btP HBr.out hb3)
            clear hb3 hB' HF x0 x1
            go_wp2
            go_ret
            exact ⟨rfl, HB3.out⟩
          · have HB3 := hidS (btP HBr.out hb3)
            have hT := HW.out w3 HB3.out
            have HD2 := fdepths_any ac aj cc capj (nopL L k) J w3 (by rw [nopL_len]; omega) hJn (nop_wf hwf k) hJ (HC.out w3 hb3) hT.2.1 hT.2.2.1 hT.2.2.2
            rw [nopL_len] at HD2
            have x1' := (HXr.out w3 hb3).2
            have HR3 := hidS (fun W (hW : Below w3.heap.size w3 W) => HRr.out W (btP hb3 hW))
            have HG2 := hidS hG2
            clear hb3 hT HF HC HXr x0 x1 HRr hG2
            go_wp2_with fail
            refine HD2.mono ?_
            rintro e w4 ⟨hb4, ⟨i, x, rfl, hx, hB⟩ | ⟨_, i, x, rfl, _, p, hp, hno⟩ | ⟨_, gd2, cp2, nv2, D2, N2, rfl, hDp2, hNr2, hK2⟩⟩
            · exact absurd (fdG_not HG2.out hB) hx
            · refine absurd ((nop_sol hkl HE.out HDn.out p).2 (HK.out.fin p ?_).sol) (hno _)
              rwa [nop_bgs hkl HE.out] at hp
            · obtain ⟨rfl, rfl⟩ := nop_same hkl HE.out HG.out.fst HDn.out HK.out hK2
              obtain ⟨an2, cn2, rfl, hNR2⟩ := nv_reads hNr2
              have hr4 := HR3.out w4 hb4
              have HS1 := samei_any (some ⟨gd2, 0, none⟩) (some ⟨gd, 0, none⟩) cp2 cp D2 D2 w4 (by rw [HN.out.1]; omega) (dp_reads hDp2) hr4.1
              have hm : N2.length ≤ 16384 := by rw [HN.out.2]; exact Nat.le_trans (els_le _ _) hl
              have HS2 := hidS (fun m => samei_any an2 an cn2 cn N2 N2 (w4.drewN m) (by omega) (readsUp hNR2 (below_drewN (Below.refl _ _) m)) (readsUp hr4.2 (below_drewN (Below.refl _ _) m)))
              have HB4 := hidS (btP HB3.out hb4)
              simp only [HN.out.1, decide_true] at HS1 HS2 ⊢
              clear hb4 hDp2 hNr2 hK2 hNR2 hr4 HD2 x1'
              go_wp2_with fail
              refine HS1.mono ?_
              rintro e w5 ⟨rfl, m5, rfl⟩
              go_wp2_with fail
              refine (HS2.out m5).mono ?_
              rintro e w6 ⟨rfl, m6, rfl⟩
              go_wp2
              go_ret
              exact ⟨rfl, below_drewN HB4.out _⟩
end Go.Proofs.YtahghghobibgdaaDoor
