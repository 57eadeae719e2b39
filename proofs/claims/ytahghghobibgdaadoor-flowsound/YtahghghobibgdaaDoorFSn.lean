import Derived.Test.YtahghghobibgdaaDoorCFGa
import Derived.Test.YtahghghobibgdaaDoorPFi
import Derived.Test.YtahghghobibgdaaDoorCPFa
import Derived.Test.YtahghghobibgdaaDoorFR20
namespace Go.Proofs.YtahghghobibgdaaDoor
open Go.RowKit Go.WideShapes Go.Shelf
set_option maxRecDepth 100000
set_option maxHeartbeats 2000000 in
theorem sound_any (ao aj : Option Addr) (cap capj : Nat) (L : List (Nat × Nat)) (J : List Nat) (w : World) (hn : L.length ≤ 9223372036854775807) (hJn : J.length ≤ 9223372036854775807) (hwf : Wfc L) (hJ : ∀ z ∈ J, z < 4294967296)
    (hr : CRd w ao L w.heap.size) (hrJ : JRd w aj J w.heap.size) (hT : TabW w) (hp : 0 < w.heap.size) :
    Calls Tryd.prog 3 #[.agg #[.slice ao L.length cap, .slice aj J.length capj]] w fun e w' => e = .returned (.bool true) ∧ Below w.heap.size w w' := by
  have HW : Hid (∀ W, Below w.heap.size w W → CRd W ao L W.heap.size ∧ JRd W aj J W.heap.size ∧ TabW W ∧ 0 < W.heap.size) := hidS (fun W hW => ⟨(hr.below hW).mono hW.size, (hrJ.below hW).mono hW.size, hT.below hW hp, Nat.lt_of_lt_of_le hp hW.size⟩)
  clear hr hrJ hT hp
  have HL := hidS (fun W (hW : Below w.heap.size w W) => lives_any W (HW.out W hW).2.2.1 (HW.out W hW).2.2.2)
  have HD := hidS (fun W (hW : Below w.heap.size w W) => fdepths_any ao aj cap capj L J W hn hJn hwf hJ (HW.out W hW).1 (HW.out W hW).2.1 (HW.out W hW).2.2.1 (HW.out W hW).2.2.2)
  have HF := hidS (fun W (hW : Below w.heap.size w W) => find_any ao aj none cap capj 0 L J [] W hn hJn (by simp) hwf hJ (fun j hj => absurd hj (by simp)) (HW.out W hW).1 (HW.out W hW).2.1 (fun q => absurd q (by simp)) (HW.out W hW).2.2.1 (HW.out W hW).2.2.2)
  have hb0 : ∀ o, Below w.heap.size w (w.alloc o) := fun o => belP (Below.refl _ _)
  go_enter Tryd.func3, Tryd.ntmps3
  go_wp2_with fail
  refine (HL.out _ (hb0 _)).mono ?_
  rintro e w1 ⟨rfl, hb1⟩
  have hO1 := heap_thru hb1 (heap_alloc_new w _)
  have HX : Hid (∀ W, Below w1.heap.size w1 W → W.cell? ⟨w.heap.size, 0, none⟩ = some (.slice ao L.length cap) ∧ W.cell? ⟨w.heap.size, 1, none⟩ = some (.slice aj J.length capj)) := hidS fun W hW => ⟨obj_cell (heap_thru hW hO1) 0, obj_cell (heap_thru hW hO1) 1⟩
  have HB1 := hidS (btP (hb0 _) hb1)
  have HZ1 : Hid (w.heap.size < w1.heap.size) := hidS (Nat.lt_of_lt_of_le (by rw [World.size_alloc]; omega) hb1.size)
  clear hb1 hO1 HL hb0
  have x0 := (HX.out w1 (Below.refl _ _)).1
  have x1 := (HX.out w1 (Below.refl _ _)).2
  go_wp2_with fail
  refine (HD.out w1 HB1.out).mono ?_
  rintro e w2 ⟨hb2, hcase⟩
  have HB2 := hidS (btP HB1.out hb2)
  have HZ2 : Hid (w.heap.size < w2.heap.size) := hidS (Nat.lt_of_lt_of_le HZ1.out hb2.size)
  have HX2 := hidS (fun W (hW : Below w2.heap.size w2 W) => HX.out W (btP hb2 hW))
  clear hb2 HX x0 x1 HD
  have x0 := (HX2.out w2 (Below.refl _ _)).1
  have x1 := (HX2.out w2 (Below.refl _ _)).2
  have HF2 := HF.out w2 HB2.out
  rw [show ([] : List (ByteArray × Nat)).length = 0 from rfl] at HF2
  clear HF
  rcases hcase with ⟨i, x, rfl, hx, hB⟩ | ⟨hG, i, x, rfl, hx, _⟩ | ⟨hG, gd, cp, nv, D, N, rfl, hDp, hNr, hK⟩
  · have HB := hidS (And.intro hB hx)
    clear hB hx
    go_wp2_with fail
    refine HF2.mono ?_
    rintro e w3 ⟨hb3, ⟨i', x', rfl, hx', hB'⟩ | ⟨B, pp, p1, g1, p2, g2, lv, A, C, rfl, hP, hA, hC, _, _, hG⟩⟩
    · obtain ⟨_, rfl⟩ := fdB_det HB.out.1 HB.out.2 hB' hx'
      have HB3 := hidS (btP HB2.out hb3)
      have hxI : ¬ (x : Int) = 0 := by omega
      clear hb3 hB' HF2
      go_wp2
      go_ret
      exact ⟨by simp, HB3.out⟩
    · exact absurd (fdG_not hG HB.out.1) HB.out.2
  · have HG := hidS hG
    clear hG
    go_wp2_with fail
    refine HF2.mono ?_
    rintro e w3 ⟨hb3, ⟨i', x', rfl, hx', hB'⟩ | ⟨B, pp, p1, g1, p2, g2, lv, A, C, rfl, hP, _, _, _, _, _⟩⟩
    · exact absurd (fdG_not HG.out hB') hx'
    · have HB3 := hidS (btP HB2.out hb3)
      clear hb3 HF2 hP
      rcases hx with rfl | rfl | rfl | rfl
      all_goals
        simp only [show ((140 : Nat) : Int) = 140 from rfl, show ((141 : Nat) : Int) = 141 from rfl, show ((142 : Nat) : Int) = 142 from rfl, show ((143 : Nat) : Int) = 143 from rfl]
        go_wp2
        go_ret
        exact ⟨rfl, HB3.out⟩
  · have HG := hidS hG
    have HK := hidS hK
    obtain ⟨an, cn, rfl, hNR⟩ := nv_reads hNr
    have hDl := hK.len
    have hNl := hK.nl
    rw [hDl]
    have HDp := hidS hDp
    have HNR := hidS hNR
    have HN := hidS (And.intro hDl hNl)
    clear hG hK hNr hDp hNR hDl hNl
    go_wp2_with fail
    refine HF2.mono ?_
    rintro e w3 ⟨hb3, ⟨i', x', rfl, hx', hB'⟩ | ⟨B, pp, p1, g1, p2, g2, lv, A, C, rfl, hP, _, _, _, _, _⟩⟩
    · exact absurd (fdG_not HG.out hB') hx'
    · obtain ⟨al, cl, rfl, _⟩ := hP.reads
      have HCt : Calls Tryd.prog 9 #[.pointer (some ⟨pp, 0, none⟩)] w3 fun e w' => e = .returned (.int .i64 (N.length : Nat)) ∧ w' = w3 := by
        have := pcount_any pp _ cl al w3 hP.c0 hP.c1
        rwa [prs_len, ← HN.out.2] at this
      have HP := hidS (fun W (hW : Below w3.heap.size w3 W) => hP.below hW)
      have HB3 := hidS (btP HB2.out hb3)
      have HZ3 : Hid (w.heap.size < w3.heap.size) := hidS (Nat.lt_of_lt_of_le HZ2.out hb3.size)
      have HX3 := hidS (fun W (hW : Below w3.heap.size w3 W) => HX2.out W (btP hb3 hW))
      have HNR3 := hidS (fun W (hW : Below w3.heap.size w3 W) => readsUp HNR.out (btP hb3 hW))
      have hgl := (HDp.out.lt gd rfl).2
      have HD3 : Hid (∀ W, Below w3.heap.size w3 W → gd < W.heap.size ∧ ∀ j, j < D.length → W.cell? ⟨gd, j, none⟩ = some (.int .i64 (D.getD j (-1)))) := hidS (fun W (hW : Below w3.heap.size w3 W) => ⟨Nat.lt_of_lt_of_le hgl (btP hb3 hW).size, fun j hj => ((btP hb3 hW).cell (p := ⟨gd, j, none⟩) hgl).trans (DpW.cell HDp.out hj)⟩)
      clear hb3 hP HX2 x0 x1 HF2 HNR hgl HDp
      have x0 := (HX3.out w3 (Below.refl _ _)).1
      go_wp2_with fail
      refine HCt.mono ?_
      rintro e w3' ⟨rfl, rfl⟩
      clear HCt
      go_wp2
      clear x0
      go_loopw [10] (fun v wr => ∃ i : Nat, i ≤ L.length ∧ v = .int .i64 i ∧ Below w3'.heap.size w3' wr)
        (fun v _ => L.length - (intOf v).toNat)
      case atStart => exact ⟨0, Nat.zero_le _, rfl, Below.refl _ _⟩
      case round =>
        obtain ⟨i, hi, rfl, hbr⟩ := hrel
        have x0 := (HX3.out wr hbr).1
        by_cases hlt : i < L.length
        · have hl : L.length ≤ 16384 := encX_len HG.out.enc
          obtain ⟨k, hk, h1, h2⟩ := lies_in HG.out.fst hlt
          rw [getD_anyP hk 0 L.length] at h1
          change bAt L k ≤ i at h1
          change i < bAt L (k + 1) at h2
          obtain ⟨eo, ee⟩ := at_in hk h1 h2
          have HOf := pof_any i wr hl HG.out.fst (HP.out wr hbr)
          rw [eo] at HOf
          have hkN : (k : Int) < (N.length : Int) := by rw [HN.out.2]; omega
          have hf := HK.out.fin k hk
          obtain ⟨nd0, nd1⟩ := hf.nd
          have hen : (L.getD i (0, 0)).1 = 3 → D.getD i (-1) = 0 := fun e => by
            rw [op_is hlt, e] at ee
            have : i = bAt L k := by simpa using ee
            rw [this]
            exact hf.sol.at0
          have hdb := hf.bd i h1 h2
          have hltI : (i : Int) < (L.length : Int) := by omega
          have hlI : (L.length : Int) ≤ 16384 := by omega
          have HH := hidS (And.intro hk (And.intro h1 h2))
          clear hf eo ee h1 h2 hk
          have hz0 : Below wr.heap.size wr wr := Below.refl _ _
          go_wp2_with fail
          refine HOf.mono ?_
          rintro e w5 ⟨rfl, hb5⟩
          have hb35 := btP hbr hb5
          have HB5 := hidS hb35
          obtain ⟨b, off, rfl, _, hc⟩ := (HW.out w5 (btP HB3.out hb35)).1 (by omega)
          obtain ⟨bn, offn, rfl, hbn, hcn⟩ := HNR3.out w5 hb35 (by omega)
          have c1 := (hc i hlt).1
          have c2 := hcn k (by omega)
          have c3 := (HD3.out w5 hb35).2 i (by rw [HN.out.1]; exact hlt)
          have y0 := (HX3.out w5 hb35).1
          clear hc hcn hb35 hb5 HOf x0 hbr
          have HGo : Hid (0 ≤ D.getD i (-1) → Calls Tryd.prog 11 #[.agg #[.slice (some ⟨b, off, none⟩) L.length cap, .slice aj J.length capj], .slice (some ⟨gd, 0, none⟩) L.length cp, .int .i64 (N.getD k 0), .int .i64 i] w5.drew fun e w' => e = .returned (.bool true) ∧ Below w5.drew.heap.size w5.drew w') := hidS fun hd => by
            have hb5d : Below w3'.heap.size w3' w5.drew := below_drewN HB5.out 1
            have hT := HW.out w3' HB3.out
            have := goes_any (some ⟨b, off, none⟩) aj cap capj L J w3' w5.drew hb5d hn hJn hwf hJ hT.1 hT.2.1 hT.2.2.1 hT.2.2.2 HG.out D N HK.out i k HH.out.1 HH.out.2.1 HH.out.2.2 gd cp (HD3.out _ hb5d).1 (HD3.out _ hb5d).2 hd
            rwa [HN.out.1] at this
          have HKl : Hid (w.heap.size < w5.heap.size ∧ bn < w5.heap.size ∧ k < N.length) := hidS ⟨Nat.lt_of_lt_of_le HZ3.out HB5.out.size, hbn, by omega⟩
          generalize D.getD i (-1) = d at c3 hen hdb HGo
          generalize N.getD k 0 = nd at c2 nd0 nd1 HGo
          generalize (L.getD i (0, 0)).1 = op at c1 hen
          by_cases hd0 : d < 0
          · have hop : ((op : Int) == 3) = false := beq_eq_false_iff_ne.2 (fun e => by have := hen (by omega); omega)
            clear hen HGo
            go_wp2
            go_roundw
            case rel => exact ⟨i + 1, by omega, by go_num, HB5.out⟩
            case measure => simp [intOf]; omega
          · have hd1 : 0 ≤ d := by omega
            have hop : (op = 3 ∧ d = 0) ∨ ((op : Int) == 3) = false := by
              by_cases e : op = 3
              · exact .inl ⟨e, hen e⟩
              · exact .inr (beq_eq_false_iff_ne.2 (by omega))
            have y1 := (HX3.out w5 HB5.out).2
            have HC5 := hidS (And.intro y0 (And.intro y1 c2))
            clear y1 hen
            rcases hop with ⟨rfl, rfl⟩ | hop
            · rw [show ((3 : Nat) : Int) = 3 from rfl] at c1
              go_wp2
              refine (wpIn_wide (n := 1)).1 ?_
              refine r20_lay w.heap.size gd L.length cp bn offn N.length cn i k L.length J.length cap capj (some ⟨b, off, none⟩) aj nd HKl.out.2.2 HC5.out (HGo.out hd1) ⟨HKl.out.1, HKl.out.2.1⟩ ?_ ?_
              · rintro c a (_ | d) v w h <;> exact h
              · intro w6 hb6
                have HB6 := hidS (btP HB5.out hb6)
                clear hb6
                go_wp2
                go_roundw
                case rel => exact ⟨i + 1, by omega, by go_num, HB6.out⟩
                case measure => simp [intOf]; omega
            · go_wp2
              refine (wpIn_wide (n := 1)).1 ?_
              refine r20_lay w.heap.size gd L.length cp bn offn N.length cn i k L.length J.length cap capj (some ⟨b, off, none⟩) aj nd HKl.out.2.2 HC5.out (HGo.out hd1) ⟨HKl.out.1, HKl.out.2.1⟩ ?_ ?_
              · rintro c a (_ | d) v w h <;> exact h
              · intro w6 hb6
                have HB6 := hidS (btP HB5.out hb6)
                clear hb6
                go_wp2
                go_roundw
                case rel => exact ⟨i + 1, by omega, by go_num, HB6.out⟩
                case measure => simp [intOf]; omega
        · have hltI : ¬ (i : Int) < (L.length : Int) := by omega
          have HBR := hidS (btP HB3.out hbr)
          clear hbr
          go_wp2
          go_ret
          exact ⟨rfl, HBR.out⟩
end Go.Proofs.YtahghghobibgdaaDoor
