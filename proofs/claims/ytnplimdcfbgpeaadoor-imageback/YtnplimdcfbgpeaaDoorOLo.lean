import Derived.Test.YtnplimdcfbgpeaaDoorCOSm
namespace Go.Proofs.YtnplimdcfbgpeaaDoor
open Go.RowKit Go.WideShapes Go.Sort Go.Lib
set_option maxRecDepth 100000

abbrev im0 : Array Value := #[.slice none 0 0, .slice none 0 0, .slice none 0 0, .int .u32 0, .int .u32 0, .slice none 0 0]
/-- an image that is laid into a variable -/
theorem laid_im (w : World) (a0 a1 a2 a5 : Option Addr) (c0 c1 c2 c5 n0 n1 n2 n5 z st : Nat) :
    ∃ W, (w.alloc (.cells im0 28)).setRow w.heap.size (imC a0 n0 c0 a1 n1 c1 a2 n2 c2 z st a5 n5 c5) = W ∧ Below w.heap.size w W ∧ w.heap.size < W.heap.size ∧ W.heap[w.heap.size]? = some (.cells (imC a0 n0 c0 a1 n1 c1 a2 n2 c2 z st a5 n5 c5) 28) := by
  have hA := heap_alloc_last w (.cells im0 28)
  have hB := setRow_heap (w.alloc (.cells im0 28)) w.heap.size _ (imC a0 n0 c0 a1 n1 c1 a2 n2 c2 z st a5 n5 c5) _ _ hA
  exact ⟨_, rfl, below_setRow (belS (Below.refl _ _)) (Nat.le_refl _) _, (Array.getElem?_eq_some_iff.1 hB).1, hB⟩
/-- the six cells of an image in a variable -/
theorem six {W : World} {b : Nat} {a0 a1 a2 a5 : Option Addr} {c0 c1 c2 c5 n0 n1 n2 n5 z st : Nat} (h : W.heap[b]? = some (.cells (imC a0 n0 c0 a1 n1 c1 a2 n2 c2 z st a5 n5 c5) 28)) :
    W.cell? ⟨b, 0, none⟩ = some (.slice a0 n0 c0) ∧ W.cell? ⟨b, 1, none⟩ = some (.slice a1 n1 c1) ∧ W.cell? ⟨b, 2, none⟩ = some (.slice a2 n2 c2) ∧ W.cell? ⟨b, 3, none⟩ = some (.int .u32 (z : Nat)) ∧ W.cell? ⟨b, 4, none⟩ = some (.int .u32 (st : Nat)) ∧ W.cell? ⟨b, 5, none⟩ = some (.slice a5 n5 c5) :=
  ⟨obj_cell h 0, obj_cell h 1, obj_cell h 2, obj_cell h 3, obj_cell h 4, obj_cell h 5⟩
theorem ca_is {zs : List Int} {I : Im} {e : Ending} (h : CaP zs e) (hp : ParR zs I) : e = .returned (.bool (decide (encA I = zs))) := by
  rcases h with ⟨K, hk, rfl⟩ | ⟨hno, _⟩
  · rw [par_uniq hp hk]
  · exact absurd hp (hno I)
theorem ca_no {zs : List Int} {e : Ending} (h : CaP zs e) (hp : ∀ I, ¬ ParR zs I) : e = .returned (.bool false) := by
  rcases h with ⟨K, hk, _⟩ | ⟨_, rfl⟩
  · exact absurd hk (hp K)
  · rfl
theorem dec_comm (a b : List Int) : decide (a = b) = decide (b = a) := by rw [decide_eq_decide]; exact eq_comm
set_option maxHeartbeats 4000000 in
theorem one_any (ao : Option Addr) (cap : Nat) (zs : List Int) (w : World) (hn : zs.length ≤ 140737488355328) (hcp : zs.length ≤ cap) (hwf : ∀ z ∈ zs, 0 ≤ z ∧ z ≤ 255) (hr : Reads w ao zs w.heap.size) (hg : Sg w) :
    Calls Tryd.prog 4 #[.slice ao zs.length cap] w fun e w' => e = .returned (.bool true) ∧ Below w.heap.size w w' := by
  have hLv := lives_any w
  have HN := hidS hn
  have HR := hidS hr
  have HG := hidS hg
  have HWF := hidS hwf
  have HCP := hidS hcp
  have HPA := hidS (fun W (hW : Below w.heap.size w W) => parse_told ao cap zs W hcp hwf ((hr.below hW).mono hW.size) (hg.below hW))
  have HCA := hidS (fun W (hW : Below w.heap.size w W) => canon_told ao cap zs W hcp hwf ((hr.below hW).mono hW.size) (hg.below hW))
  clear hr hg hwf hn hcp
  go_enter Tryd.func4, Tryd.ntmps4
  go_wp2_with fail
  with_reducible refine hLv.mono ?_
  rintro e w1 ⟨rfl, b1⟩
  clear hLv
  go_wp2_with fail
  with_reducible refine (HPA.out w1 b1).mono ?_
  rintro e w2 ⟨hq, b2⟩
  have B2 := btS b1 b2
  have hA2 := heap_alloc_last w2 (.cells im0 28)
  rcases hq with ⟨at_, er, rfl, her, hno⟩ | ⟨v0, v1, v2, v5, I, rfl, hpar, hown⟩
  · have her' : (er == 0) = false := by rw [beq_eq_false_iff_ne]; exact her
    have HNO := hidS hno
    have HC1 := hidS (fun W (hW : Below w2.heap.size w2 W) => HCA.out W (btS B2 hW))
    obtain ⟨W2, hW2⟩ : ∃ W2, (w2.alloc (.cells im0 28)).setRow w2.heap.size im0 = W2 := ⟨_, rfl⟩
    have bW : Below w2.heap.size w2 W2 := by rw [← hW2]; exact below_setRow (belS (Below.refl _ _)) (Nat.le_refl _) _
    have HW2 := hidS hW2
    clear hno her hW2
    go_wp2_with (refine wpList_store_row rfl _ _ _ rfl w2.heap.size _ im0 rfl rfl hA2 (by rw [infoI6]; rfl) rfl (i6_all rfl rfl rfl rfl rfl rfl) ?_; rw [HW2.out])
    with_reducible refine (HC1.out W2 bW).mono ?_
    rintro e w3 ⟨hc, b3⟩
    obtain rfl := ca_no hc HNO.out
    go_wp2_with fail
    go_ret
    exact ⟨rfl, btS (btS B2 bW) b3⟩
  · obtain ⟨a0, a1, a2, a5, c0, c1, c2, c5, rfl, rfl, rfl, rfl, hir⟩ := hown.form
    have hk := par_k HWF.out hpar
    obtain ⟨W2, hW2, bW, hsW, hbk⟩ := laid_im w2 a0 a1 a2 a5 c0 c1 c2 c5 I.L.length I.J.length I.D.length I.M.length I.z I.st
    have BW := btS B2 bW
    have hE := encode_told I a0 a1 a2 a5 c0 c1 c2 c5 W2 hk.w hk.b ((hir.below bW).mono bW.size) (HG.out.below BW)
    have HW2 := hidS hW2
    have HPAR := hidS hpar
    have HK := hidS hk
    have HIR := hidS (fun W (hW : Below w2.heap.size w2 W) => (hir.below hW).mono hW.size)
    have HBK := hidS (fun W (hW : Below W2.heap.size W2 W) => six ((hW.block _ hsW).trans hbk))
    obtain ⟨x0, x1, x2, x3, x4, x5⟩ := six hbk
    clear hW2 hpar hk hown hir hbk
    go_wp2_with (refine wpList_store_row rfl _ _ _ rfl w2.heap.size _ (imC a0 I.L.length c0 a1 I.J.length c1 a2 I.D.length c2 I.z I.st a5 I.M.length c5) rfl rfl hA2 (by rw [infoI6]; rfl) rfl (i6_all rfl rfl rfl rfl rfl rfl) ?_; rw [HW2.out])
    with_reducible refine hE.mono ?_
    rintro e w3 ⟨hq, b3⟩
    have B3 := btS BW b3
    clear hE hA2 x0 x1 x2 x3 x4 x5
    rcases hq with ⟨_, v, rfl, own⟩ | ⟨hk, rfl⟩
    · obtain ⟨ar, cr, rfl, hrd⟩ := own_reads own
      have hcr : (encA I).length ≤ cr := by
        obtain ⟨_, c', e', h'⟩ := own_cap2 own
        simp only [Value.slice.injEq, true_and] at e'
        omega
      have hP2 := parse_told ar cr (encA I) w3 hcr (encA_wf HK.out) hrd (HG.out.below B3)
      have HRD := hidS hrd
      clear own hrd
      go_wp2_with fail
      with_reducible refine hP2.mono ?_
      rintro e w4 ⟨hq, b4⟩
      have B4 := btS B3 b4
      clear hP2
      rcases hq with ⟨at_, er, rfl, her, hno⟩ | ⟨u0, u1, u2, u5, K, rfl, hpar2, hown2⟩
      · exact absurd (par_enc I HK.out) (hno I)
      · obtain rfl : I = K := par_uniq (par_enc I HK.out) hpar2
        obtain ⟨d0, d1, d2, d5, e0, e1, e2, e5, rfl, rfl, rfl, rfl, hir2⟩ := hown2.form
        have hA4 := heap_alloc_last w4 (.cells im0 28)
        obtain ⟨W4, hW4, bW4, hsW4, hbk4⟩ := laid_im w4 d0 d1 d2 d5 e0 e1 e2 e5 I.L.length I.J.length I.D.length I.M.length I.z I.st
        have BW4 := btS B4 bW4
        have b24 : Below w2.heap.size w2 W4 := btS (btS (btS bW b3) b4) bW4
        have bX4 : Below W2.heap.size W2 W4 := btS (btS b3 b4) bW4
        have hC := icheck_I I a0 a1 a2 a5 c0 c1 c2 c5 W4 HK.out.w HK.out.b (HIR.out W4 b24)
        rw [(ckI_0 HK.out.w).2 HK.out] at hC
        replace hC : Calls Tryd.prog 7 #[imV a0 I.L.length c0 a1 I.J.length c1 a2 I.D.length c2 I.z I.st a5 I.M.length c5] W4 fun e w' => e = .returned (.int .i64 0) ∧ Below W4.heap.size W4 w' := hC
        have HSm := hidS (fun W (hW : Below W4.heap.size W4 W) => same_true I d0 d1 d2 d5 a0 a1 a2 a5 e0 e1 e2 e5 c0 c1 c2 c5 W HK.out.b ((hir2.below (btS bW4 hW)).mono (btS bW4 hW).size) (HIR.out W (btS b24 hW)))
        have HY := hidS (fun W (hW : Below W4.heap.size W4 W) => six ((hW.block _ hsW4).trans hbk4))
        have HX := hidS (fun W (hW : Below W4.heap.size W4 W) => HBK.out W (btS bX4 hW))
        obtain ⟨x0, x1, x2, x3, x4, x5⟩ := HX.out W4 (Below.refl _ _)
        have HW4 := hidS hW4
        have hle : ((encA I).length : Int) ≤ (zs.length : Int) := by have := par_len HPAR.out; omega
        have HSB := hidS (fun W (hW : Below W4.heap.size W4 W) => same_any ao ar cap cr zs (encA I) W HN.out ((HR.out.below (btS BW4 hW)).mono (btS BW4 hW).size) ((HRD.out.below (btS (btS b4 bW4) hW)).mono (btS (btS b4 bW4) hW).size))
        have HCB := hidS (fun W (hW : Below W4.heap.size W4 W) => HCA.out W (btS BW4 hW))
        have HDC := hidS (dec_comm zs (encA I))
        clear hpar2 hown2 hir2 hbk4 hW4
        go_wp2_with (refine wpList_store_row rfl _ _ _ rfl w4.heap.size _ (imC d0 I.L.length e0 d1 I.J.length e1 d2 I.D.length e2 I.z I.st d5 I.M.length e5) rfl rfl hA4 (by rw [infoI6]; rfl) rfl (i6_all rfl rfl rfl rfl rfl rfl) ?_; rw [HW4.out])
        with_reducible refine hC.mono ?_
        rintro e w5 ⟨rfl, b5⟩
        clear hC x0 x1 x2 x3 x4 x5 hA4
        obtain ⟨x0, x1, x2, x3, x4, x5⟩ := HX.out w5 b5
        obtain ⟨y0, y1, y2, y3, y4, y5⟩ := HY.out w5 b5
        go_wp2_with fail
        with_reducible refine (HSm.out w5 b5).mono ?_
        rintro e w6 ⟨rfl, b6⟩
        have b46 := btS b5 b6
        clear x0 x1 x2 x3 x4 x5 y0 y1 y2 y3 y4 y5 HSm
        go_wp2_with fail
        with_reducible refine (HCB.out w6 b46).mono ?_
        rintro e w7 ⟨hc, b7⟩
        obtain rfl := ca_is hc HPAR.out
        have b47 := btS b46 b7
        have hSB := HSB.out w7 b47
        rw [HDC.out] at hSB
        generalize decide (encA I = zs) = ans at *
        clear hc
        go_wp2_with fail
        with_reducible refine hSB.mono ?_
        rintro e w8 ⟨rfl, m, hm8⟩
        have hB8 : Below w.heap.size w w8 := by rw [hm8]; exact below_drewN (btS BW4 b47) _
        have HB8 := hidS hB8
        clear hm8 hSB hB8
        cases ans
        · go_wp2_with fail
          go_ret
          exact ⟨rfl, HB8.out⟩
        · go_wp2_with fail
          go_ret
          exact ⟨rfl, HB8.out⟩
    · exact absurd ((ckI_0 HK.out.w).2 HK.out) hk
end Go.Proofs.YtnplimdcfbgpeaaDoor
