import Derived.Test.YthfncfmfcbhpfaaJLk
namespace Go.Proofs.Ythfncfmfcbhpfaa
open Go.RowKit Go.WideShapes
set_option maxRecDepth 100000
set_option maxHeartbeats 2000000 in
theorem reffits_any (v : Int) (ao : Option Addr) (cap : Nat) (cs : List WCell) (w : World) (hr : WcC w ao cs w.heap.size) :
    Calls Try.prog 10 #[.agg #[.int .u32 v, .slice ao cs.length cap]] w fun e w' => e = .returned (.bool (fitC cs)) ∧ Below w.heap.size w w' := by
  by_cases h16 : cs.length ≤ 16
  · have hd0 : decide ((16 : Int) < cs.length) = false := by simp; omega
    have hB := (Below.refl w.heap.size w).alloc (Nat.le_refl _) (.cells #[.int .u32 v, .slice ao cs.length cap] 28)
    go_enter Try.func10, Try.ntmps10
    go_wp2
    go_loopw [3] (fun i wr => ∃ k : Nat, i = .int .i64 k ∧ k ≤ cs.length ∧ (∀ j, j < k → (cs.getD j wc0).2.2.1 ≤ 256) ∧ wr = w.alloc (.cells #[.int .u32 v, .slice ao cs.length cap] 28)) (fun i _ => cs.length - (intOf i).toNat)
    case atStart => exact ⟨0, rfl, Nat.zero_le _, (fun j hj => by omega), rfl⟩
    case round =>
      obtain ⟨k, rfl, hk, hgood, rfl⟩ := hrel
      by_cases hlt : k < cs.length
      · have hd : decide ((k : Int) < cs.length) = true := by simp; omega
        obtain ⟨bo, off, rfl, hbl, hc⟩ := hr (by omega)
        have c1 := (hB.cell (p := ⟨bo, off + k * 2, none⟩) hbl).trans (hc k hlt).1
        have c2 := (hB.cell (p := ⟨bo, off + k * 2 + 1, none⟩) hbl).trans (hc k hlt).2
        have HBB := fjhid hB
        by_cases hle : (cs.getD k wc0).2.2.1 ≤ 256
        · have HG := fjhid (fun j (hj : j < k + 1) => show (cs.getD j wc0).2.2.1 ≤ 256 from if h : j < k then hgood j h else (show j = k by omega) ▸ hle)
          generalize cs.getD k wc0 = c at *
          obtain ⟨x0, x1, x2, x3⟩ := c
          simp only at c1 c2 hle
          have hd2 : decide ((256 : Int) < (x2 : Int)) = false := by simp; omega
          clear hc hgood hr hB
          go_wp2
          go_roundw
          case rel => exact ⟨k + 1, by go_num, hlt, HG.out, by first | trivial | rfl⟩
          case measure => simp [intOf]; omega
        · have HB := fjhid (fitC_bad hlt hle)
          generalize cs.getD k wc0 = c at *
          obtain ⟨x0, x1, x2, x3⟩ := c
          simp only at c1 c2 hle
          have hd2 : decide ((256 : Int) < (x2 : Int)) = true := by simp; omega
          have hd3 : (256 : Int) < (x2 : Int) := by omega
          clear hc hgood hr hB
          go_wp2
          go_ret
          exact ⟨by rw [HB.out]; rfl, HBB.out⟩
      · have hd : decide ((k : Int) < cs.length) = false := by simp; omega
        have HB := fjhid (fitC_ok h16 (fun j hj => hgood j (by omega)))
        go_wp2
        go_ret
        exact ⟨by rw [HB.out]; rfl, hB⟩
  · have HB := fjhid (fitC_long h16)
    have hd0 : decide ((16 : Int) < cs.length) = true := by simp; omega
    go_enter Try.func10, Try.ntmps10
    go_wp2
    go_ret
    exact ⟨by rw [HB.out]; rfl, (Below.refl _ _).alloc (Nat.le_refl _) _⟩
/-- the cells of what was lent -/
def csE (E : List LE) : List WCell := E.map fun e => (e.1, some ⟨e.2.2.1, 0, none⟩, e.2.1.length, e.2.2.2)
theorem fitC_map (cs : List WCell) : fitC cs = (decide ((cs.map (fun c => c.2.2.1)).length ≤ 16) && (cs.map (fun c => c.2.2.1)).all (fun n => decide (n ≤ 256))) := by
  simp [fitC, List.all_map, Function.comp_def]
theorem LrP.fit {w : World} {WS : List RW} {E : List LE} {gw cw : Nat} {vf : Value} {W : World} (h : LrP w WS E gw cw vf W) : (csE E).length = WS.length ∧ fitC (csE E) = fitC (csOf WS) ∧ WcC W (some ⟨gw, 0, none⟩) (csE E) W.heap.size := by
  have hl : E.length = WS.length := by have := congrArg List.length h.same; simpa using this
  refine ⟨by simp [csE, hl], ?_, fun _ => ⟨gw, 0, rfl, (h.wri.lt gw rfl).2, fun j hj => ?_⟩⟩
  · have e : (csE E).map (fun c => c.2.2.1) = (csOf WS).map (fun c => c.2.2.1) := by
      have := congrArg (List.map (fun p : Nat × List Int => p.2.length)) h.same
      simpa [csE, csOf, Function.comp_def] using this
    rw [fitC_map, fitC_map (csOf WS), e]
  · have hjE : j < E.length := by simpa [csE] using hj
    have hE : E[j]? = some E[j] := List.getElem?_eq_getElem hjE
    obtain ⟨g1, g2⟩ := wrV_get E j _ hE
    have hc : (csE E).getD j wc0 = (E[j].1, some ⟨E[j].2.2.1, 0, none⟩, E[j].2.1.length, E[j].2.2.2) := by simp [csE, List.getD, hE]
    rw [hc, Nat.zero_add]
    constructor
    · have := h.wri.cells (g := gw) rfl (j * 2) _ (by rw [List.getElem?_append_left (by rw [wrV_len]; omega)]; exact g1)
      rwa [add_at] at this
    · have := h.wri.cells (g := gw) rfl (j * 2 + 1) _ (by rw [List.getElem?_append_left (by rw [wrV_len]; omega)]; exact g2)
      rwa [add_at] at this
theorem KrR.mono {V : World} {WS : List RW} {gw : Nat} {af : Option Addr} {B C : Nat} (h : KrR V WS gw af B) (hb : B ≤ C) : KrR V WS gw af C := by
  obtain ⟨h0, h1, h2⟩ := h
  refine ⟨by omega, fun j hj => ?_, h2⟩
  obtain ⟨g, c, gf, e, hg, hf, r⟩ := h1 j hj
  exact ⟨g, c, gf, e, by omega, by omega, r⟩
set_option maxHeartbeats 4000000 in
theorem gate_fits (v : Int) (ar : Option Addr) (cr : Nat) (WS : List RW) (w : World) (hn : WS.length * 32 ≤ 140737488351232) (hr : RsR w ar WS w.heap.size) :
    Calls Try.prog 4 #[.agg #[.int .u32 v, .slice ar WS.length cr]] w fun e w' => e = .returned (.bool true) ∧ Below w.heap.size w w' := by
  have hB := (Below.refl w.heap.size w).alloc (Nat.le_refl _) (.cells #[.int .u32 v, .slice ar WS.length cr] 28)
  have HL := fjhid (lentreply_any v ar cr WS (w.alloc (.cells #[.int .u32 v, .slice ar WS.length cr] 28)) hn ((hr.below hB).mono (by simp)))
  go_enter Try.func4, Try.ntmps4
  go_wp2_with (go_at_call 8; with_reducible refine HL.out.mono ?_; rintro e w1 ⟨E, gw, cw, vf, rfl, HP⟩; obtain ⟨af, cf, rfl, HK⟩ := HP.kr; replace HP := fjhid HP; replace HK := fjhid HK)
  have hb1 := HP.out.bel
  obtain ⟨l1, l2, l3⟩ := HP.out.fit
  have hrm := HP.out.room
  generalize hX : w1.alloc (Obj.cells #[.int .u32 v, .slice (some ⟨gw, 0, none⟩) WS.length cw, .slice af WS.length cf] 31) = wX
  have hb2 : Below w1.heap.size w1 wX := by rw [← hX]; exact (Below.refl _ _).alloc (Nat.le_refl _) _
  have hxb : wX.heap[w1.heap.size]? = some (Obj.cells #[.int .u32 v, .slice (some ⟨gw, 0, none⟩) WS.length cw, .slice af WS.length cf] 31) := by rw [← hX]; exact (MapKept.heap_alloc w1 _).1
  have hrb : wX.heap[w.heap.size]? = some (.cells #[.int .u32 v, .slice ar WS.length cr] 28) := by
    have hlt : w.heap.size < (w.alloc (.cells #[.int .u32 v, .slice ar WS.length cr] 28)).heap.size := by simp
    rw [hb2.block _ (Nat.lt_of_lt_of_le hlt hb1.size), hb1.block _ hlt]
    exact (MapKept.heap_alloc w _).1
  have hxl : w1.heap.size < wX.heap.size := by rw [← hX]; simp
  have hwl : w.heap.size < wX.heap.size := by
    have hlt : w.heap.size < (w.alloc (.cells #[.int .u32 v, .slice ar WS.length cr] 28)).heap.size := by simp
    have := hb1.size
    omega
  have hbX : Below w.heap.size w wX := hB.trans ((hb1.trans (hb2.mono hb1.size)).mono (by simp))
  have HV : Hid (∀ V, Below wX.heap.size wX V → V.cell? ⟨w.heap.size, 0, none⟩ = some (.int .u32 v) ∧ V.cell? ⟨w.heap.size, 1, none⟩ = some (.slice ar WS.length cr) ∧ V.cell? ⟨w1.heap.size, 0, none⟩ = some (.int .u32 v) ∧ V.cell? ⟨w1.heap.size, 1, none⟩ = some (.slice (some ⟨gw, 0, none⟩) WS.length cw) ∧ V.cell? ⟨w1.heap.size, 2, none⟩ = some (.slice af WS.length cf)) := fjhid (fun V hV => by
    have e1 := (hV.block _ hwl).trans hrb
    have e2 := (hV.block _ hxl).trans hxb
    exact ⟨lr_cell e1 0, lr_cell e1 1, lr_cell e2 0, lr_cell e2 1, lr_cell e2 2⟩)
  have HF1 : Hid (∀ V, Below wX.heap.size wX V → Calls Try.prog 9 #[.agg #[.int .u32 v, .slice (some ⟨gw, 0, none⟩) WS.length cw]] V fun e w' => e = .returned (.bool (fitC (csOf WS))) ∧ Below wX.heap.size wX w') := fjhid (fun V hV => by
    have h := fits_any v (some ⟨gw, 0, none⟩) cw (csE E) V ((l3.below (hb2.trans (hV.mono hb2.size))).mono (Nat.le_trans hb2.size hV.size))
    rw [l1, l2] at h
    exact h.mono fun e w' ⟨he, hb⟩ => ⟨he, hV.trans (hb.mono hV.size)⟩)
  have HF2 : Hid (∀ V, Below wX.heap.size wX V → Calls Try.prog 10 #[.agg #[.int .u32 v, .slice ar WS.length cr]] V fun e w' => e = .returned (.bool (fitC (csOf WS))) ∧ Below wX.heap.size wX w') := fjhid (fun V hV => by
    have hbV := hbX.trans (hV.mono hbX.size)
    have h := reffits_any v ar cr (csOf WS) V ((hr.cells.below hbV).mono hbV.size)
    rw [csOf_len] at h
    exact h.mono fun e w' ⟨he, hb⟩ => ⟨he, hV.trans (hb.mono hV.size)⟩)
  have HF3 : Hid (∀ V, Below wX.heap.size wX V → Calls Try.prog 11 #[.agg #[.int .u32 v, .slice (some ⟨gw, 0, none⟩) WS.length cw, .slice af WS.length cf], .agg #[.int .u32 v, .slice ar WS.length cr]] V fun e w' => e = .returned (.bool true) ∧ Below wX.heap.size wX w') := fjhid (fun V hV => by
    have hbV := hbX.trans (hV.mono hbX.size)
    have hK := HK.out.below (hb2.trans (hV.mono hb2.size))
    have hle := Nat.le_trans hb2.size hV.size
    have h := keptreply_any v ar cr WS gw cw af cf V hn hrm ((hr.below hbV).mono hbV.size) (hK.mono hle)
    exact h.mono fun e w' ⟨he, hb⟩ => ⟨he, hV.trans (hb.mono hV.size)⟩)
  have B0 : Below wX.heap.size wX wX.drew := below_drewN (Below.refl _ _) 1
  have HX := fjhid hbX
  clear HP HK hb1 l1 l2 l3 hrm hX hb2 hxb hrb HL hB hxl hwl hbX
  generalize fitC (csOf WS) = b at HF1 HF2
  go_region_held3 (fun V => V.cell? ⟨w.heap.size, 0, none⟩ = some (.int .u32 v) ∧ V.cell? ⟨w.heap.size, 1, none⟩ = some (.slice ar WS.length cr) ∧ V.cell? ⟨w1.heap.size, 0, none⟩ = some (.int .u32 v) ∧ V.cell? ⟨w1.heap.size, 1, none⟩ = some (.slice (some ⟨gw, 0, none⟩) WS.length cw) ∧ V.cell? ⟨w1.heap.size, 2, none⟩ = some (.slice af WS.length cf)) (first | exact HV.out _ (Below.refl _ _) | exact HV.out _ B0 | exact HV.out _ B1 | exact HV.out _ B2 | exact HV.out _ B3) (first
    | (go_at_call 9; refine (HF1.out _ B0).mono ?_; rintro e w2 ⟨rfl, B1⟩)
    | (go_at_call 10; refine (HF2.out _ B1).mono ?_; rintro e w3 ⟨rfl, B2⟩)
    | (go_at_call 11; refine (HF3.out _ B2).mono ?_; rintro e w4 ⟨rfl, B3⟩))
  go_wp2
  go_ret
  exact ⟨rfl, HX.out.trans (B3.mono HX.out.size)⟩
end Go.Proofs.Ythfncfmfcbhpfaa
