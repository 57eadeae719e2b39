import Derived.Test.YthfncfmfcbhpfaaJLs
namespace Go.Proofs.Ythfncfmfcbhpfaa
open Go.RowKit Go.WideShapes
set_option maxRecDepth 100000
/-- what was lent stands -/
def KrR (V : World) (WS : List RW) (gw : Nat) (af : Option Addr) (B : Nat) : Prop :=
  gw < B ∧ (∀ j, j < WS.length → ∃ g c gf, af = some ⟨gf, 0, none⟩ ∧ g < B ∧ gf < B ∧ V.cell? ⟨gw, j * 2, none⟩ = some (.int .u32 ((WS.getD j rw0).1 : Nat)) ∧ V.cell? ⟨gw, j * 2 + 1, none⟩ = some (.slice (some ⟨g, 0, none⟩) (WS.getD j rw0).2.2.1.length c) ∧ V.cell? ⟨gf, j, none⟩ = some (.slice (some ⟨g, 0, none⟩) ((WS.getD j rw0).2.2.1.length + 64) c) ∧ ∀ i, i < (WS.getD j rw0).2.2.1.length + 64 → V.cell? ⟨g, i, none⟩ = some (.int .u8 (((WS.getD j rw0).2.2.1 ++ marks 0 64).getD i 0)))
    ∧ (∀ q, q < 4 → V.cell? ⟨gw, (WS.length + q) * 2, none⟩ = some (.int .u32 ((77 + q : Nat) : Int)) ∧ V.cell? ⟨gw, (WS.length + q) * 2 + 1, none⟩ = some (.slice none 0 0))
theorem KrR.below {V V' : World} {WS : List RW} {gw : Nat} {af : Option Addr} {B : Nat} (h : KrR V WS gw af B) (hb : Below B V V') : KrR V' WS gw af B := by
  obtain ⟨h0, h1, h2⟩ := h
  refine ⟨h0, fun j hj => ?_, fun q hq => ⟨(hb.cell (p := ⟨gw, (WS.length + q) * 2, none⟩) h0).trans (h2 q hq).1, (hb.cell (p := ⟨gw, (WS.length + q) * 2 + 1, none⟩) h0).trans (h2 q hq).2⟩⟩
  obtain ⟨g, c, gf, e, hg, hf, a1, a2, a3, a4⟩ := h1 j hj
  exact ⟨g, c, gf, e, hg, hf, (hb.cell (p := ⟨gw, j * 2, none⟩) h0).trans a1, (hb.cell (p := ⟨gw, j * 2 + 1, none⟩) h0).trans a2, (hb.cell (p := ⟨gf, j, none⟩) hf).trans a3, fun i hi => (hb.cell (p := ⟨g, i, none⟩) hg).trans (a4 i hi)⟩
theorem wrV_get : ∀ (E : List LE) (j : Nat) (e : LE), E[j]? = some e → (wrV E)[j * 2]? = some (.int .u32 (e.1 : Nat)) ∧ (wrV E)[j * 2 + 1]? = some (.slice (some ⟨e.2.2.1, 0, none⟩) e.2.1.length e.2.2.2)
  | [], j, e, h => by simp at h
  | x :: E, 0, e, h => by simp at h; subst h; exact ⟨rfl, rfl⟩
  | x :: E, j + 1, e, h => by
    have := wrV_get E j e (by simpa using h)
    simpa [wrV, show (j + 1) * 2 = j * 2 + 1 + 1 by omega] using this
theorem add_at (g i : Nat) : (⟨g, 0, none⟩ : Addr).add i = ⟨g, i, none⟩ := by
  have hadd : (⟨g, 0, none⟩ : Addr).add i = ⟨g, 0 + i, none⟩ := by unfold Addr.add; split <;> simp_all
  rw [hadd, Nat.zero_add]
theorem LrP.kr {w : World} {WS : List RW} {E : List LE} {gw cw : Nat} {vf : Value} {W : World} (h : LrP w WS E gw cw vf W) : ∃ af cf, vf = .slice af WS.length cf ∧ KrR W WS gw af W.heap.size := by
  obtain ⟨af, cf, rfl⟩ := own_form0L h.full
  have hl : E.length = WS.length := by have := congrArg List.length h.same; simpa using this
  refine ⟨af, cf, rfl, (h.wri.lt gw rfl).2, fun j hj => ?_, fun q hq => ?_⟩
  · have hjE : j < E.length := by omega
    obtain ⟨gf, cf', e1, _⟩ := own_form h.full (by omega)
    simp only [Value.slice.injEq] at e1
    obtain ⟨rfl, _, rfl⟩ := e1
    have hE : E[j]? = some E[j] := List.getElem?_eq_getElem hjE
    obtain ⟨g1, g2⟩ := wrV_get E j _ hE
    have hs : (E[j].1, E[j].2.1) = ((WS.getD j rw0).1, (WS.getD j rw0).2.2.1) := by
      have := congrArg (fun L => L[j]?) h.same
      simpa [List.getElem?_map, hE, List.getD, List.getElem?_eq_getElem hj] using this
    simp only [Prod.mk.injEq] at hs
    rw [← hs.1, ← hs.2]
    have hrow := h.rows E[j] (List.getElem_mem hjE)
    refine ⟨E[j].2.2.1, E[j].2.2.2, gf, rfl, (hrow.lt _ rfl).2, (h.full.lt _ rfl).2, ?_, ?_, ?_, fun i hi => own_get hrow (by simpa [marks_len] using hi)⟩
    · have := h.wri.cells (g := gw) rfl (j * 2) _ (by rw [List.getElem?_append_left (by rw [wrV_len]; omega)]; exact g1)
      rwa [add_at] at this
    · have := h.wri.cells (g := gw) rfl (j * 2 + 1) _ (by rw [List.getElem?_append_left (by rw [wrV_len]; omega)]; exact g2)
      rwa [add_at] at this
    · have := h.full.cells (g := gf) rfl j (.slice (some ⟨E[j].2.2.1, 0, none⟩) (E[j].2.1.length + 64) E[j].2.2.2) (by simp [fullV, hE])
      rwa [add_at] at this
  · have e0 : (WS.length + q) * 2 = E.length * 2 + q * 2 := by omega
    have e1 : (WS.length + q) * 2 + 1 = E.length * 2 + (q * 2 + 1) := by omega
    have hm : (mkV 4)[q * 2]? = some (.int .u32 ((77 + q : Nat) : Int)) ∧ (mkV 4)[q * 2 + 1]? = some (.slice none 0 0) := by
      match q, hq with
      | 0, _ => exact ⟨rfl, rfl⟩
      | 1, _ => exact ⟨rfl, rfl⟩
      | 2, _ => exact ⟨rfl, rfl⟩
      | 3, _ => exact ⟨rfl, rfl⟩
    constructor
    · have := h.wri.cells (g := gw) rfl ((WS.length + q) * 2) (.int .u32 ((77 + q : Nat) : Int)) (by rw [e0, List.getElem?_append_right (by rw [wrV_len]; omega), wrV_len, Nat.add_sub_cancel_left]; exact hm.1)
      rwa [add_at] at this
    · have := h.wri.cells (g := gw) rfl ((WS.length + q) * 2 + 1) (.slice none 0 0) (by rw [e1, List.getElem?_append_right (by rw [wrV_len]; omega), wrV_len, Nat.add_sub_cancel_left]; exact hm.2)
      rwa [add_at] at this
theorem same_self (ao bo : Option Addr) (ca cb : Nat) (xs : List Int) (w : World) (hn : xs.length ≤ 140737488355328) (ha : Reads w ao xs w.heap.size) (hr : Reads w bo xs w.heap.size) :
    Calls Try.prog 13 #[.slice ao xs.length ca, .slice bo xs.length cb] w fun e w' => e = .returned (.bool true) ∧ ∃ m, w' = w.drewN m :=
  (same_any ao bo ca cb xs xs w hn ha hr).mono fun e w' ⟨h, hm⟩ => ⟨by rw [h]; simp, hm⟩
structure KbS (w : World) (v : Int) (gw cw : Nat) (af : Option Addr) (cf : Nat) (ar : Option Addr) (cr n : Nat) (wr : World) : Prop where
  b1 : wr.heap[w.heap.size]? = some (.cells #[.int .u32 v, .slice (some ⟨gw, 0, none⟩) n cw, .slice af n cf] 31)
  b2 : wr.heap[w.heap.size + 1]? = some (.cells #[.int .u32 v, .slice ar n cr] 28)
  bel : Below w.heap.size w wr
theorem KbS.drewN {w : World} {v : Int} {gw cw : Nat} {af : Option Addr} {cf : Nat} {ar : Option Addr} {cr n : Nat} {wr : World} (h : KbS w v gw cw af cf ar cr n wr) (m : Nat) : KbS w v gw cw af cf ar cr n (wr.drewN m) := ⟨h.b1, h.b2, below_drewN h.bel m⟩
theorem kbs_new (w : World) (v : Int) (gw cw : Nat) (af : Option Addr) (cf : Nat) (ar : Option Addr) (cr n : Nat) : KbS w v gw cw af cf ar cr n ((w.alloc (.cells #[.int .u32 v, .slice (some ⟨gw, 0, none⟩) n cw, .slice af n cf] 31)).alloc (.cells #[.int .u32 v, .slice ar n cr] 28)) := by
  refine ⟨?_, ?_, ((Below.refl w.heap.size w).alloc (Nat.le_refl _) _).alloc (by simp) _⟩
  · rw [Below.heap_alloc _ _ _ (by simp)]
    exact (MapKept.heap_alloc w _).1
  · have := (MapKept.heap_alloc (w.alloc (.cells #[.int .u32 v, .slice (some ⟨gw, 0, none⟩) n cw, .slice af n cf] 31)) (.cells #[.int .u32 v, .slice ar n cr] 28)).1
    simpa using this
set_option maxHeartbeats 4000000 in
theorem keptreply_any (v : Int) (ar : Option Addr) (cr : Nat) (WS : List RW) (gw cw : Nat) (af : Option Addr) (cf : Nat) (w : World) (hn : WS.length * 32 ≤ 140737488351232) (hcw : WS.length + 4 ≤ cw) (hr : RsR w ar WS w.heap.size) (hk : KrR w WS gw af w.heap.size) :
    Calls Try.prog 11 #[.agg #[.int .u32 v, .slice (some ⟨gw, 0, none⟩) WS.length cw, .slice af WS.length cf], .agg #[.int .u32 v, .slice ar WS.length cr]] w fun e w' => e = .returned (.bool true) ∧ Below w.heap.size w w' := by
  have HB := fjhid (kbs_new w v gw cw af cf ar cr WS.length)
  have hz1 : decide (WS.length + 4 ≤ cw) = true := by simp; omega
  have hz2 : (WS.length : Int) + 4 ≤ cw := by omega
  have hz3 : ((WS.length : Int) + 4).toNat = WS.length + 4 := by omega
  go_enter Try.func11, Try.ntmps11
  go_wp2
  go_loopw [7] (fun i wr => ∃ k : Nat, i = .int .i64 k ∧ k ≤ WS.length ∧ KbS w v gw cw af cf ar cr WS.length wr) (fun i _ => WS.length - (intOf i).toNat)
  case atStart => exact ⟨0, rfl, Nat.zero_le _, HB.out⟩
  case round =>
    obtain ⟨k, rfl, hk', hS⟩ := hrel
    clear HB
    by_cases hlt : k < WS.length
    · have hd : decide ((k : Int) < WS.length) = true := by simp; omega
      have d2 := lr_cell hS.b1 2
      have d1 := lr_cell hS.b2 1
      have hB := hS.bel.size
      have hrW := (hr.below hS.bel).mono hB
      obtain ⟨bo, off, rfl, hbl, hc⟩ := hrW.1 (by omega)
      obtain ⟨c1, c2⟩ := hc k hlt
      obtain ⟨g1, g2, g3⟩ := hrW.2 k hlt
      obtain ⟨g, c, gf, rfl, hg, hgf, a1, a2, a3, a4⟩ := (hk.below hS.bel).2.1 k hlt
      have HS := fjhid hS
      clear hc hrW hS
      obtain ⟨x, bx, zs, cx, hpe⟩ : ∃ x bx zs cx, WS.getD k rw0 = (x, bx, zs, cx) := ⟨_, _, _, _, rfl⟩
      rw [hpe] at c1 c2 g1 g2 g3 a1 a2 a3 a4
      clear hpe
      simp only at c1 c2 g1 g2 g3 a1 a2 a3 a4
      have hrE : Reads wr (some ⟨g, 0, none⟩) zs wr.heap.size := by
        intro _
        refine ⟨g, 0, rfl, by omega, fun j hj => ?_⟩
        have h := a4 j (by omega)
        rw [Nat.zero_add, h]
        simp [List.getD, List.getElem?_append_left hj]
      have HE := fjhid hrE
      have HR := fjhid g1
      have HC := fjhid a4
      clear hrE g1 a4
      have hk4 : (k : Int) < (WS.length : Int) + 4 := by omega
      have hkI : (k : Int) < (WS.length : Int) := by omega
      go_wp2_with fail
      go_quiet (first
        | (go_at_call 13; exact Calls.quiet_of (same_self _ _ _ _ zs _ (by omega) (HE.out.drewN _) (HR.out.drewN _)))
        | (go_at_call 14; exact Calls.quiet_of (kept_any _ _ zs g _ _ g2 (HR.out.drewN _) HC.out)))
      go_wp2
      go_roundw
      case rel => exact ⟨k + 1, by go_num, hlt, HS.out.drewN _⟩
      case measure => simp [intOf]; omega
    · have hd : decide ((k : Int) < WS.length) = false := by simp; omega
      have hke : k = WS.length := by omega
      subst hke
      have HS := fjhid hS
      clear hS
      go_wp2
      go_loopw [8] (fun i wr => ∃ q : Nat, i = .int .i64 q ∧ q ≤ 4 ∧ KbS w v gw cw af cf ar cr WS.length wr) (fun i _ => 4 - (intOf i).toNat)
      case atStart => exact ⟨0, rfl, Nat.zero_le _, HS.out⟩
      case round =>
        obtain ⟨q, rfl, hq, hS⟩ := hrel
        clear HS
        by_cases hlt : q < 4
        · have hd4 : decide ((q : Int) < 4) = true := by simp; omega
          have hwq : IntKind.u32.wrap (77 + (q : Int)) = 77 + (q : Int) := by rw [IntKind.wrap_u32]; omega
          obtain ⟨a1, a2⟩ := (hk.below hS.bel).2.2 q hlt
          rw [show ((77 + q : Nat) : Int) = 77 + (q : Int) by omega] at a1
          have hz4 : ((WS.length : Int) + (q : Int)).toNat = WS.length + q := by omega
          have hz5 : (WS.length : Int) + (q : Int) < (WS.length : Int) + 4 := by omega
          have HS := fjhid hS
          clear hS
          go_wp2
          go_roundw
          case rel => exact ⟨q + 1, by go_num, by omega, HS.out⟩
          case measure => simp [intOf]; omega
        · have hd4 : decide ((q : Int) < 4) = false := by simp; omega
          go_wp2
          go_ret
          exact ⟨rfl, hS.bel⟩
end Go.Proofs.Ythfncfmfcbhpfaa
