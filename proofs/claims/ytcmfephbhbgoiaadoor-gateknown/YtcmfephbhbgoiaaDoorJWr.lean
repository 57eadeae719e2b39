import Derived.Test.YtcmfephbhbgoiaaDoorJWm
namespace Go.Proofs.YtcmfephbhbgoiaaDoor
open Go.RowKit Go.WideShapes
set_option maxRecDepth 100000
theorem newp_ok {w w' : World} {L : List (Nat × Int)} {e : Ending} (h : NewP w L e w') (hok : okG L) : Below w.heap.size w w' ∧ ∃ g, e = .returned (.tuple #[.pointer (some ⟨g, 0, none⟩), .int .i64 0]) ∧ w.heap.size ≤ g ∧ GtS w' g (ofL L) := by
  obtain ⟨hb, h⟩ := h
  rcases h with h | h
  · exact ⟨hb, h.2⟩
  · exact absurd hok h.1
theorem newnil_any (w : World) : Calls Tryd.prog 6 #[.slice none 0 0] w fun e w' => ∃ g, e = .returned (.tuple #[.pointer (some ⟨g, 0, none⟩), .int .i64 0]) ∧ Below w.heap.size w w' ∧ w.heap.size ≤ g ∧ GtS w' g (ofL []) :=
  (new_any none 0 [] w (by simp) (fun h => by simp at h)).mono fun e w' h => by
    obtain ⟨hb, g, he, hg, hG⟩ := newp_ok h ⟨by simp, fun k hk => by simp at hk⟩
    exact ⟨g, he, hb, hg, hG⟩
theorem mk256 (w1 : World) : ∃ w2, (Instr.makeSlice 33 (.int .i64 256) (.int .i64 256)).run Tryd.prog w1 = .ok (.slice (some ⟨w1.heap.size, 0, none⟩) 256 256) w2 ∧ Hid (w2.ownsRow w1.heap.size 5 1 (.slice (some ⟨w1.heap.size, 0, none⟩) 256 256) 256 (bv (List.replicate 256 0)) ∧ Below w1.heap.size w1 w2) := by
  obtain ⟨w2, hmk, hrow, hb2⟩ := make_any .i64 256 (by omega) w1
  exact ⟨w2, hmk, hrow, hb2⟩
/-- one write, laid in a new block -/
theorem one_write {w : World} {N : Nat → Prop} {x c2 : Nat} {a2 : Option Addr} {b : List Int} {B : Nat} (hN : N w.heap.size) (hNB : ∀ k, k < B → N k) (hB : B ≤ w.heap.size) (hx : x < 4294967296) (hc : b.length ≤ c2) (hb : ∀ z ∈ b, 0 ≤ z ∧ z ≤ 255) (hr : Reads w a2 b B) :
    WsN N (w.alloc (.cells #[.int .u32 x, .slice a2 b.length c2] 62)) (some ⟨w.heap.size, 0, none⟩) [(x, a2, b.length, c2)] [(x, b)] := by
  refine ⟨rfl, fun k hk => ?_, fun _ => ⟨w.heap.size, 0, rfl, by simp, hN, fun j hj => ?_⟩⟩
  · have : k = 0 := by simp at hk; omega
    subst this
    refine ⟨rfl, rfl, hc, hb, hx, ?_⟩
    by_cases hl : 0 < b.length
    · obtain ⟨sb, so, e, hlt, hcell⟩ := hr hl
      exact ⟨sb, so, fun _ => ⟨e, by simp; omega, fun i hi => by rw [World.cell?_alloc_old _ _ _ (by show sb ≠ w.heap.size; omega)]; exact hcell i hi⟩, by simp; omega, hNB sb hlt⟩
    · exact ⟨w.heap.size, 0, fun h => absurd h hl, by simp, hN⟩
  · have : j = 0 := by simp at hj; omega
    subst this
    exact ⟨new_cell w _ _ 0, new_cell w _ _ 1⟩
theorem fit_one (x n c : Nat) (a : Option Addr) : fitC [(x, a, n, c)] = decide (n ≤ 256) := by simp [fitC]
theorem drew_belowW (w : World) (q : Nat) : Below w.heap.size w (w.drewN q) := ⟨rfl, rfl, rfl, Nat.le_refl _, fun _ _ => rfl⟩
theorem bv_set (L : List Int) (k : Nat) (z : Int) : (bv L).set k (.int .u8 z) = bv (L.set k z) := by simp [bv, List.map_set]
set_option maxHeartbeats 8000000 in
theorem gate_writes (a0 a2 : Option Addr) (c0 c2 x : Nat) (raw b : List Int) (w : World) (hx : x < 4294967296) (n0 : raw.length ≤ 140737488351232) (n2 : b.length ≤ 140737488351232) (hc2 : b.length ≤ c2)
    (k0 : ∀ z ∈ raw, 0 ≤ z ∧ z ≤ 255) (k2 : ∀ z ∈ b, 0 ≤ z ∧ z ≤ 255) (r0 : Reads w a0 raw w.heap.size) (r2 : Reads w a2 b w.heap.size) (hT : Tab w) (h1 : 1 < w.heap.size) :
    Calls Tryd.prog 4 #[.slice a0 raw.length c0, .int .u32 x, .slice a2 b.length c2] w fun e w' => e = .returned (.bool true) ∧ Below w.heap.size w w' := by
  have hN := newnil_any w
  go_enter Tryd.func4, Tryd.ntmps4
  go_wp2_with (go_at_call 6; with_reducible refine hN.mono ?_; rintro e w1 ⟨gg, rfl, hX, hgg, hG⟩; obtain ⟨w2, hmk, HR⟩ := mk256 w1)
  obtain ⟨hrow, hb2⟩ := HR.out
  clear hmk hN HR
  have hG1 := hG
  clear hG
  have hX2 := gbt hb2 hX
  have hlo := hX.size
  rw [← dtK_zero raw] at hrow
  have hG0 : w1.heap.size < w2.heap.size := (hrow.lt _ rfl).2
  have HGk : Hid (∀ W, Kp (fun k => k = w1.heap.size) w2 W → GtS W gg (ofL [])) := fun W hk => hG1.kept (hb2.trans (hk.below hb2.size (fun i e => by omega))) rfl
  clear hG1 hb2
  generalize w1.heap.size = g0 at *
  go_loopw [10] (fun i wr => ∃ k : Nat, i = .int .i64 k ∧ k ≤ 256 ∧ k ≤ raw.length ∧ wr.ownsRow w.heap.size 5 1 (.slice (some ⟨g0, 0, none⟩) 256 256) 256 (bv (dtK raw k)) ∧ Kp (fun k => k = g0) w2 wr) (fun i _ => 256 - (intOf i).toNat)
  case atStart => exact ⟨0, rfl, Nat.zero_le _, Nat.zero_le _, own_base hrow hlo, Kp.refl _ _⟩
  case round =>
    obtain ⟨k, rfl, hk, hk2, hown, hkp⟩ := hrel
    have hbw : Below w.heap.size w wr := hX2.trans (hkp.below (B := w.heap.size) hX2.size (fun i e => by omega))
    by_cases hlt : k < 256
    · have hd1 : decide ((k : Int) < 256) = true := by simp; omega
      by_cases hlt2 : k < raw.length
      · have hd2 : decide ((k : Int) < raw.length) = true := by simp; omega
        obtain ⟨br, offr, rfl, hbr, hcr⟩ := r0 (by omega)
        have cr := (hbw.cell (p := ⟨br, offr + k, none⟩) hbr).trans (hcr k hlt2)
        have hfz := hown.frozenAt k
        obtain ⟨hst, hgst⟩ := hown.stored k (.int .u8 (raw.getD k 0))
        rw [bv_set, dtK_set hlt2 hlt] at hst
        have HST := hidS hst
        have hcur : ∃ u, wr.cell? ⟨g0, k, none⟩ = some u := by
          have := hown.cellAt k (by omega)
          rw [this]
          exact ⟨_, List.getElem?_eq_getElem (by rw [bv_len, dtK_len hk2 hk]; exact hlt)⟩
        obtain ⟨u, hu⟩ := hcur
        have HKP := hidS (hkp.trans (Kp.setCell (S := fun k => k = g0) wr ⟨g0, k, none⟩ (.int .u8 (raw.getD k 0)) rfl) (fun _ _ h => h))
        generalize raw.getD k 0 = z at *
        clear hcr hgst hst hown hkp
        go_wp2
        go_roundw
        case rel => exact ⟨k + 1, by go_num, hlt, hlt2, HST.out, HKP.out⟩
        case measure => simp [intOf]; omega
      · have hd2 : decide ((k : Int) < raw.length) = false := by simp; omega
        have hDl : (dtK raw k).length = 256 := dtK_len hk2 hk
        have hDw := dtK_wf k k0
        generalize dtK raw k = D at *
        have hrd : Reads wr (some ⟨g0, 0, none⟩) D wr.heap.size := reads_own hown (by rw [List.take_length])
        have hFr := from_any (some ⟨g0, 0, none⟩) 256 D wr (by rw [hDl]; exact .inl rfl) hDw hrd
        rw [hDl] at hFr
        have hG2 := HGk.out wr hkp
        have hg0 := (hown.lt g0 rfl).2
        clear hkp HGk
        go_wp2_with (go_at_call 16; with_reducible refine hFr.mono ?_; rintro e w3 ⟨a, rfl, hSeg, hb3⟩)
        obtain ⟨g, cap, tv, ts, hMs, hla, hlg, hlt3⟩ := hSeg
        replace hG2 := hG2.kept hb3 rfl
        have hb4 := gbt hb3 hbw
        have hrd4 := (hrd.below hb3).mono hb3.size
        have hfoot : ∀ k, Foot a g tv k → wr.heap.size ≤ k := by rintro k (h | h | h); (· omega); (· omega); (· exact hlt3 k h)
        have hnew := fun (o : Obj) => (Below.refl w3.heap.size w3).alloc (Nat.le_refl _) o
        have hw3 := hb3.size
        have hMs5 := fun o => hMs.kept (S := fun _ => False) (Kp.alloc w3 o) (fun _ _ h => h)
        have hWs := one_write (w := w3) (N := fun k => ¬ Foot a g tv k) (B := wr.heap.size) (x := x) (c2 := c2) (fun h => by have := hMs.lt _ h; omega) (fun k hk h => by have := hfoot k h; omega) hw3 hx hc2 k2 (((r2.below hbw).mono hbw.size).below (hb3.mono (Nat.le_refl _)))
        have hT4 := hT.below (hb4.trans ((hnew (.cells #[.int .u32 x, .slice a2 b.length c2] 62)).mono hb4.size)) h1
        have h14 : 1 < (w3.alloc (.cells #[.int .u32 x, .slice a2 b.length c2] 62)).heap.size := by have := hb4.size; simp; omega
        by_cases hbl : b.length ≤ 256
        · have hAp := apply_ok gg (ofL []) a g cap D tv ts 0 (some ⟨w3.heap.size, 0, none⟩) 1 [(x, a2, b.length, c2)] [(x, b)] (w3.alloc (.cells #[.int .u32 x, .slice a2 b.length c2] 62)) (hG2.kept (hnew _) rfl) (hMs5 _) hDl hT4 h14 hWs (by rw [fit_one]; exact decide_eq_true hbl)
          change Calls Tryd.prog _ #[.pointer (some ⟨gg, 0, none⟩), .pointer (some ⟨a, 0, none⟩), .agg #[.int .u32 0, .slice (some ⟨w3.heap.size, 0, none⟩) 1 1]] _ _ at hAp
          have hd5 : decide ((256 : Int) < b.length) = false := by simp; omega
          have hbl0 : ¬ (256 : Int) < b.length := by omega
          clear hFr
          go_wp2_with (go_at_call 14; with_reducible refine hAp.mono ?_; rintro e w5 ⟨rfl, hA⟩)
          obtain ⟨tv5, hM5, hown5, hk5⟩ := hA
          change MemS w5 a g cap (wrL D x b) false tv5 ts at hM5
          have hb5 : Below wr.heap.size wr w5 := hb3.trans (((hnew _).mono hw3).trans (hk5.below (by simp; omega) hfoot))
          have hrD := hrd.below hb5
          have hrB := ((r2.below hbw).mono hbw.size).below hb5
          have hX5 := gbt hb5 hbw
          have hSeg5 : Seg w.heap.size w5 a (wrL D x b) := ⟨g, cap, tv5, ts, hM5, by have := hbw.size; omega, by have := hbw.size; omega, fun j e => by rcases hown5 j e with e | e; (· have := hlt3 j e; have := hbw.size; omega); (· have := hbw.size; simp at e; omega)⟩
          have hBy := bytes_any w.heap.size a (wrL D x b) w5 hSeg5
          have hwl : (wrL D x b).length = 256 := by rw [wrL_len]; exact hDl
          rw [hwl] at hBy
          clear hAp hSeg5 hM5 hown5 hk5 hMs hMs5 hWs hnew hfoot hT4 hG2
          go_wp2_with (go_at_call 18; with_reducible refine hBy.mono ?_; rintro e w6 ⟨gn, cn, rfl, hrn, hb6⟩)
          have hrN : Reads w6 (some ⟨gn, 0, none⟩) (wrL D x b) w6.heap.size := reads_own hrn (by rw [List.take_length])
          replace hrD := (hrD.mono hb5.size).below hb6
          replace hrB := (hrB.mono hb5.size).below hb6
          have hX6 := gbt hb6 hX5
          clear hBy hrn hb6 hX5 hb5
          go_loopw [14] (fun i W => ∃ m q : Nat, m ≤ 256 ∧ i = .int .i64 m ∧ W = w6.drewN q) (fun i _ => 256 - (intOf i).toNat)
          case atStart => exact ⟨0, 0, Nat.zero_le _, rfl, rfl⟩
          case round =>
            rename World => W
            obtain ⟨m, q, hm, rfl, hW⟩ := hrel
            by_cases hml : m < 256
            · have hd6 : decide ((m : Int) < 256) = true := by simp; omega
              have hmI : (m : Int) < 256 := by omega
              obtain ⟨kk, hkk⟩ : ∃ kk : Nat, ((m : Int) - (x : Int)) % 4294967296 % 256 = kk := ⟨(((m : Int) - (x : Int)) % 4294967296 % 256).toNat, by omega⟩
              have hkl : kk < 256 := by omega
              have hke : (x + kk) % 256 = m := by omega
              obtain ⟨b1, o1, e1, -, hcN⟩ := hrN (by omega)
              cases e1
              have cN := hcN m (by omega)
              obtain ⟨b3, o3, e3, -, hcD⟩ := hrD (by omega)
              cases e3
              have cD := hcD m (by omega)
              by_cases hin : kk < b.length
              · rw [wr_in hDl hbl hke hin] at cN
                obtain ⟨b2, o2, rfl, -, hcB⟩ := hrB (by omega)
                have cB := hcB kk hin
                have xN : W.cell? ⟨gn, m, none⟩ = some (.int .u8 (b.getD kk 0)) := by rw [hW]; rw [Nat.zero_add] at cN; exact cN
                have xB : W.cell? ⟨b2, o2 + kk, none⟩ = some (.int .u8 (b.getD kk 0)) := by rw [hW]; exact cB
                have HW := hidS hW
                have hg1 : decide ((kk : Int) < (b.length : Int)) = true := by simp; omega
                have hg2 : decide (b.length ≤ kk) = false := by simp; omega
                have hgI : (kk : Int) < (b.length : Int) := by omega
                generalize b.getD kk 0 = z at *
                clear hcN hcD hcB cN cD cB hW hke
                go_wp2
                go_quiet (fail)
                go_wp2
                go_roundw
                case rel => exact ⟨m + 1, _, hml, by go_num, by rw [HW.out, World.drewN_drewN]⟩
                case measure => simp [intOf]; omega
              · rw [wr_out hDl hbl hkl hke hin] at cN
                have xN : W.cell? ⟨gn, m, none⟩ = some (.int .u8 (D.getD m 0)) := by rw [hW]; rw [Nat.zero_add] at cN; exact cN
                have xD : W.cell? ⟨g0, m, none⟩ = some (.int .u8 (D.getD m 0)) := by rw [hW]; rw [Nat.zero_add] at cD; exact cD
                have HW := hidS hW
                have hg1 : decide (kk < b.length) = false := by simp; omega
                have hg2 : decide (b.length ≤ kk) = true := by simp; omega
                have hgI : (b.length : Int) ≤ (kk : Int) := by omega
                generalize D.getD m 0 = z at *
                clear hcN hcD cN cD hW hke
                go_wp2
                go_quiet (fail)
                go_wp2
                go_roundw
                case rel => exact ⟨m + 1, _, hml, by go_num, by rw [HW.out, World.drewN_drewN]⟩
                case measure => simp [intOf]; omega
            · have hd6 : decide ((m : Int) < 256) = false := by simp; omega
              have hXX : Below w.heap.size w W := by rw [hW]; exact gbt (drew_belowW _ _) hX6
              clear hW
              go_wp2
              go_ret
              exact ⟨rfl, hXX⟩
        · have hAp := apply_bad gg (ofL []) a g cap D tv ts 0 (some ⟨w3.heap.size, 0, none⟩) 1 [(x, a2, b.length, c2)] (w3.alloc (.cells #[.int .u32 x, .slice a2 b.length c2] 62)) (hG2.kept (hnew _) rfl) (hMs5 _) hDl hT4 h14 hWs.cells (by rw [fit_one]; exact decide_eq_false hbl)
          change Calls Tryd.prog _ #[.pointer (some ⟨gg, 0, none⟩), .pointer (some ⟨a, 0, none⟩), .agg #[.int .u32 0, .slice (some ⟨w3.heap.size, 0, none⟩) 1 1]] _ _ at hAp
          have hd5 : decide ((256 : Int) < b.length) = true := by simp; omega
          have hbl0 : (256 : Int) < b.length := by omega
          clear hFr
          go_wp2_with (go_at_call 14; with_reducible refine hAp.mono ?_; rintro e w5 ⟨rfl, hb5⟩)
          have hb5' : Below w3.heap.size w3 w5 := (hnew _).trans (hb5.mono (by simp))
          have hrD := (hrd4.below hb5').mono hb5'.size
          have hX5 := gbt hb5' hb4
          have hSeg5 : Seg w.heap.size w5 a D := ⟨g, cap, tv, ts, hMs.kept (S := fun _ => False) (Kp.ofBelow hb5') (fun _ _ h => h), by have := hbw.size; omega, by have := hbw.size; omega, fun j e => by have := hlt3 j e; have := hbw.size; omega⟩
          have hBy := bytes_any w.heap.size a D w5 hSeg5
          rw [hDl] at hBy
          clear hAp hSeg5 hMs hMs5 hWs hnew hfoot hT4 hG2 hb5
          go_wp2_with (go_at_call 18; with_reducible refine hBy.mono ?_; rintro e w6 ⟨gn, cn, rfl, hrn, hb6⟩)
          have hrN : Reads w6 (some ⟨gn, 0, none⟩) D w6.heap.size := reads_own hrn (by rw [List.take_length])
          have hrD6 := (hrD.below hb6).mono hb6.size
          have hX6 := gbt hb6 hX5
          have hSm := same_any (some ⟨gn, 0, none⟩) (some ⟨g0, 0, none⟩) cn 256 D D w6 (by omega) hrN hrD6
          rw [hDl, show decide (D = D) = true from decide_eq_true rfl] at hSm
          have hSm2 : Calls Tryd.prog 17 #[.slice (some ⟨gn, 0, none⟩) 256 cn, .slice (some ⟨g0, 0, none⟩) 256 256] w6 fun e w' => e = .returned (.bool true) ∧ Below w6.heap.size w6 w' := hSm.mono fun e w' ⟨he, q, hq⟩ => ⟨he, by rw [hq]; exact drew_belowW _ _⟩
          clear hSm hBy
          go_wp2_with (go_at_call 17; with_reducible refine hSm2.mono ?_; rintro e w7 ⟨rfl, hb7⟩)
          go_ret
          exact ⟨rfl, gbt hb7 hX6⟩
    · have hd1 : decide ((k : Int) < 256) = false := by simp; omega
      have hDl : (dtK raw k).length = 256 := dtK_len hk2 hk
      have hDw := dtK_wf k k0
      generalize dtK raw k = D at *
      have hrd : Reads wr (some ⟨g0, 0, none⟩) D wr.heap.size := reads_own hown (by rw [List.take_length])
      have hFr := from_any (some ⟨g0, 0, none⟩) 256 D wr (by rw [hDl]; exact .inl rfl) hDw hrd
      rw [hDl] at hFr
      have hG2 := HGk.out wr hkp
      have hg0 := (hown.lt g0 rfl).2
      clear hkp HGk
      go_wp2_with (go_at_call 16; with_reducible refine hFr.mono ?_; rintro e w3 ⟨a, rfl, hSeg, hb3⟩)
      obtain ⟨g, cap, tv, ts, hMs, hla, hlg, hlt3⟩ := hSeg
      replace hG2 := hG2.kept hb3 rfl
      have hb4 := gbt hb3 hbw
      have hrd4 := (hrd.below hb3).mono hb3.size
      have hfoot : ∀ k, Foot a g tv k → wr.heap.size ≤ k := by rintro k (h | h | h); (· omega); (· omega); (· exact hlt3 k h)
      have hnew := fun (o : Obj) => (Below.refl w3.heap.size w3).alloc (Nat.le_refl _) o
      have hw3 := hb3.size
      have hMs5 := fun o => hMs.kept (S := fun _ => False) (Kp.alloc w3 o) (fun _ _ h => h)
      have hWs := one_write (w := w3) (N := fun k => ¬ Foot a g tv k) (B := wr.heap.size) (x := x) (c2 := c2) (fun h => by have := hMs.lt _ h; omega) (fun k hk h => by have := hfoot k h; omega) hw3 hx hc2 k2 (((r2.below hbw).mono hbw.size).below (hb3.mono (Nat.le_refl _)))
      have hT4 := hT.below (hb4.trans ((hnew (.cells #[.int .u32 x, .slice a2 b.length c2] 62)).mono hb4.size)) h1
      have h14 : 1 < (w3.alloc (.cells #[.int .u32 x, .slice a2 b.length c2] 62)).heap.size := by have := hb4.size; simp; omega
      by_cases hbl : b.length ≤ 256
      · have hAp := apply_ok gg (ofL []) a g cap D tv ts 0 (some ⟨w3.heap.size, 0, none⟩) 1 [(x, a2, b.length, c2)] [(x, b)] (w3.alloc (.cells #[.int .u32 x, .slice a2 b.length c2] 62)) (hG2.kept (hnew _) rfl) (hMs5 _) hDl hT4 h14 hWs (by rw [fit_one]; exact decide_eq_true hbl)
        change Calls Tryd.prog _ #[.pointer (some ⟨gg, 0, none⟩), .pointer (some ⟨a, 0, none⟩), .agg #[.int .u32 0, .slice (some ⟨w3.heap.size, 0, none⟩) 1 1]] _ _ at hAp
        have hd5 : decide ((256 : Int) < b.length) = false := by simp; omega
        have hbl0 : ¬ (256 : Int) < b.length := by omega
        clear hFr
        go_wp2_with (go_at_call 14; with_reducible refine hAp.mono ?_; rintro e w5 ⟨rfl, hA⟩)
        obtain ⟨tv5, hM5, hown5, hk5⟩ := hA
        change MemS w5 a g cap (wrL D x b) false tv5 ts at hM5
        have hb5 : Below wr.heap.size wr w5 := hb3.trans (((hnew _).mono hw3).trans (hk5.below (by simp; omega) hfoot))
        have hrD := hrd.below hb5
        have hrB := ((r2.below hbw).mono hbw.size).below hb5
        have hX5 := gbt hb5 hbw
        have hSeg5 : Seg w.heap.size w5 a (wrL D x b) := ⟨g, cap, tv5, ts, hM5, by have := hbw.size; omega, by have := hbw.size; omega, fun j e => by rcases hown5 j e with e | e; (· have := hlt3 j e; have := hbw.size; omega); (· have := hbw.size; simp at e; omega)⟩
        have hBy := bytes_any w.heap.size a (wrL D x b) w5 hSeg5
        have hwl : (wrL D x b).length = 256 := by rw [wrL_len]; exact hDl
        rw [hwl] at hBy
        clear hAp hSeg5 hM5 hown5 hk5 hMs hMs5 hWs hnew hfoot hT4 hG2
        go_wp2_with (go_at_call 18; with_reducible refine hBy.mono ?_; rintro e w6 ⟨gn, cn, rfl, hrn, hb6⟩)
        have hrN : Reads w6 (some ⟨gn, 0, none⟩) (wrL D x b) w6.heap.size := reads_own hrn (by rw [List.take_length])
        replace hrD := (hrD.mono hb5.size).below hb6
        replace hrB := (hrB.mono hb5.size).below hb6
        have hX6 := gbt hb6 hX5
        clear hBy hrn hb6 hX5 hb5
        go_loopw [14] (fun i W => ∃ m q : Nat, m ≤ 256 ∧ i = .int .i64 m ∧ W = w6.drewN q) (fun i _ => 256 - (intOf i).toNat)
        case atStart => exact ⟨0, 0, Nat.zero_le _, rfl, rfl⟩
        case round =>
          rename World => W
          obtain ⟨m, q, hm, rfl, hW⟩ := hrel
          by_cases hml : m < 256
          · have hd6 : decide ((m : Int) < 256) = true := by simp; omega
            have hmI : (m : Int) < 256 := by omega
            obtain ⟨kk, hkk⟩ : ∃ kk : Nat, ((m : Int) - (x : Int)) % 4294967296 % 256 = kk := ⟨(((m : Int) - (x : Int)) % 4294967296 % 256).toNat, by omega⟩
            have hkl : kk < 256 := by omega
            have hke : (x + kk) % 256 = m := by omega
            obtain ⟨b1, o1, e1, -, hcN⟩ := hrN (by omega)
            cases e1
            have cN := hcN m (by omega)
            obtain ⟨b3, o3, e3, -, hcD⟩ := hrD (by omega)
            cases e3
            have cD := hcD m (by omega)
            by_cases hin : kk < b.length
            · rw [wr_in hDl hbl hke hin] at cN
              obtain ⟨b2, o2, rfl, -, hcB⟩ := hrB (by omega)
              have cB := hcB kk hin
              have xN : W.cell? ⟨gn, m, none⟩ = some (.int .u8 (b.getD kk 0)) := by rw [hW]; rw [Nat.zero_add] at cN; exact cN
              have xB : W.cell? ⟨b2, o2 + kk, none⟩ = some (.int .u8 (b.getD kk 0)) := by rw [hW]; exact cB
              have HW := hidS hW
              have hg1 : decide ((kk : Int) < (b.length : Int)) = true := by simp; omega
              have hg2 : decide (b.length ≤ kk) = false := by simp; omega
              have hgI : (kk : Int) < (b.length : Int) := by omega
              generalize b.getD kk 0 = z at *
              clear hcN hcD hcB cN cD cB hW hke
              go_wp2
              go_quiet (fail)
              go_wp2
              go_roundw
              case rel => exact ⟨m + 1, _, hml, by go_num, by rw [HW.out, World.drewN_drewN]⟩
              case measure => simp [intOf]; omega
            · rw [wr_out hDl hbl hkl hke hin] at cN
              have xN : W.cell? ⟨gn, m, none⟩ = some (.int .u8 (D.getD m 0)) := by rw [hW]; rw [Nat.zero_add] at cN; exact cN
              have xD : W.cell? ⟨g0, m, none⟩ = some (.int .u8 (D.getD m 0)) := by rw [hW]; rw [Nat.zero_add] at cD; exact cD
              have HW := hidS hW
              have hg1 : decide (kk < b.length) = false := by simp; omega
              have hg2 : decide (b.length ≤ kk) = true := by simp; omega
              have hgI : (b.length : Int) ≤ (kk : Int) := by omega
              generalize D.getD m 0 = z at *
              clear hcN hcD cN cD hW hke
              go_wp2
              go_quiet (fail)
              go_wp2
              go_roundw
              case rel => exact ⟨m + 1, _, hml, by go_num, by rw [HW.out, World.drewN_drewN]⟩
              case measure => simp [intOf]; omega
          · have hd6 : decide ((m : Int) < 256) = false := by simp; omega
            have hXX : Below w.heap.size w W := by rw [hW]; exact gbt (drew_belowW _ _) hX6
            clear hW
            go_wp2
            go_ret
            exact ⟨rfl, hXX⟩
      · have hAp := apply_bad gg (ofL []) a g cap D tv ts 0 (some ⟨w3.heap.size, 0, none⟩) 1 [(x, a2, b.length, c2)] (w3.alloc (.cells #[.int .u32 x, .slice a2 b.length c2] 62)) (hG2.kept (hnew _) rfl) (hMs5 _) hDl hT4 h14 hWs.cells (by rw [fit_one]; exact decide_eq_false hbl)
        change Calls Tryd.prog _ #[.pointer (some ⟨gg, 0, none⟩), .pointer (some ⟨a, 0, none⟩), .agg #[.int .u32 0, .slice (some ⟨w3.heap.size, 0, none⟩) 1 1]] _ _ at hAp
        have hd5 : decide ((256 : Int) < b.length) = true := by simp; omega
        have hbl0 : (256 : Int) < b.length := by omega
        clear hFr
        go_wp2_with (go_at_call 14; with_reducible refine hAp.mono ?_; rintro e w5 ⟨rfl, hb5⟩)
        have hb5' : Below w3.heap.size w3 w5 := (hnew _).trans (hb5.mono (by simp))
        have hrD := (hrd4.below hb5').mono hb5'.size
        have hX5 := gbt hb5' hb4
        have hSeg5 : Seg w.heap.size w5 a D := ⟨g, cap, tv, ts, hMs.kept (S := fun _ => False) (Kp.ofBelow hb5') (fun _ _ h => h), by have := hbw.size; omega, by have := hbw.size; omega, fun j e => by have := hlt3 j e; have := hbw.size; omega⟩
        have hBy := bytes_any w.heap.size a D w5 hSeg5
        rw [hDl] at hBy
        clear hAp hSeg5 hMs hMs5 hWs hnew hfoot hT4 hG2 hb5
        go_wp2_with (go_at_call 18; with_reducible refine hBy.mono ?_; rintro e w6 ⟨gn, cn, rfl, hrn, hb6⟩)
        have hrN : Reads w6 (some ⟨gn, 0, none⟩) D w6.heap.size := reads_own hrn (by rw [List.take_length])
        have hrD6 := (hrD.below hb6).mono hb6.size
        have hX6 := gbt hb6 hX5
        have hSm := same_any (some ⟨gn, 0, none⟩) (some ⟨g0, 0, none⟩) cn 256 D D w6 (by omega) hrN hrD6
        rw [hDl, show decide (D = D) = true from decide_eq_true rfl] at hSm
        have hSm2 : Calls Tryd.prog 17 #[.slice (some ⟨gn, 0, none⟩) 256 cn, .slice (some ⟨g0, 0, none⟩) 256 256] w6 fun e w' => e = .returned (.bool true) ∧ Below w6.heap.size w6 w' := hSm.mono fun e w' ⟨he, q, hq⟩ => ⟨he, by rw [hq]; exact drew_belowW _ _⟩
        clear hSm hBy
        go_wp2_with (go_at_call 17; with_reducible refine hSm2.mono ?_; rintro e w7 ⟨rfl, hb7⟩)
        go_ret
        exact ⟨rfl, gbt hb7 hX6⟩
end Go.Proofs.YtcmfephbhbgoiaaDoor
