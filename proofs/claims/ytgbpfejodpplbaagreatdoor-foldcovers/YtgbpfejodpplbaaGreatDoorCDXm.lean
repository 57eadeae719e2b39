import Derived.Test.YtgbpfejodpplbaaGreatDoorCDXp
import Derived.Test.YtgbpfejodpplbaaGreatDoorCDAw
import Derived.Test.YtgbpfejodpplbaaGreatDoorCYCl
import Derived.Test.YtgbpfejodpplbaaGreatDoorCVTk
namespace Go.Proofs.YtgbpfejodpplbaaGreatDoor
open Go.RowKit Go.WideShapes Go.Shelf
set_option maxRecDepth 100000
theorem aim_ki : ∀ op, op < 256 → aimB op = true → opKi op = 2 ∨ opKi op = 3 := by decide +kernel
theorem ld_no {L : List (Nat × Nat)} {J : List Nat} {k : Nat} (hwf : Wfc L) (h : ldB L J k = false) : k ∉ J ∧ ∀ i, i < L.length → aimB (L.getD i (0, 0)).1 = true → (L.getD i (0, 0)).2 ≠ k := by
  have h' := of_decide_eq_false h
  refine ⟨fun hj => h' (List.mem_append_right _ hj), fun i hi ha he => h' (List.mem_append_left _ (List.mem_flatMap.2 ⟨i, List.mem_range.2 hi, ?_⟩))⟩
  have hk := aim_ki _ (hwf.at hi).1 ha
  change opKi (opL L i) = 2 ∨ opKi (opL L i) = 3 at hk
  unfold gdA
  rw [if_neg (by omega), if_pos hk]
  change argL L i = k at he
  rw [he]
  simp
theorem cdp_outM {w : World} {L : List (Nat × Nat)} {J : List Nat} {ds : List Int} {z st : Nat} {M : List (ByteArray × Nat)} {e : Ending} {w' : World} (h : CdP w L J ds z st M e w') : ∃ a1 c1 a2 c2 a3 c3 a4 c4, e = .returned (imV a1 L.length c1 a2 J.length c2 a3 ds.length c3 z st a4 M.length c4) ∧ ImO w' w.heap.size a1 c1 a2 c2 a3 c3 a4 c4 L J ds M ∧ Below w.heap.size w w' := h
theorem pcp_out {w : World} {L : List (Nat × Nat)} {J : List Nat} {e : Ending} {w' : World} (h : PcP w L J e w') : ∃ v P, e = .returned (.tuple #[v, .int .i64 0]) ∧ Tls L J P ∧ smP P = L.length ∧ w'.ownsRow w.heap.size 40 4 v P.length (pcv P) ∧ Below w.heap.size w w' := h
set_option maxHeartbeats 32000000 in
theorem fcovers_any (ac aj ad an : Option Addr) (cc cj cd z st cn : Nat) (L : List (Nat × Nat)) (J : List Nat) (ds : List Int) (M : List (ByteArray × Nat)) (w : World) (hn : L.length ≤ 17592186044352) (hjn : J.length ≤ 35184372088704) (hdn : ds.length ≤ 140737488351232) (hMn : M.length * 24 ≤ 140737488355328)
    (hwf : Wfc L) (hJ : ∀ q ∈ J, q < 4294967296) (hMa : ∀ j, j < M.length → (M.getD j (.empty, 0)).2 < 4294967296) (hz : z < 4294967296) (hst : st < 4294967296)
    (hr : CRd w ac L w.heap.size) (hrJ : JRd w aj J w.heap.size) (hrD : Reads w ad ds w.heap.size) (hrN : NRd w an M w.heap.size) (hT : TabW w) (hp : 0 < w.heap.size) :
    Calls Tryz.prog 3 #[imV ac L.length cc aj J.length cj ad ds.length cd z st an M.length cn] w fun e w' => e = .returned (.bool true) ∧ Below w.heap.size w w' := by
  obtain ⟨W0, hW0⟩ : ∃ W0, w.alloc (.cells (imC ac L.length cc aj J.length cj ad ds.length cd z st an M.length cn) 28) = W0 := ⟨_, rfl⟩
  have hb0 : Below w.heap.size w W0 := by rw [← hW0]; exact belP (Below.refl _ _)
  have o0 : W0.heap[w.heap.size]? = some (.cells (imC ac L.length cc aj J.length cj ad ds.length cd z st an M.length cn) 28 (0, 0)) := by rw [← hW0]; exact heap_alloc_new _ _
  have HAw : Hid (∀ W, Below w.heap.size w W → Calls Tryz.prog 6 #[] W fun e w' => e = .returned (.bool true) ∧ Below w.heap.size w w') := hidS (fun W hW => (fawake_any W).mono (fun e w' h => ⟨h.1, btP hW h.2⟩))
  have HCo := hidS (rcopied_any ac aj ad an cc cj cd z st cn L J ds M W0 hn hjn hdn hMn ((hr.below hb0).mono hb0.size) (jrd_monoV (hrJ.below hb0) hb0.size) ((hrD.below hb0).mono hb0.size) (nrd_monoV (hrN.below hb0) hb0.size))
  have HTk : Hid (∀ (a1 a2 a3 a4 : Option Addr) (c1 c2 c3 c4 : Nat) (W : World), Below w.heap.size w W → M.length ≤ c4 → CRd W a1 L W.heap.size → JRd W a2 J W.heap.size → Reads W a3 ds W.heap.size → NRd W a4 M W.heap.size → Calls Tryz.prog 4 #[imV a1 L.length c1 a2 J.length c2 a3 ds.length c3 z st a4 M.length c4] W (TkP W L J ds z st M)) := hidS (fun a1 a2 a3 a4 c1 c2 c3 c4 W hW hc4 h1 h2 h3 h4 => take_any a1 a2 a3 a4 c1 c2 c3 z st c4 L J ds M W (by omega) (by omega) (by omega) (by omega) hwf hJ hMa hz hst hc4 h1 h2 h3 h4 (hT.below hW hp) (Nat.lt_of_lt_of_le hp hW.size))
  have HO : Hid (∀ W, Below W0.heap.size W0 W → W.cell? ⟨w.heap.size, 0, none⟩ = some (.slice ac L.length cc) ∧ W.cell? ⟨w.heap.size, 1, none⟩ = some (.slice aj J.length cj) ∧ CRd W ac L W.heap.size ∧ JRd W aj J W.heap.size) := hidS (fun W hW => by
    have hb := hb0.trans (hW.mono hb0.size)
    have ho := (hW.block _ (Array.getElem?_eq_some_iff.1 o0).1).trans o0
    exact ⟨(obj_cell ho 0).trans rfl, (obj_cell ho 1).trans rfl, (hr.below hb).mono hb.size, jrd_monoV (hrJ.below hb) hb.size⟩)
  have HB0 := hidS hb0
  have HWf := hidS hwf
  have c0 : W0.cell? ⟨w.heap.size, 0, none⟩ = some (.slice ac L.length cc) := (obj_cell o0 0).trans rfl
  have c1' : W0.cell? ⟨w.heap.size, 1, none⟩ = some (.slice aj J.length cj) := (obj_cell o0 1).trans rfl
  have c2' : W0.cell? ⟨w.heap.size, 2, none⟩ = some (.slice ad ds.length cd) := (obj_cell o0 2).trans rfl
  have c3' : W0.cell? ⟨w.heap.size, 3, none⟩ = some (.int .u32 (z : Nat)) := (obj_cell o0 3).trans rfl
  have c4' : W0.cell? ⟨w.heap.size, 4, none⟩ = some (.int .u32 (st : Nat)) := (obj_cell o0 4).trans rfl
  have c5 : W0.cell? ⟨w.heap.size, 5, none⟩ = some (.slice an M.length cn) := (obj_cell o0 5).trans rfl
  have HN := hidS (And.intro hn hjn)
  clear hr hrJ hrD hrN hT hp hb0 o0 hwf hJ hMa hz hst hn hjn hdn hMn
  go_enter Tryz.func3, Tryz.ntmps3
  go_wp2_with fail
  refine HCo.out.mono ?_
  rintro e w1 hcd
  obtain ⟨a1, k1, a2, k2, a3, k3, a4, k4, rfl, hI, hb1⟩ := cdp_outM hcd
  have HTk1 := hidS (HTk.out a1 a2 a3 a4 k1 k2 k3 k4 w1 (HB0.out.trans (hb1.mono HB0.out.size)) hI.k4 (imo_code hI) (imo_jumps hI) (imo_data hI) (imo_names hI))
  have HB1 := hidS hb1
  clear hW0 c0 c1' c2' c3' c4' c5 HCo hI hb1 hcd HTk
  go_wp2_with fail
  refine HTk1.out.mono ?_
  rintro e w2 ⟨hb2, hk⟩
  have HB2 := hidS (HB1.out.trans (hb2.mono HB1.out.size))
  clear HTk1 hb2 HB1
  rcases hk with ⟨i, x, rfl, _, _⟩ | ⟨pm, D, N, rfl, hM⟩
  · go_wp2_with fail
    refine (HAw.out _ (HB0.out.trans (HB2.out.mono HB0.out.size))).mono ?_
    rintro e w3 ⟨rfl, hb3⟩
    have HB3 := hidS hb3
    clear hb3
    go_wp2_with fail
    go_ret
    exact ⟨rfl, HB3.out⟩
  · have HPc := hidS (pieces_any hM HWf.out)
    have hl := mlen hM
    clear hM
    go_wp2_with fail
    refine HPc.out.mono ?_
    rintro e w3 hpc
    obtain ⟨v, P, rfl, hTl, hSm, hown, hb3⟩ := pcp_out hpc
    obtain ⟨ap, cp, hv⟩ : ∃ ap cp, v = .slice ap P.length cp := by
      rcases hown.2 with ⟨hn, hz⟩ | ⟨g', cap', cur', e1, e2⟩
      · exact ⟨none, 0, by rw [hn, hz]⟩
      · exact ⟨_, _, e1⟩
    subst hv
    have HB3 := hidS (HB2.out.trans (hb3.mono HB2.out.size))
    have HPr : Hid (∀ W i, Below w3.heap.size w3 W → i < P.length → ∃ g, ap = some ⟨g, 0, none⟩ ∧ W.cell? ⟨g, i * 4, none⟩ = some (.int .u32 ((P.getD i (0, 0, 0, 0)).1 : Nat)) ∧ W.cell? ⟨g, i * 4 + 1, none⟩ = some (.int .u32 ((P.getD i (0, 0, 0, 0)).2.1 : Nat)) ∧ W.cell? ⟨g, i * 4 + 2, none⟩ = some (.int .u8 ((P.getD i (0, 0, 0, 0)).2.2.1 : Nat)) ∧ W.cell? ⟨g, i * 4 + 3, none⟩ = some (.int .u32 ((P.getD i (0, 0, 0, 0)).2.2.2 : Nat))) := hidS (fun W i hW hi => by
      have h1 := own_belowW hown hW
      rcases h1.2 with ⟨_, hz⟩ | ⟨g', cap', cur', e1, e2⟩
      · omega
      · simp only [Value.slice.injEq] at e1
        obtain ⟨rfl, _, rfl⟩ := e1
        obtain ⟨s0, s1, s2, s3⟩ := pcv_all (0, 0, 0, 0) P i hi
        have v0 := h1.cells (g := g') rfl _ _ s0
        have v1 := h1.cells (g := g') rfl _ _ s1
        have v2 := h1.cells (g := g') rfl _ _ s2
        have v3 := h1.cells (g := g') rfl _ _ s3
        rw [add_plain, Nat.zero_add] at v0 v1 v2 v3
        exact ⟨g', rfl, v0, v1, v2, v3⟩)
    have HTl := hidS hTl
    have HSm := hidS hSm
    have HSl := hidS (fun i => Nat.le_trans (smP_le P i) (Nat.le_of_eq hSm))
    have HPl := hidS (Nat.le_trans (Tls.len (L := L) (J := J) (P := P) (fun i hi => (hTl i hi).1.len)) (Nat.le_of_eq hSm))
    have hPl : P.length ≤ 16384 := Nat.le_trans HPl.out hl
    clear hTl hSm hown hb3 hpc HPc
    go_wp2
    go_loopw [8, 9] (fun u v wr => ∃ i : Nat, v = .int .i64 i ∧ i ≤ P.length ∧ u = .int .i64 (smP (P.take i) : Nat) ∧ Below w3.heap.size w3 wr) (fun _ v _ => P.length - (intOf v).toNat)
    case atStart => exact ⟨0, rfl, Nat.zero_le _, rfl, Below.refl _ _⟩
    case round =>
      obtain ⟨i, rfl, hi, rfl, hbr⟩ := hrel
      have HBr := hidS (fun W (hW : Below wr.heap.size wr W) => HO.out W (HB3.out.trans ((hbr.trans (hW.mono hbr.size)).mono HB3.out.size)))
      by_cases hlt : i < P.length
      · have hltI : (i : Int) < (P.length : Int) := by omega
        obtain ⟨g, rfl, v0, v1, v2, v3⟩ := HPr.out wr i hbr hlt
        obtain ⟨hgd, hat⟩ := HTl.out i hlt
        have hss := smP_succ hlt
        have hsl := HSl.out (i + 1)
        rw [hat] at v0
        have HSx : Hid (smP (P.take (i + 1)) = smP (P.take i) + (P.getD i (0, 0, 0, 0)).2.1) := hidS hss
        rw [hss] at hsl
        have hgk := hgd.kd
        have hgl := hgd.len
        have HGl : Hid (∀ k, smP (P.take i) < k → k < smP (P.take i) + (P.getD i (0, 0, 0, 0)).2.1 → ldB L J k = false) := hidS (by rw [← hat]; exact hgd.ld)
        have HGr : Hid (2 ≤ (P.getD i (0, 0, 0, 0)).2.1 → ∀ k, smP (P.take i) ≤ k → k < smP (P.take i) + (P.getD i (0, 0, 0, 0)).2.1 → ovB (opL L k) = false ∧ (cmB (opL L k) = true → k + 1 = smP (P.take i) + (P.getD i (0, 0, 0, 0)).2.1)) := hidS (by rw [← hat]; exact hgd.row)
        clear hgd hat hss
        generalize smP (P.take i) = s at v0 hsl HSx HGl HGr ⊢
        generalize (P.getD i (0, 0, 0, 0)).2.1 = ln at v1 hsl HSx HGl HGr hgk hgl
        generalize (P.getD i (0, 0, 0, 0)).2.2.1 = kd at v2 hgk
        generalize (P.getD i (0, 0, 0, 0)).2.2.2 = vl at v3
        obtain ⟨kd1, kd2, kd3⟩ := hgk
        have t0 : ((s : Int) != (s : Int)) = false := by simp
        have t1 : ((ln : Int) == 0) = false := beq_eq_false_iff_ne.2 (by omega)
        have t2 : decide ((kd : Int) < 1) = false := decide_eq_false (by omega)
        have t3 : decide ((4 : Int) < (kd : Int)) = false := decide_eq_false (by omega)
        have t4 : (((kd : Int) == 1) != ((ln : Int) == 1)) = false := by
          by_cases h1 : ln = 1
          · rw [h1, kd3.2 h1]; rfl
          · rw [beq_eq_false_iff_ne.2 (show ¬ (kd : Int) = 1 by omega), beq_eq_false_iff_ne.2 (show ¬ (ln : Int) = 1 by omega)]; rfl
        have t4' : (!(((kd : Int) == 1) == ((ln : Int) == 1))) = false := t4
        have t5 : decide ((L.length : Int) < (s : Int) + (ln : Int)) = false := decide_eq_false (by omega)
        have hsI : (s : Int) + (ln : Int) ≤ 16384 := by omega
        have HK := hidS kd3
        have HW := hidS hbr
        clear kd3 hbr
        have m0 := fun o => (HBr.out (wr.alloc o) ((Below.refl _ _).alloc (Nat.le_refl _) o)).1
        go_wp2
        obtain ⟨w5, hw5⟩ : ∃ w5, wr.alloc (.cells #[.int .u32 (s : Int), .int .u32 (ln : Int), .int .u8 (kd : Int), .int .u32 (vl : Int)] 40) = w5 := ⟨_, rfl⟩
        rw [hw5]
        have hb5 : Below wr.heap.size wr w5 := by rw [← hw5]; exact belP (Below.refl _ _)
        have ho5 : w5.heap[wr.heap.size]? = some (.cells #[.int .u32 (s : Int), .int .u32 (ln : Int), .int .u8 (kd : Int), .int .u32 (vl : Int)] 40 (0, 0)) := by rw [← hw5]; exact heap_alloc_new wr _
        have HPb : Hid (∀ W, Below w5.heap.size w5 W → W.cell? ⟨wr.heap.size, 0, none⟩ = some (.int .u32 (s : Int)) ∧ W.cell? ⟨wr.heap.size, 1, none⟩ = some (.int .u32 (ln : Int))) := hidS (fun W hW => by
          have := (hW.block _ (Array.getElem?_eq_some_iff.1 ho5).1).trans ho5
          exact ⟨(obj_cell this 0).trans rfl, (obj_cell this 1).trans rfl⟩)
        have HBq := hidS (fun W (hW : Below w5.heap.size w5 W) => HBr.out W (hb5.trans (hW.mono hb5.size)))
        have HB5 := hidS hb5
        clear hw5 hb5 ho5 m0 t0 t1 t2 t3 t4 t4' t5 v0 v1 v2 v3
        go_loopw [11] (fun u wq => ∃ k : Nat, u = .int .i64 k ∧ s ≤ k ∧ k ≤ s + ln ∧ Below w5.heap.size w5 wq) (fun u _ => s + ln - (intOf u).toNat)
        case atStart => exact ⟨s, rfl, Nat.le_refl _, Nat.le_add_right _ _, Below.refl _ _⟩
        case round =>
          rename World => wq
          obtain ⟨k, rfl, hk1, hk2, hbq⟩ := hrel
          by_cases hltk : k < s + ln
          · have hltkI : (k : Int) < (s : Int) + (ln : Int) := by omega
            have hcr := (HBq.out wq hbq).2.2.1
            have HLi : Hid (k ∉ J → ∀ o, Calls Tryz.prog 8 #[.slice aj J.length cj, .int .i64 (k : Int)] (wq.alloc o) fun e w' => e = .returned (.bool false) ∧ w' = wq.alloc o) := hidS (fun hno o => glisted_no aj cj k J (wq.alloc o) hno (by omega) HN.out.2 (jrd_monoV (HBq.out _ (belP hbq)).2.2.2 (Nat.le_refl _)))
            have HAi : Hid ((∀ i, i < L.length → aimB (L.getD i (0, 0)).1 = true → (L.getD i (0, 0)).2 ≠ k) → ∀ o, Calls Tryz.prog 9 #[.slice ac L.length cc, .int .i64 (k : Int)] (wq.alloc o) fun e w' => e = .returned (.bool false) ∧ w' = wq.alloc o) := hidS (fun hno o => gaimed_no ac cc k L (wq.alloc o) hno (by omega) HN.out.1 (HBq.out _ (belP hbq)).2.2.1)
            have n0 := (HBq.out wq hbq).1
            have n1 := fun o => (HBq.out (wq.alloc o) (belP hbq)).1
            have n2 := fun o => (HBq.out (wq.alloc o) (belP hbq)).2.1
            have n3 := fun o => (HPb.out (wq.alloc o) (belP hbq)).1
            have n4 := fun o => (HPb.out (wq.alloc o) (belP hbq)).2
            have hkL : k < L.length := by omega
            have hkLI : (k : Int) < (L.length : Int) := by omega
            obtain ⟨b, off, rfl, hb, hc⟩ := hcr (by omega)
            obtain ⟨x0, x1⟩ := hc k hkL
            have hovk := fun h2 => HGr.out h2 k hk1 hltk
            have hldk := fun h1 => ld_no HWf.out (HGl.out k h1 hltk)
            have hop : (L.getD k (0, 0)).1 < 256 := (HWf.out.at hkL).1
            change 2 ≤ ln → ovB (L.getD k (0, 0)).1 = false ∧ (cmB (L.getD k (0, 0)).1 = true → k + 1 = s + ln) at hovk
            generalize (L.getD k (0, 0)).1 = op at x0 hovk hop
            generalize (L.getD k (0, 0)).2 = arg at x1
            clear hc hcr hop hkL
            by_cases hl1 : ln = 1
            · have hks : k = s := by omega
              have r0 : decide ((1 : Int) < (ln : Int)) = false := decide_eq_false (by omega)
              have r1 : decide ((s : Int) < (k : Int)) = false := decide_eq_false (by omega)
              have r1n : decide (s < k) = false := decide_eq_false (by omega)
              have hcases : op = 3 ∨ op = 5 ∨ op = 4 ∨ op = 6 ∨ op = 7 ∨ op = 2 ∨ (op ≠ 3 ∧ op ≠ 5 ∧ op ≠ 4 ∧ op ≠ 6 ∧ op ≠ 7 ∧ op ≠ 2) := by omega
              clear hovk hldk HLi HAi hks hl1
              rcases hcases with hq | hq | hq | hq | hq | hq | hq
              · have o0 : ((op : Int) == 3) = true := by rw [hq]; rfl
                have o1 : ((op : Int) == 5) = false := beq_eq_false_iff_ne.2 (by omega)
                have o2 : ((op : Int) == 4) = false := beq_eq_false_iff_ne.2 (by omega)
                have o3 : ((op : Int) == 6) = false := beq_eq_false_iff_ne.2 (by omega)
                have o4 : ((op : Int) == 7) = false := beq_eq_false_iff_ne.2 (by omega)
                have o5 : ((op : Int) == 2) = false := beq_eq_false_iff_ne.2 (by omega)
                clear hq
                go_wp2
                go_roundw
                case rel => exact ⟨k + 1, by go_num, by omega, by omega, belP hbq⟩
                case measure => simp [intOf]; omega
              · have o0 : ((op : Int) == 3) = false := beq_eq_false_iff_ne.2 (by omega)
                have o1 : ((op : Int) == 5) = true := by rw [hq]; rfl
                have o2 : ((op : Int) == 4) = false := beq_eq_false_iff_ne.2 (by omega)
                have o3 : ((op : Int) == 6) = false := beq_eq_false_iff_ne.2 (by omega)
                have o4 : ((op : Int) == 7) = false := beq_eq_false_iff_ne.2 (by omega)
                have o5 : ((op : Int) == 2) = false := beq_eq_false_iff_ne.2 (by omega)
                clear hq
                go_wp2
                go_roundw
                case rel => exact ⟨k + 1, by go_num, by omega, by omega, belP hbq⟩
                case measure => simp [intOf]; omega
              · have o0 : ((op : Int) == 3) = false := beq_eq_false_iff_ne.2 (by omega)
                have o1 : ((op : Int) == 5) = false := beq_eq_false_iff_ne.2 (by omega)
                have o2 : ((op : Int) == 4) = true := by rw [hq]; rfl
                have o3 : ((op : Int) == 6) = false := beq_eq_false_iff_ne.2 (by omega)
                have o4 : ((op : Int) == 7) = false := beq_eq_false_iff_ne.2 (by omega)
                have o5 : ((op : Int) == 2) = false := beq_eq_false_iff_ne.2 (by omega)
                clear hq
                go_wp2
                go_roundw
                case rel => exact ⟨k + 1, by go_num, by omega, by omega, belP hbq⟩
                case measure => simp [intOf]; omega
              · have o0 : ((op : Int) == 3) = false := beq_eq_false_iff_ne.2 (by omega)
                have o1 : ((op : Int) == 5) = false := beq_eq_false_iff_ne.2 (by omega)
                have o2 : ((op : Int) == 4) = false := beq_eq_false_iff_ne.2 (by omega)
                have o3 : ((op : Int) == 6) = true := by rw [hq]; rfl
                have o4 : ((op : Int) == 7) = false := beq_eq_false_iff_ne.2 (by omega)
                have o5 : ((op : Int) == 2) = false := beq_eq_false_iff_ne.2 (by omega)
                clear hq
                go_wp2
                go_roundw
                case rel => exact ⟨k + 1, by go_num, by omega, by omega, belP hbq⟩
                case measure => simp [intOf]; omega
              · have o0 : ((op : Int) == 3) = false := beq_eq_false_iff_ne.2 (by omega)
                have o1 : ((op : Int) == 5) = false := beq_eq_false_iff_ne.2 (by omega)
                have o2 : ((op : Int) == 4) = false := beq_eq_false_iff_ne.2 (by omega)
                have o3 : ((op : Int) == 6) = false := beq_eq_false_iff_ne.2 (by omega)
                have o4 : ((op : Int) == 7) = true := by rw [hq]; rfl
                have o5 : ((op : Int) == 2) = false := beq_eq_false_iff_ne.2 (by omega)
                clear hq
                go_wp2
                go_roundw
                case rel => exact ⟨k + 1, by go_num, by omega, by omega, belP hbq⟩
                case measure => simp [intOf]; omega
              · have o0 : ((op : Int) == 3) = false := beq_eq_false_iff_ne.2 (by omega)
                have o1 : ((op : Int) == 5) = false := beq_eq_false_iff_ne.2 (by omega)
                have o2 : ((op : Int) == 4) = false := beq_eq_false_iff_ne.2 (by omega)
                have o3 : ((op : Int) == 6) = false := beq_eq_false_iff_ne.2 (by omega)
                have o4 : ((op : Int) == 7) = false := beq_eq_false_iff_ne.2 (by omega)
                have o5 : ((op : Int) == 2) = true := by rw [hq]; rfl
                clear hq
                go_wp2
                go_roundw
                case rel => exact ⟨k + 1, by go_num, by omega, by omega, belP hbq⟩
                case measure => simp [intOf]; omega
              · have o0 : ((op : Int) == 3) = false := beq_eq_false_iff_ne.2 (by omega)
                have o1 : ((op : Int) == 5) = false := beq_eq_false_iff_ne.2 (by omega)
                have o2 : ((op : Int) == 4) = false := beq_eq_false_iff_ne.2 (by omega)
                have o3 : ((op : Int) == 6) = false := beq_eq_false_iff_ne.2 (by omega)
                have o4 : ((op : Int) == 7) = false := beq_eq_false_iff_ne.2 (by omega)
                have o5 : ((op : Int) == 2) = false := beq_eq_false_iff_ne.2 (by omega)
                clear hq
                go_wp2
                go_roundw
                case rel => exact ⟨k + 1, by go_num, by omega, by omega, belP hbq⟩
                case measure => simp [intOf]; omega
            · have r0 : decide ((1 : Int) < (ln : Int)) = true := decide_eq_true (by omega)
              obtain ⟨hov, hcm⟩ := hovk (by omega)
              have hov' := of_decide_eq_false hov
              have hcases : (13 ≤ op ∧ op ≤ 28 ∧ k + 1 = s + ln) ∨ (13 ≤ op ∧ ¬ op ≤ 28) ∨ ¬ 13 ≤ op := by
                by_cases h1 : 13 ≤ op
                · by_cases h2 : op ≤ 28
                  · exact .inl ⟨h1, h2, hcm (decide_eq_true ⟨h1, h2⟩)⟩
                  · exact .inr (.inl ⟨h1, h2⟩)
                · exact .inr (.inr h1)
              clear hovk hov hcm hl1
              have o0 : ((op : Int) == 3) = false := beq_eq_false_iff_ne.2 (by omega)
              have o1 : ((op : Int) == 5) = false := beq_eq_false_iff_ne.2 (by omega)
              have o2 : ((op : Int) == 4) = false := beq_eq_false_iff_ne.2 (by omega)
              have o3 : ((op : Int) == 6) = false := beq_eq_false_iff_ne.2 (by omega)
              have o4 : ((op : Int) == 7) = false := beq_eq_false_iff_ne.2 (by omega)
              have o5 : ((op : Int) == 2) = false := beq_eq_false_iff_ne.2 (by omega)
              clear hov'
              by_cases hks : k = s
              · have r1 : decide ((s : Int) < (k : Int)) = false := decide_eq_false (by omega)
                have r1n : decide (s < k) = false := decide_eq_false (by omega)
                clear hldk HLi HAi hks
                rcases hcases with ⟨h1, h2, h3⟩ | ⟨h1, h2⟩ | h1
                · have r2 : decide ((13 : Int) ≤ (op : Int)) = true := decide_eq_true (by omega)
                  have r3 : decide ((op : Int) ≤ 28) = true := decide_eq_true (by omega)
                  have r4 : ((k : Int) != (s : Int) + (ln : Int) - 1) = false := by rw [bne_eq_false_iff_eq]; omega
                  clear h3 h1 h2
                  go_wp2
                  go_roundw
                  case rel => exact ⟨k + 1, by go_num, by omega, by omega, belP hbq⟩
                  case measure => simp [intOf]; omega
                · have r2 : decide ((13 : Int) ≤ (op : Int)) = true := decide_eq_true (by omega)
                  have r3 : decide ((op : Int) ≤ 28) = false := decide_eq_false (by omega)
                  clear h1 h2
                  go_wp2
                  go_roundw
                  case rel => exact ⟨k + 1, by go_num, by omega, by omega, belP hbq⟩
                  case measure => simp [intOf]; omega
                · have r2 : decide ((13 : Int) ≤ (op : Int)) = false := decide_eq_false (by omega)
                  clear h1
                  go_wp2
                  go_roundw
                  case rel => exact ⟨k + 1, by go_num, by omega, by omega, belP hbq⟩
                  case measure => simp [intOf]; omega
              · have r1 : decide ((s : Int) < (k : Int)) = true := decide_eq_true (by omega)
                have r1n : decide (s < k) = true := decide_eq_true (by omega)
                obtain ⟨hnj, hna⟩ := hldk (by omega)
                have HLi := hidS (HLi.out hnj)
                have HAi := hidS (HAi.out hna)
                clear hldk hks hnj hna
                rcases hcases with ⟨h1, h2, h3⟩ | ⟨h1, h2⟩ | h1
                · have r2 : decide ((13 : Int) ≤ (op : Int)) = true := decide_eq_true (by omega)
                  have r3 : decide ((op : Int) ≤ 28) = true := decide_eq_true (by omega)
                  have r4 : ((k : Int) != (s : Int) + (ln : Int) - 1) = false := by rw [bne_eq_false_iff_eq]; omega
                  clear h3 h1 h2
                  go_wp2_with (first
                    | (go_at_call 8; with_reducible refine (HLi.out _).mono ?_; rintro e' w7 ⟨rfl, hq7⟩; subst w7)
                    | (go_at_call 9; with_reducible refine (HAi.out _).mono ?_; rintro e' w8 ⟨rfl, hq8⟩; subst w8))
                  go_roundw
                  case rel => exact ⟨k + 1, by go_num, by omega, by omega, belP hbq⟩
                  case measure => simp [intOf]; omega
                · have r2 : decide ((13 : Int) ≤ (op : Int)) = true := decide_eq_true (by omega)
                  have r3 : decide ((op : Int) ≤ 28) = false := decide_eq_false (by omega)
                  clear h1 h2
                  go_wp2_with (first
                    | (go_at_call 8; with_reducible refine (HLi.out _).mono ?_; rintro e' w7 ⟨rfl, hq7⟩; subst w7)
                    | (go_at_call 9; with_reducible refine (HAi.out _).mono ?_; rintro e' w8 ⟨rfl, hq8⟩; subst w8))
                  go_roundw
                  case rel => exact ⟨k + 1, by go_num, by omega, by omega, belP hbq⟩
                  case measure => simp [intOf]; omega
                · have r2 : decide ((13 : Int) ≤ (op : Int)) = false := decide_eq_false (by omega)
                  clear h1
                  go_wp2_with (first
                    | (go_at_call 8; with_reducible refine (HLi.out _).mono ?_; rintro e' w7 ⟨rfl, hq7⟩; subst w7)
                    | (go_at_call 9; with_reducible refine (HAi.out _).mono ?_; rintro e' w8 ⟨rfl, hq8⟩; subst w8))
                  go_roundw
                  case rel => exact ⟨k + 1, by go_num, by omega, by omega, belP hbq⟩
                  case measure => simp [intOf]; omega
          · have hnk : ¬ (k : Int) < (s : Int) + (ln : Int) := by omega
            have hbE := HW.out.trans ((HB5.out.trans (hbq.mono HB5.out.size)).mono HW.out.size)
            have HE := hidS hbE
            clear hbq hbE
            go_wp2
            go_roundw
            case rel => exact ⟨i + 1, by go_num, by omega, by rw [HSx.out]; go_num, HE.out⟩
            case measure => simp [intOf]; omega
      · have hnI : ¬ (i : Int) < (P.length : Int) := by omega
        have he : i = P.length := by omega
        rw [he, List.take_length, HSm.out]
        have n0 := (HBr.out wr (Below.refl _ _)).1
        have HAw2 := hidS (HAw.out wr (HB0.out.trans ((HB3.out.trans (hbr.mono HB3.out.size)).mono HB0.out.size)))
        clear hbr HBr
        go_wp2_with (go_at_call 6; with_reducible refine HAw2.out.mono ?_; rintro e' w6 ⟨rfl, hb6⟩)
        go_ret
        exact ⟨rfl, hb6⟩
end Go.Proofs.YtgbpfejodpplbaaGreatDoor
