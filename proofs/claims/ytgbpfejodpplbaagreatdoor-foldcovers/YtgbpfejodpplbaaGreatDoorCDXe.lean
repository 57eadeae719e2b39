import Derived.Test.YtgbpfejodpplbaaGreatDoorCDLg
import Derived.Test.YtgbpfejodpplbaaGreatDoorCDPm
namespace Go.Proofs.YtgbpfejodpplbaaGreatDoor
open Go.RowKit Go.WideShapes Go.Shelf
set_option maxRecDepth 100000
theorem Tryz.infoGb : (Tryz.prog.info? 4).map (fun i => (i.zero, i.size, i.bytes)) = some (some (.bool false), 1, 1) := by kernel_rfl
/-- truth values in memory -/
def GbO (W : World) (g m : Nat) (A : List Nat) : Prop := W.heap[g]? = some (.cells (lbv m A).toArray 4 (0, 0))
theorem makeG_any (n : Nat) (hn : n ≤ 70000) (w : World) : ∃ w', (Instr.makeSlice 98 (.int .i64 (n : Int)) (.int .i64 (n : Int))).run Tryz.prog w = .ok (.slice (some ⟨w.heap.size, 0, none⟩) n n) w' ∧ GbO w' w.heap.size n [] ∧ Below w.heap.size w w' := by
  obtain ⟨i0, hi, hz0, hz1, hz2⟩ := info_parts Tryz.infoGb
  obtain ⟨w', h1, h2, h3⟩ := run_make_full (P := Tryz.prog) w w.heap.size 98 4 i0 (.bool false) 1 Tryz.underlying98 hi hz0 hz1 .i64 .i64 n (by rw [hz2]; omega) (by unfold maxLen; omega) (Nat.le_refl _)
  refine ⟨w', h1, ?_, ⟨h3.os, h3.tape, h3.output, h3.size, fun k hk => h3.block k hk (by simp)⟩⟩
  rw [Nat.mul_one, show (Value.bool false).cells = #[.bool false] from rfl, toList_madeCells_one] at h2
  obtain ⟨_, ⟨hn, _⟩ | ⟨g, cap, cur, e1, _, e3, _, _, e6, e7⟩⟩ := h2
  · cases hn
  · cases e1
    unfold GbO
    rw [e3, lbv_nil]
    congr 2
    rw [Nat.mul_one] at e6 e7
    apply Array.toList_inj.1
    rw [List.take_of_length_le (by simp [e6])] at e7
    rw [e7]
/-- truth values that are being laid -/
structure EnS (w : World) (g m : Nat) (A : List Nat) (W : World) : Prop where
  bel : Below w.heap.size w W
  ob : GbO W g m A
  ge : w.heap.size ≤ g
theorem EnS.lt {w : World} {g m : Nat} {A : List Nat} {W : World} (h : EnS w g m A W) : g < W.heap.size := (Array.getElem?_eq_some_iff.1 h.ob).1
theorem EnS.step {w : World} {g m : Nat} {A : List Nat} {W V : World} (h : EnS w g m A W) (hb : Below W.heap.size W V) : EnS w g m A V := ⟨h.bel.trans (hb.mono h.bel.size), (hb.block g h.lt).trans h.ob, h.ge⟩
theorem EnS.alloc {w : World} {g m : Nat} {A : List Nat} {W : World} (h : EnS w g m A W) (o : Obj) : EnS w g m A (W.alloc o) := h.step ((Below.refl _ _).alloc (Nat.le_refl _) o)
theorem EnS.put {w : World} {g m : Nat} {A : List Nat} {W : World} (h : EnS w g m A W) {x : Nat} (hx : x < m) : EnS w g m (A ++ [x]) (W.setCell ⟨g, x, none⟩ (.bool true)) := by
  refine ⟨h.bel.setCell h.ge _, ?_, h.ge⟩
  unfold GbO
  rw [heap_setCell_same W g x _ _ _ h.ob, ← lbv_put A hx]
  congr 2
  simp
theorem EnS.cell {w : World} {g m : Nat} {A : List Nat} {W : World} (h : EnS w g m A W) {x : Nat} (hx : x < m) : W.cell? ⟨g, x, none⟩ = some (.bool (decide (x ∈ A))) := by
  rw [obj_cell h.ob x]
  have := lbv_get A hx
  simpa using this
theorem EnS.thaw {w : World} {g m : Nat} {A : List Nat} {W : World} (h : EnS w g m A W) (x : Nat) : W.frozen? ⟨g, x, none⟩ = false := obj_frozen h.ob x
theorem info_kd {op : Nat} (kd : Int) (hk : ((opKi op : Nat) : Int) = kd) (w : World) (h : op < 256) :
    Calls Tryz.prog 40 #[.int .u8 op] w fun e w' => e = .returned (.tuple #[.agg #[.string (opWd op), .int .i64 (opWi op), .int .u32 (opMo op), .int .i64 (opTa op), .int .i64 (opGi op), .int .u8 kd], .bool (isOp op)]) ∧ Below w.heap.size w w' := by
  rw [← hk]
  exact info_any op w h
theorem infoGU : (Tryz.prog.info? 25).map (fun i => (i.zero, i.size, i.bytes)) = some (some (.int .u32 0), 1, 4) := by kernel_rfl
theorem dvG_append (A B : List Nat) : dv (A ++ B) = dv A ++ dv B := by simp [dv]
set_option maxHeartbeats 16000000 in
theorem gends_any (a1 a2 a3 a4 : Option Addr) (c1 c2 nd c3 z st nn c4 : Nat) (L : List (Nat × Nat)) (J : List Nat) (M : List (ByteArray × Nat)) (w : World) (hG : FdG L J M) (hwf : Wfc L) (hJn : J.length ≤ 16384) (hr : CRd w a1 L w.heap.size) (hrJ : JRd w a2 J w.heap.size) :
    Calls Tryz.prog 18 #[imV a1 L.length c1 a2 J.length c2 a3 nd c3 z st a4 nn c4] w fun e w' => ∃ v, e = .returned v ∧ w'.ownsRow w.heap.size 25 1 v (gdE L J).length (dv (gdE L J)) ∧ Below w.heap.size w w' := by
  have hl : L.length ≤ 16384 := encX_len hG.enc
  obtain ⟨w1, hw1⟩ : ∃ w1, w.alloc (.cells (imC a1 L.length c1 a2 J.length c2 a3 nd c3 z st a4 nn c4) 28) = w1 := ⟨_, rfl⟩
  have hb1 : Below w.heap.size w w1 := by rw [← hw1]; exact belP (Below.refl _ _)
  have hz1 : w1.heap.size = w.heap.size + 1 := by rw [← hw1]; simp
  have ho1 : w1.heap[w.heap.size]? = some (.cells (imC a1 L.length c1 a2 J.length c2 a3 nd c3 z st a4 nn c4) 28) := by rw [← hw1]; exact heap_alloc_new w _
  obtain ⟨w2, hmk, hO2, hb2⟩ := makeG_any (L.length + 1) (by omega) w1
  obtain ⟨g, hg⟩ : ∃ g, w1.heap.size = g := ⟨_, rfl⟩
  have hmk' : (Instr.makeSlice 98 (.int .i64 ((L.length : Int) + 1)) (.int .i64 ((L.length : Int) + 1))).run Tryz.prog w1 = .ok (.slice (some ⟨g, 0, none⟩) (L.length + 1) (L.length + 1)) w2 := by have := hmk; push_cast at this; rw [hg] at this; exact this
  have hS0 : EnS w1 g (L.length + 1) [] w2 := ⟨hb2, hg ▸ hO2, by omega⟩
  have HC : Hid (∀ W, Below w1.heap.size w1 W → ∀ i, W.cell? ⟨w.heap.size, i, none⟩ = (imC a1 L.length c1 a2 J.length c2 a3 nd c3 z st a4 nn c4)[i]?) := hidS (fun W hW i => obj_cell ((hW.block _ (by omega)).trans ho1) i)
  have HR : Hid (∀ W, Below w1.heap.size w1 W → CRd W a1 L w.heap.size ∧ JRd W a2 J w.heap.size) := hidS (fun W hW => ⟨hr.below (hb1.trans (hW.mono hb1.size)), hrJ.below (hb1.trans (hW.mono hb1.size))⟩)
  have HIs : Hid (∀ i, i < L.length → opL L i < 256 ∧ isOp (opL L i) = true ∧ argL L i < 4294967296) := hidS (fun i hi => ⟨(hwf.at hi).1, enc_each hG.enc hi, (hwf.at hi).2⟩)
  have HGd : Hid (∀ i, i < L.length → (opKi (opL L i) = 2 ∨ opKi (opL L i) = 3) → argL L i < L.length) := hidS (fun i hi h => (gd_in hG hi (j := argL L i) (by unfold gdA; rw [if_neg (by omega), if_pos h]; simp)).2 h)
  have HJl : Hid (∀ j, j < J.length → J.getD j 0 < L.length) := hidS (fun j hj => by
    have := hG.jm j hj
    unfold okJ at this
    simp at this
    exact this.2.1)
  have hmk2 := hmk'
  rw [← hw1] at hmk2
  simp only [imC] at hmk2
  have HS0 := hidS hS0
  have HB1 := hidS hb1
  have c00 : w1.cell? ⟨w.heap.size, 0, none⟩ = some (.slice a1 L.length c1) := (HC.out w1 (Below.refl _ _) 0).trans rfl
  have c20 : w2.cell? ⟨w.heap.size, 0, none⟩ = some (.slice a1 L.length c1) := (HC.out w2 hb2 0).trans rfl
  have HZ := hidS hz1
  clear hr hrJ hw1 ho1 hmk hmk' hO2 hg hb2 hb1 hS0 hG hwf hz1
  go_enter Tryz.func18, Tryz.ntmps18
  go_wp2
  go_loopw [21] (fun u wr => ∃ i : Nat, i ≤ L.length ∧ u = .int .i64 i ∧ EnS w1 g (L.length + 1) ((List.range i).flatMap (gdA L)) wr)
    (fun u _ => L.length - (intOf u).toNat)
  case atStart => exact ⟨0, Nat.zero_le _, rfl, HS0.out⟩
  case round =>
    obtain ⟨i, hi, rfl, hS⟩ := hrel
    by_cases hlt : i < L.length
    · have hltI : (i : Int) < (L.length : Int) := by omega
      obtain ⟨hop, his, harg⟩ := HIs.out i hlt
      have hk := op_ki _ hop his
      obtain ⟨b, off, rfl, hbl, hc⟩ := (HR.out wr hS.bel).1 (by omega)
      obtain ⟨x0, x1⟩ := hc i hlt
      have HF := hidS (gd_succ (gdA L) i)
      have HT := hidS (HGd.out i hlt)
      have HI0 : Hid (i < L.length + 1) := hidS (by omega)
      have HI1 : Hid (i + 1 < L.length + 1) := hidS (by omega)
      have HS := hidS hS
      change wr.cell? ⟨b, off + i * 2 + 1, none⟩ = some (.int .u32 (argL L i : Nat)) at x1
      change wr.cell? ⟨b, off + i * 2, none⟩ = some (.int .u8 (opL L i : Nat)) at x0
      obtain ⟨op, hop'⟩ : ∃ op, opL L i = op := ⟨_, rfl⟩
      obtain ⟨arg, harg'⟩ : ∃ arg, argL L i = arg := ⟨_, rfl⟩
      rw [hop'] at x0 hop hk
      rw [harg'] at x1
      have HQ := hidS harg'
      clear hc hS his harg harg'
      rcases hk with hk | hk | hk | hk | hk | hk | hk | hk
      · have HI := hidS (fun w' => info_kd 1 (by rw [hk]; rfl) w' hop)
        rw [← hop'] at hk
        have HA : Hid (gdA L i = []) := hidS (by unfold gdA; simp [hk])
        clear hk hop'
        go_wp2_with (
          go_at_call 40
          refine (HI.out _).mono ?_
          rintro e w1 ⟨rfl, hb1⟩
          have S1 := hidS ((HS.out.alloc _).step hb1)
          have hO := heap_thru hb1 (heap_alloc_new wr (Obj.cells #[.int .u8 (op : Int), .int .u32 (arg : Int)] 43))
          have d1 : ∀ o, (w1.alloc o).cell? ⟨wr.heap.size, 1, none⟩ = some (.int .u32 (arg : Int)) := fun o => (obj_cell ((Below.heap_alloc _ _ _ (Array.getElem?_eq_some_iff.1 hO).1).trans hO) 1).trans rfl
          have hO := trivial
          skip)
        go_roundw
        case rel => exact ⟨i + 1, by omega, by go_num, by rw [HF.out, HA.out]; simpa [List.append_assoc] using (S1.out.alloc _)⟩
        case measure => simp [intOf]; omega
      · have HI := hidS (fun w' => info_kd 2 (by rw [hk]; rfl) w' hop)
        rw [← hop'] at hk
        have HA : Hid (gdA L i = [arg, i + 1]) := hidS (by unfold gdA; rw [if_neg (by rw [hk]; decide), if_pos (by rw [hk]; decide), HQ.out])
        have HB : Hid (arg < L.length + 1) := hidS (by have := HT.out (by rw [hk]; decide); rw [HQ.out] at this; omega)
        have hgI : (arg : Int) < ((L.length : Int) + 1) := by have := HB.out; omega
        clear hk hop'
        go_wp2_with (
          go_at_call 40
          refine (HI.out _).mono ?_
          rintro e w1 ⟨rfl, hb1⟩
          have S1 := hidS ((HS.out.alloc _).step hb1)
          have hO := heap_thru hb1 (heap_alloc_new wr (Obj.cells #[.int .u8 (op : Int), .int .u32 (arg : Int)] 43))
          have d1 : ∀ o, (w1.alloc o).cell? ⟨wr.heap.size, 1, none⟩ = some (.int .u32 (arg : Int)) := fun o => (obj_cell ((Below.heap_alloc _ _ _ (Array.getElem?_eq_some_iff.1 hO).1).trans hO) 1).trans rfl
          have hO := trivial
          obtain ⟨b1, q1⟩ : ∃ b, ∀ o, (w1.alloc o).cell? ⟨g, arg, none⟩ = some (.bool b) := ⟨_, fun o => (S1.out.alloc o).cell (x := arg) HB.out⟩
          have t1 := fun o => (S1.out.alloc o).thaw arg
          obtain ⟨b2, q2⟩ : ∃ b, ∀ o, ((w1.alloc o).setCell ⟨g, arg, none⟩ (.bool true)).cell? ⟨g, i + 1, none⟩ = some (.bool b) := ⟨_, fun o => ((S1.out.alloc o).put (x := arg) HB.out).cell (x := i + 1) HI1.out⟩
          have t2 := fun o => ((S1.out.alloc o).put (x := arg) HB.out).thaw (i + 1))
        go_roundw
        case rel => exact ⟨i + 1, by omega, by go_num, by rw [HF.out, HA.out]; simpa [List.append_assoc] using (((S1.out.alloc _).put HB.out).put HI1.out)⟩
        case measure => simp [intOf]; omega
      · have HI := hidS (fun w' => info_kd 3 (by rw [hk]; rfl) w' hop)
        rw [← hop'] at hk
        have HA : Hid (gdA L i = [arg, i + 1]) := hidS (by unfold gdA; rw [if_neg (by rw [hk]; decide), if_pos (by rw [hk]; decide), HQ.out])
        have HB : Hid (arg < L.length + 1) := hidS (by have := HT.out (by rw [hk]; decide); rw [HQ.out] at this; omega)
        have hgI : (arg : Int) < ((L.length : Int) + 1) := by have := HB.out; omega
        clear hk hop'
        go_wp2_with (
          go_at_call 40
          refine (HI.out _).mono ?_
          rintro e w1 ⟨rfl, hb1⟩
          have S1 := hidS ((HS.out.alloc _).step hb1)
          have hO := heap_thru hb1 (heap_alloc_new wr (Obj.cells #[.int .u8 (op : Int), .int .u32 (arg : Int)] 43))
          have d1 : ∀ o, (w1.alloc o).cell? ⟨wr.heap.size, 1, none⟩ = some (.int .u32 (arg : Int)) := fun o => (obj_cell ((Below.heap_alloc _ _ _ (Array.getElem?_eq_some_iff.1 hO).1).trans hO) 1).trans rfl
          have hO := trivial
          obtain ⟨b1, q1⟩ : ∃ b, ∀ o, (w1.alloc o).cell? ⟨g, arg, none⟩ = some (.bool b) := ⟨_, fun o => (S1.out.alloc o).cell (x := arg) HB.out⟩
          have t1 := fun o => (S1.out.alloc o).thaw arg
          obtain ⟨b2, q2⟩ : ∃ b, ∀ o, ((w1.alloc o).setCell ⟨g, arg, none⟩ (.bool true)).cell? ⟨g, i + 1, none⟩ = some (.bool b) := ⟨_, fun o => ((S1.out.alloc o).put (x := arg) HB.out).cell (x := i + 1) HI1.out⟩
          have t2 := fun o => ((S1.out.alloc o).put (x := arg) HB.out).thaw (i + 1))
        go_roundw
        case rel => exact ⟨i + 1, by omega, by go_num, by rw [HF.out, HA.out]; simpa [List.append_assoc] using (((S1.out.alloc _).put HB.out).put HI1.out)⟩
        case measure => simp [intOf]; omega
      · have HI := hidS (fun w' => info_kd 4 (by rw [hk]; rfl) w' hop)
        rw [← hop'] at hk
        have HA : Hid (gdA L i = [i + 1]) := hidS (by unfold gdA; rw [if_neg (by rw [hk]; decide), if_neg (by rw [hk]; decide), if_pos (by rw [hk]; decide)])
        clear hk hop'
        go_wp2_with (
          go_at_call 40
          refine (HI.out _).mono ?_
          rintro e w1 ⟨rfl, hb1⟩
          have S1 := hidS ((HS.out.alloc _).step hb1)
          have hO := heap_thru hb1 (heap_alloc_new wr (Obj.cells #[.int .u8 (op : Int), .int .u32 (arg : Int)] 43))
          have d1 : ∀ o, (w1.alloc o).cell? ⟨wr.heap.size, 1, none⟩ = some (.int .u32 (arg : Int)) := fun o => (obj_cell ((Below.heap_alloc _ _ _ (Array.getElem?_eq_some_iff.1 hO).1).trans hO) 1).trans rfl
          have hO := trivial
          obtain ⟨b1, q1⟩ : ∃ b, ∀ o, (w1.alloc o).cell? ⟨g, i + 1, none⟩ = some (.bool b) := ⟨_, fun o => (S1.out.alloc o).cell (x := i + 1) HI1.out⟩
          have t1 := fun o => (S1.out.alloc o).thaw (i + 1))
        go_roundw
        case rel => exact ⟨i + 1, by omega, by go_num, by rw [HF.out, HA.out]; simpa [List.append_assoc] using ((S1.out.alloc _).put HI1.out)⟩
        case measure => simp [intOf]; omega
      · have HI := hidS (fun w' => info_kd 5 (by rw [hk]; rfl) w' hop)
        rw [← hop'] at hk
        have HA : Hid (gdA L i = [i + 1]) := hidS (by unfold gdA; rw [if_neg (by rw [hk]; decide), if_neg (by rw [hk]; decide), if_pos (by rw [hk]; decide)])
        clear hk hop'
        go_wp2_with (
          go_at_call 40
          refine (HI.out _).mono ?_
          rintro e w1 ⟨rfl, hb1⟩
          have S1 := hidS ((HS.out.alloc _).step hb1)
          have hO := heap_thru hb1 (heap_alloc_new wr (Obj.cells #[.int .u8 (op : Int), .int .u32 (arg : Int)] 43))
          have d1 : ∀ o, (w1.alloc o).cell? ⟨wr.heap.size, 1, none⟩ = some (.int .u32 (arg : Int)) := fun o => (obj_cell ((Below.heap_alloc _ _ _ (Array.getElem?_eq_some_iff.1 hO).1).trans hO) 1).trans rfl
          have hO := trivial
          obtain ⟨b1, q1⟩ : ∃ b, ∀ o, (w1.alloc o).cell? ⟨g, i + 1, none⟩ = some (.bool b) := ⟨_, fun o => (S1.out.alloc o).cell (x := i + 1) HI1.out⟩
          have t1 := fun o => (S1.out.alloc o).thaw (i + 1))
        go_roundw
        case rel => exact ⟨i + 1, by omega, by go_num, by rw [HF.out, HA.out]; simpa [List.append_assoc] using ((S1.out.alloc _).put HI1.out)⟩
        case measure => simp [intOf]; omega
      · have HI := hidS (fun w' => info_kd 6 (by rw [hk]; rfl) w' hop)
        rw [← hop'] at hk
        have HA : Hid (gdA L i = [i]) := hidS (by unfold gdA; rw [if_pos hk])
        clear hk hop'
        go_wp2_with (
          go_at_call 40
          refine (HI.out _).mono ?_
          rintro e w1 ⟨rfl, hb1⟩
          have S1 := hidS ((HS.out.alloc _).step hb1)
          have hO := heap_thru hb1 (heap_alloc_new wr (Obj.cells #[.int .u8 (op : Int), .int .u32 (arg : Int)] 43))
          have d1 : ∀ o, (w1.alloc o).cell? ⟨wr.heap.size, 1, none⟩ = some (.int .u32 (arg : Int)) := fun o => (obj_cell ((Below.heap_alloc _ _ _ (Array.getElem?_eq_some_iff.1 hO).1).trans hO) 1).trans rfl
          have hO := trivial
          obtain ⟨b1, q1⟩ : ∃ b, ∀ o, (w1.alloc o).cell? ⟨g, i, none⟩ = some (.bool b) := ⟨_, fun o => (S1.out.alloc o).cell (x := i) HI0.out⟩
          have t1 := fun o => (S1.out.alloc o).thaw i)
        go_roundw
        case rel => exact ⟨i + 1, by omega, by go_num, by rw [HF.out, HA.out]; simpa [List.append_assoc] using ((S1.out.alloc _).put HI0.out)⟩
        case measure => simp [intOf]; omega
      · have HI := hidS (fun w' => info_kd 7 (by rw [hk]; rfl) w' hop)
        rw [← hop'] at hk
        have HA : Hid (gdA L i = [i + 1]) := hidS (by unfold gdA; rw [if_neg (by rw [hk]; decide), if_neg (by rw [hk]; decide), if_pos (by rw [hk]; decide)])
        clear hk hop'
        go_wp2_with (
          go_at_call 40
          refine (HI.out _).mono ?_
          rintro e w1 ⟨rfl, hb1⟩
          have S1 := hidS ((HS.out.alloc _).step hb1)
          have hO := heap_thru hb1 (heap_alloc_new wr (Obj.cells #[.int .u8 (op : Int), .int .u32 (arg : Int)] 43))
          have d1 : ∀ o, (w1.alloc o).cell? ⟨wr.heap.size, 1, none⟩ = some (.int .u32 (arg : Int)) := fun o => (obj_cell ((Below.heap_alloc _ _ _ (Array.getElem?_eq_some_iff.1 hO).1).trans hO) 1).trans rfl
          have hO := trivial
          obtain ⟨b1, q1⟩ : ∃ b, ∀ o, (w1.alloc o).cell? ⟨g, i + 1, none⟩ = some (.bool b) := ⟨_, fun o => (S1.out.alloc o).cell (x := i + 1) HI1.out⟩
          have t1 := fun o => (S1.out.alloc o).thaw (i + 1))
        go_roundw
        case rel => exact ⟨i + 1, by omega, by go_num, by rw [HF.out, HA.out]; simpa [List.append_assoc] using ((S1.out.alloc _).put HI1.out)⟩
        case measure => simp [intOf]; omega
      · have HI := hidS (fun w' => info_kd 8 (by rw [hk]; rfl) w' hop)
        rw [← hop'] at hk
        have HA : Hid (gdA L i = [i + 1]) := hidS (by unfold gdA; rw [if_neg (by rw [hk]; decide), if_neg (by rw [hk]; decide), if_pos (by rw [hk]; decide)])
        clear hk hop'
        go_wp2_with (
          go_at_call 40
          refine (HI.out _).mono ?_
          rintro e w1 ⟨rfl, hb1⟩
          have S1 := hidS ((HS.out.alloc _).step hb1)
          have hO := heap_thru hb1 (heap_alloc_new wr (Obj.cells #[.int .u8 (op : Int), .int .u32 (arg : Int)] 43))
          have d1 : ∀ o, (w1.alloc o).cell? ⟨wr.heap.size, 1, none⟩ = some (.int .u32 (arg : Int)) := fun o => (obj_cell ((Below.heap_alloc _ _ _ (Array.getElem?_eq_some_iff.1 hO).1).trans hO) 1).trans rfl
          have hO := trivial
          obtain ⟨b1, q1⟩ : ∃ b, ∀ o, (w1.alloc o).cell? ⟨g, i + 1, none⟩ = some (.bool b) := ⟨_, fun o => (S1.out.alloc o).cell (x := i + 1) HI1.out⟩
          have t1 := fun o => (S1.out.alloc o).thaw (i + 1))
        go_roundw
        case rel => exact ⟨i + 1, by omega, by go_num, by rw [HF.out, HA.out]; simpa [List.append_assoc] using ((S1.out.alloc _).put HI1.out)⟩
        case measure => simp [intOf]; omega
    · have hnI : ¬ (i : Int) < (L.length : Int) := by omega
      have he : i = L.length := by omega
      rw [he] at hS
      have HS := hidS hS
      have e1 : wr.cell? ⟨w.heap.size, 1, none⟩ = some (.slice a2 J.length c2) := (HC.out wr hS.bel 1).trans rfl
      clear hS he
      go_wp2
      go_loopw [63] (fun u wq => ∃ j : Nat, j ≤ J.length ∧ u = .int .i64 j ∧ EnS w1 g (L.length + 1) ((List.range L.length).flatMap (gdA L) ++ J.take j) wq)
        (fun u _ => J.length - (intOf u).toNat)
      case atStart => exact ⟨0, Nat.zero_le _, rfl, by simpa using HS.out⟩
      case round =>
        rename World => wq
        obtain ⟨j, hj, rfl, hS⟩ := hrel
        by_cases hlt : j < J.length
        · have hltI : (j : Int) < (J.length : Int) := by omega
          obtain ⟨b, off, rfl, hbl, hc⟩ := (HR.out wq hS.bel).2 (by omega)
          have x0 := hc j hlt
          have HY : Hid (J.getD j 0 < L.length + 1) := hidS (by have := HJl.out j hlt; omega)
          have HT : Hid (J.take (j + 1) = J.take j ++ [J.getD j 0]) := hidS (by
            rw [List.take_add_one, List.getElem?_eq_getElem hlt, List.getD_eq_getElem?_getD, List.getElem?_eq_getElem hlt]; rfl)
          generalize J.getD j 0 = y at x0 HY HT
          obtain ⟨b1, q1⟩ : ∃ b, wq.cell? ⟨g, y, none⟩ = some (.bool b) := ⟨_, hS.cell (x := y) HY.out⟩
          have t1 := hS.thaw y
          have hyI : (y : Int) < ((L.length : Int) + 1) := by have := HY.out; omega
          have HP := hidS (hS.put HY.out)
          clear hS hc
          go_wp2
          go_roundw
          case rel => exact ⟨j + 1, by omega, by go_num, by rw [HT.out]; simpa [List.append_assoc] using HP.out⟩
          case measure => simp [intOf]; omega
        · have hnJ : ¬ (j : Int) < (J.length : Int) := by omega
          rw [List.take_of_length_le (show J.length ≤ j by omega)] at hS
          change EnS w1 g (L.length + 1) (gdl L J) wq at hS
          have HS := hidS hS
          obtain ⟨i0, hi0, hy0, hy1, hy2⟩ := info_parts infoGU
          clear hS
          go_wp2
          go_loopw [10, 73] (fun v u wz => ∃ k : Nat, k ≤ L.length + 1 ∧ u = .int .i64 k ∧ wz.ownsRow wq.heap.size 25 1 v (els k (ldB L J)).length (dv (els k (ldB L J))) ∧ Below wq.heap.size wq wz)
            (fun _ u _ => L.length + 1 - (intOf u).toNat)
          case atStart => exact ⟨0, Nat.zero_le _, rfl, World.ownsRow_nil _ _ _ _, Below.refl _ _⟩
          case round =>
            rename World => wz
            obtain ⟨k, hk, rfl, hown, hbz⟩ := hrel
            have hS := HS.out.step hbz
            by_cases hlt : k < L.length + 1
            · have hltI : (k : Int) < ((L.length : Int) + 1) := by omega
              have q1 := hS.cell (x := k) hlt
              have HE := hidS (els_succ k (ldB L J))
              have hel := els_le k (ldB L J)
              change wz.cell? ⟨g, k, none⟩ = some (.bool (ldB L J k)) at q1
              have hwr : IntKind.u32.wrap (k : Int) = (k : Int) := by rw [IntKind.wrap_u32]; omega
              have hzz := hbz.size
              obtain ⟨la, lc, hlv⟩ : ∃ la lc, u10 = .slice la (els k (ldB L J)).length lc := by
                rcases hown.2 with ⟨hn, hz⟩ | ⟨g', cap', cur', e1, e2⟩
                · exact ⟨none, 0, by rw [hn, hz]⟩
                · exact ⟨_, _, e1⟩
              subst hlv
              cases hb : ldB L J k with
              | true =>
                rw [hb] at q1
                have HO := hidS hown
                have HBz := hidS hbz
                rw [hb] at HE
                clear hS hown hb
                generalize els k (ldB L J) = E at *
                go_wp2_with (at_builtin; refine wpList_append_own _ rfl _ _ 23 rfl wq.heap.size 25 i0 (.int .u32 0) 1 4 Tryz.underlying23 hi0 hy0 hy1 hy2 rfl (by decide) _ _ _ rfl (HO.out.alloc _) ⟨_, 0, none⟩ 1 1 [.int .u32 (k : Nat)] rfl rfl ?g1 ?g2 ?g3 ?g4 ?g5 ?_)
                case g2 => first | rfl | (intro u hu; simp at hu; subst hu; rfl)
                case g3 => first | omega | (unfold maxLen; omega)
                case g4 => omega
                case g5 => first | omega | (simp; omega)
                intro v' w5 hown' hgrow _
                have hB5 : Below wq.heap.size wq w5 := HBz.out.trans (((Below.refl _ wz).alloc hzz _).grown hgrow (by simp; omega) (fun k e => (HO.out.lt k e).1))
                have H5 : Hid (w5.ownsRow wq.heap.size 25 1 v' (E ++ [k]).length (dv (E ++ [k])) ∧ Below wq.heap.size wq w5) := hidS ⟨by rw [List.length_append, dvG_append]; exact hown', hB5⟩
                clear hown' hgrow hB5 HO HBz
                go_wp2
                go_roundw
                case rel => exact ⟨k + 1, by omega, by go_num, by rw [HE.out]; exact H5.out.1, H5.out.2⟩
                case measure => simp [intOf]; omega
              | false =>
                rw [hb] at q1 HE
                have H5 := hidS (And.intro hown hbz)
                clear hS hown hb hbz
                generalize els k (ldB L J) = E at *
                go_wp2
                go_roundw
                case rel => exact ⟨k + 1, by omega, by go_num, by rw [HE.out]; simpa using H5.out.1, H5.out.2⟩
                case measure => simp [intOf]; omega
            · have hnK : ¬ (k : Int) < ((L.length : Int) + 1) := by omega
              have he : k = L.length + 1 := by omega
              rw [he] at hown
              have hbE := HB1.out.trans (hS.bel.mono HB1.out.size)
              have hle : w.heap.size ≤ wq.heap.size := Nat.le_trans HB1.out.size HS.out.bel.size
              have HF : Hid (wz.ownsRow w.heap.size 25 1 u10 (gdE L J).length (dv (gdE L J)) ∧ Below w.heap.size w wz) := hidS ⟨own_monoV hown hle, hbE⟩
              clear hown hS hbz he hbE
              go_wp2
              exact bodyPost_ret (v := u10) (by simp [results, Tryz.f18, go_sem]) rfl ⟨u10, rfl, HF.out⟩
end Go.Proofs.YtgbpfejodpplbaaGreatDoor
