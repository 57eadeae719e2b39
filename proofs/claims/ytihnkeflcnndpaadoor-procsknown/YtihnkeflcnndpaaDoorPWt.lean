import Derived.Test.YtihnkeflcnndpaaDoorPTl
namespace Go.Proofs.YtihnkeflcnndpaaDoor
open Go.RowKit Go.WideShapes Go.Shelf
set_option maxRecDepth 100000

set_option maxHeartbeats 1000000 in
theorem plegal_any {B pp p1 g1 p2 g2 n : Nat} {lv : Value} {L : List (Nat × Nat)} {A C : List Nat} (x y : Nat) (w : World) (hy : y < 4294967296) (hL : L.length ≤ 16384) (hE : isEn L 0 = true) (h : PrS w B pp p1 g1 p2 g2 n lv (prL L) A C) :
    Calls Tryd.prog 17 #[.pointer (some ⟨pp, 0, none⟩), .int .u32 x, .int .u32 y] w fun e w' => e = .returned (.bool (hasW C y && (ofL L x == ofL L y))) ∧ Below w.heap.size w w' := by
  have hM := pmade_any pp w h.c0
  have c3 := h.c3
  have hH := has_any p2 g2 n y _ C w hy h.s2
  have HX := hidS (fun W hb => pof_any x W hL hE (h.below hb))
  have HY := hidS (fun W hb => pof_any y W hL hE (h.below hb))
  have hbX : Below w.heap.size w w := Below.refl _ _
  clear h
  cases hc : hasW C y with
  | false =>
    rw [hc] at hH
    go_enter Tryd.func17, Tryd.ntmps17
    go_wp2_with (first | (go_at_call 41; refine hM.mono ?_; rintro e w2 ⟨rfl, hw2⟩; subst hw2) | (go_at_call 42; refine hH.mono ?_; rintro e w2 ⟨rfl, hw2⟩; subst hw2))
    go_ret
    exact ⟨rfl, Below.refl _ _⟩
  | true =>
    rw [hc] at hH
    go_enter Tryd.func17, Tryd.ntmps17
    go_wp2_with (first | (go_at_call 41; refine hM.mono ?_; rintro e w2 ⟨rfl, hw2⟩; subst hw2) | (go_at_call 42; refine hH.mono ?_; rintro e w2 ⟨rfl, hw2⟩; subst hw2) | (go_at_call 14; with_reducible refine (HX.out _ hbX).mono ?_; rintro e w3 ⟨rfl, hb3⟩; clear HX; have hbX := btP hbX hb3) | (go_at_call 14; with_reducible refine (HY.out _ hbX).mono ?_; rintro e w4 ⟨rfl, hb4⟩; have hbX := btP hbX hb4))
    go_ret
    exact ⟨rfl, hbX⟩
theorem enc_each {L : List (Nat × Nat)} (h : encX L = 0) {i : Nat} (hi : i < L.length) : isOp (L.getD i (0, 0)).1 = true := by
  have hl := encX_len h
  unfold encX at h
  rw [if_neg (by omega)] at h
  by_cases ha : allOk L = true
  · have := List.all_eq_true.1 ha (L.getD i (0, 0)) (by rw [List.getD_eq_getElem?_getD, List.getElem?_eq_getElem hi]; exact List.getElem_mem hi)
    have h2 := eq_of_beq this
    unfold erV at h2
    by_cases hq : isOp (L.getD i (0, 0)).1 = false
    · rw [if_pos hq] at h2
      cases h2
    · simpa using hq
  · rw [if_neg ha] at h
    exfalso
    have hne : ∃ j, j < L.length ∧ okI (L.getD j (0, 0)) = false := by
      refine Classical.byContradiction fun hno => ha ?_
      refine allOk_of L fun j hj => ?_
      cases hq : okI (L.getD j (0, 0)) with
      | true => rfl
      | false => exact absurd ⟨j, hj, hq⟩ hno
    obtain ⟨j, hj, hq⟩ := hne
    have : ∀ m, m ≤ L.length → (∀ j, j < m → okI (L.getD j (0, 0)) = true) ∨ ∃ k, k < m ∧ okI (L.getD k (0, 0)) = false ∧ ∀ j, j < k → okI (L.getD j (0, 0)) = true := by
      intro m
      induction m with
      | zero => intro _; exact .inl (fun j hj => absurd hj (by omega))
      | succ m ih =>
        intro hm
        rcases ih (by omega) with h1 | ⟨k, h1, h2, h3⟩
        · cases hq2 : okI (L.getD m (0, 0)) with
          | true => exact .inl (fun j hj => by
              by_cases hjm : j < m
              · exact h1 j hjm
              · rw [show j = m by omega]; exact hq2)
          | false => exact .inr ⟨m, by omega, hq2, h1⟩
        · exact .inr ⟨k, by omega, h2, h3⟩
    rcases this L.length (Nat.le_refl _) with h1 | ⟨k, h1, h2, h3⟩
    · rw [h1 j hj] at hq
      cases hq
    · rw [(badAt_of L k h1 h3 h2).1] at h
      unfold okI at h2
      rw [h] at h2
      cases h2
theorem row5 {w3 : World} {cs : Array Value} {t : Nat} {v : Value} (h5 : cs[5]? = some v) {W : World} (hW : Below (w3.alloc (Obj.cells cs t)).heap.size (w3.alloc (Obj.cells cs t)) W) : W.cell? ⟨w3.heap.size, 5, none⟩ = some v :=
  (obj_cell ((hW.block w3.heap.size (by simp)).trans (heap_alloc_new w3 (Obj.cells cs t))) 5).trans h5
/-- control stays in its procedure -/
theorem within_i {L : List (Nat × Nat)} {J : List Nat} {M : List (ByteArray × Nat)} (hG : FdG L J M) {i : Nat} (hi : i < L.length) :
    isOp (L.getD i (0, 0)).1 = true ∧ (opKi (L.getD i (0, 0)).1 = 3 ∨ opKi (L.getD i (0, 0)).1 = 2 → ofL L (argL L i) = ofL L i ∧ isEn L (argL L i) = false) ∧ (endK (opKi (L.getD i (0, 0)).1) = false → ofL L (i + 1) = ofL L i) := by
  obtain ⟨q, hq, h1, h2⟩ := lies_in hG.fst hi
  rw [getD_anyP hq 0 L.length] at h1
  have hk := hG.ck q (by rw [prs_len]; exact hq)
  unfold OkP at hk
  rw [prL_get L hq] at hk
  have h3 := hk i h1 h2
  have e1 := at_in hq h1 h2
  unfold errP at h3
  generalize opKi (L.getD i (0, 0)).1 = kd at h3 ⊢
  refine ⟨enc_each hG.enc hi, fun hkd => ?_, fun hen => ?_⟩
  · have h4 : bAt L q < argL L i ∧ argL L i < bAt L (q + 1) := by
      unfold ckE at h3
      split at h3
      · cases h3
      · split at h3
        · cases h3
        · rename_i hz
          have : ((kd == 3 || kd == 2) = true) := by rcases hkd with e | e <;> simp [e]
          rw [this] at hz
          simp at hz
          exact hz
    have e2 := at_in hq (Nat.le_of_lt h4.1) h4.2
    exact ⟨by rw [e2.1, e1.1], by rw [e2.2]; exact decide_eq_false (by omega)⟩
  · have h4 : i + 1 < bAt L (q + 1) := by
      refine Nat.lt_of_le_of_ne h2 fun he => ?_
      unfold ckE at h3
      split at h3
      · cases h3
      · split at h3
        · cases h3
        · split at h3
          · cases h3
          · rename_i hz
            change i + 1 = bAt L (q + 1) at he
            simp [hen, he] at hz
    have e2 := at_in hq (k := i + 1) (Nat.le_trans h1 (Nat.le_succ i)) h4
    rw [e2.1, e1.1]
theorem jump_i {L : List (Nat × Nat)} {J : List Nat} {M : List (ByteArray × Nat)} (hG : FdG L J M) {y : Nat} (hy : y ∈ J) : isEn L y = false ∧ ¬ ofL L y < 0 := by
  obtain ⟨j, hj, he⟩ := List.getElem_of_mem hy
  have := hG.jm j hj
  unfold okJ at this
  rw [show J.getD j 0 = y by rw [List.getD_eq_getElem?_getD, List.getElem?_eq_getElem hj]; exact he] at this
  simp only [Bool.and_eq_true, decide_eq_true_eq, Bool.not_eq_true'] at this
  exact ⟨this.2.2, fun q => (ofL_neg hG.fst y).1 q this.2.1⟩
set_option maxHeartbeats 8000000 in
theorem within_any (ao aj an : Option Addr) (cap capj capn : Nat) (L : List (Nat × Nat)) (J : List Nat) (M : List (ByteArray × Nat)) (from_ to_ : Nat) (w : World) (_hfr : from_ < 4294967296) (hto : to_ < 4294967296) (hn : L.length ≤ 9223372036854775807) (hJn : J.length ≤ 9223372036854775807) (hMn : M.length ≤ 9223372036854775807) (hwf : Wfc L) (hJ : ∀ z ∈ J, z < 4294967296) (hM : ∀ j, j < M.length → (M.getD j (.empty, 0)).2 < 4294967296)
    (hr : CRd w ao L w.heap.size) (hrJ : JRd w aj J w.heap.size) (hrN : NRd w an M w.heap.size) (hT : TabW w) (hp : 0 < w.heap.size) :
    Calls Tryd.prog 5 #[.agg #[.slice ao L.length cap, .slice aj J.length capj, .slice an M.length capn], .int .u32 from_, .int .u32 to_] w fun e w' => e = .returned (.bool true) ∧ Below w.heap.size w w' := by
  have HSm := hidS (fun W hW => small_any W (hT.below hW hp) (Nat.lt_of_lt_of_le hp hW.size))
  have HFd : Hid (∀ W, Below w.heap.size w W → Calls Tryd.prog 11 #[.slice ao L.length cap, .slice aj J.length capj, .slice an M.length capn] W (FdP W L J M)) := hidS (fun W hW => find_any ao aj an cap capj capn L J M W hn hJn hMn hwf hJ hM (CRd.mono (CRd.below hr hW) hW.size) (fun q => by obtain ⟨b, o, e1, e2, e3⟩ := (hrJ.below hW) q; exact ⟨b, o, e1, Nat.lt_of_lt_of_le e2 hW.size, e3⟩) (fun q => by obtain ⟨b, o, e1, e2, e3⟩ := (hrN.below hW) q; exact ⟨b, o, e1, Nat.lt_of_lt_of_le e2 hW.size, e3⟩) (hT.below hW hp) (Nat.lt_of_lt_of_le hp hW.size))
  have HR : Hid (∀ W, Below w.heap.size w W → CRd W ao L w.heap.size) := hidS (fun W hW => CRd.below hr hW)
  have HRJ : Hid (∀ W, Below w.heap.size w W → JRd W aj J w.heap.size) := hidS (fun W hW => hrJ.below hW)
  clear hr hrJ hrN
  go_enter Tryd.func5, Tryd.ntmps5
  go_wp2_with fail
  obtain ⟨W0, hW0⟩ : ∃ W, w.alloc (Obj.cells #[.slice ao L.length cap, .slice aj J.length capj, .slice an M.length capn] 26) = W := ⟨_, rfl⟩
  have hb0 : Below w.heap.size w W0 := by rw [← hW0]; exact belP (Below.refl _ _)
  have o0 : W0.heap[w.heap.size]? = some (Obj.cells #[.slice ao L.length cap, .slice aj J.length capj, .slice an M.length capn] 26) := by rw [← hW0]; exact heap_alloc_new _ _
  rw [hW0]
  refine (HSm.out W0 hb0).mono ?_
  rintro e w1 ⟨hb1, _, _, _, _, _, _, _, _, _, rfl, _⟩
  have o1 := (hb1.block _ (Array.getElem?_eq_some_iff.1 o0).1).trans o0
  have c0 := (obj_cell o1 0).trans rfl
  have c1 := (obj_cell o1 1).trans rfl
  have c2 := (obj_cell o1 2).trans rfl
  have hb01 := btP hb0 hb1
  clear hW0 o0
  go_wp2_with fail
  refine (HFd.out w1 hb01).mono ?_
  clear c0 c1 c2
  rintro e w2 ⟨hb2, ⟨i2, x2, rfl, hx2, _⟩ | ⟨B, pp, p1, g1, p2, g2, lv, A, C, rfl, hP, hA, hC, _, _, hG⟩⟩
  · have hxI : ¬ (x2 : Int) = 0 := by omega
    have HB := hidS (btP hb01 hb2)
    clear hb2 hb01 hb1 hb0 o1
    go_wp2_with fail
    go_ret
    exact ⟨rfl, HB.out⟩
  · have hl := encX_len hG.enc
    have hE := hG.fst
    have hb02 := btP hb01 hb2
    have o2 := (hb2.block _ (Array.getElem?_eq_some_iff.1 o1).1).trans o1
    have hml : (bgs L).length ≤ 16384 := Nat.le_trans (els_le _ _) hl
    have HOF : Hid (∀ W (x : Nat) (z : Int), Below w2.heap.size w2 W → ofL L x = z → Calls Tryd.prog 14 #[.pointer (some ⟨pp, 0, none⟩), .int .u32 x] W fun e w' => e = .returned (.int .i64 z) ∧ Below W.heap.size W w') := hidS (fun W x z hW hz => by rw [← hz]; exact pof_any x W hl hE (hP.below hW))
    have HBG : Hid (∀ W (x : Nat) (z : Bool), Below w2.heap.size w2 W → x < 4294967296 → isEn L x = z → Calls Tryd.prog 15 #[.pointer (some ⟨pp, 0, none⟩), .int .u32 x] W fun e w' => e = .returned (.bool z) ∧ w' = W) := hidS (fun W x z hW hx hz => by rw [← hz, ← hA]; exact pbegins_any x W hx (hP.below hW))
    have HLG : Hid (∀ W (x y : Nat) (z : Bool), Below w2.heap.size w2 W → y < 4294967296 → (decide (y ∈ J) && (ofL L x == ofL L y)) = z → Calls Tryd.prog 17 #[.pointer (some ⟨pp, 0, none⟩), .int .u32 x, .int .u32 y] W fun e w' => e = .returned (.bool z) ∧ Below W.heap.size W w') := hidS (fun W x y z hW hy hz => by rw [← hz, ← hC]; exact plegal_any x y W hy hl hE (hP.below hW))
    have HCC : Hid (∀ W, Below w2.heap.size w2 W → W.cell? ⟨w.heap.size, 0, none⟩ = some (.slice ao L.length cap) ∧ W.cell? ⟨w.heap.size, 1, none⟩ = some (.slice aj J.length capj)) := hidS (fun W hW => ⟨(obj_cell ((hW.block _ (Array.getElem?_eq_some_iff.1 o2).1).trans o2) 0).trans rfl, (obj_cell ((hW.block _ (Array.getElem?_eq_some_iff.1 o2).1).trans o2) 1).trans rfl⟩)
    have HR2 : Hid (∀ W, Below w2.heap.size w2 W → CRd W ao L w.heap.size ∧ JRd W aj J w.heap.size) := hidS (fun W hW => ⟨HR.out W (btP hb02 hW), HRJ.out W (btP hb02 hW)⟩)
    have HG := hidS hG
    have HB02 := hidS hb02
    clear hP hA hC hb2 hb01 hb1 hb0 o1 o2 hb02 hG HSm HFd HR HRJ hml
    go_wp2_with fail
    go_loopw [10] (fun u wr => ∃ i : Nat, u = .int .i64 i ∧ i ≤ L.length ∧ Below w2.heap.size w2 wr)
      (fun u _ => L.length - (intOf u).toNat)
    case atStart => exact ⟨0, rfl, Nat.zero_le _, Below.refl _ _⟩
    case round =>
      obtain ⟨i, rfl, hi, hbw⟩ := hrel
      have cC := (HCC.out wr hbw).1
      by_cases hlt : i < L.length
      · have hltI : (i : Int) < (L.length : Int) := by omega
        obtain ⟨bb, off, rfl, hbb, hcc⟩ := (HR2.out wr hbw).1 (by omega)
        have v0 := (hcc i hlt).1
        have hop8 := (hwf.at hlt).1
        have harg32 : argL L i < 4294967296 := (hwf.at hlt).2
        obtain ⟨w1i, w2i, w3i⟩ := within_i HG.out hlt
        have hIn := info_any (L.getD i (0, 0)).1 wr hop8
        rw [w1i] at hIn
        have HV1 : Hid (∀ W, Below w2.heap.size w2 W → W.cell? ⟨bb, off + i * 2 + 1, none⟩ = some (.int .u32 (argL L i : Nat))) := hidS (fun W hW => by
          obtain ⟨b2, off2, e1, _, e3⟩ := (HR2.out W hW).1 (by omega)
          cases e1
          exact (e3 i hlt).2)
        generalize argL L i = arg at harg32 w2i HV1
        generalize (L.getD i (0, 0)).1 = op at v0 hop8 w2i w3i hIn
        generalize opKi op = kd at w2i w3i hIn
        generalize opWd op = a0 at hIn
        generalize opWi op = a1 at hIn
        generalize opMo op = a2 at hIn
        generalize opTa op = a3 at hIn
        generalize opGi op = a4 at hIn
        obtain ⟨zi, hzi⟩ : ∃ z, ofL L i = z := ⟨_, rfl⟩
        have HOI : Hid (∀ W, Below w2.heap.size w2 W → Calls Tryd.prog 14 #[.pointer (some ⟨pp, 0, none⟩), .int .u32 (i : Int)] W fun e w' => e = .returned (.int .i64 zi) ∧ Below W.heap.size W w') := hidS (fun W hW => HOF.out W i zi hW hzi)
        have HOA : Hid (kd = 3 ∨ kd = 2 → ∀ W, Below w2.heap.size w2 W → Calls Tryd.prog 14 #[.pointer (some ⟨pp, 0, none⟩), .int .u32 (arg : Int)] W fun e w' => e = .returned (.int .i64 zi) ∧ Below W.heap.size W w') := hidS (fun hk W hW => HOF.out W arg zi hW ((w2i hk).1.trans hzi))
        have HBA : Hid (kd = 3 ∨ kd = 2 → ∀ W, Below w2.heap.size w2 W → Calls Tryd.prog 15 #[.pointer (some ⟨pp, 0, none⟩), .int .u32 (arg : Int)] W fun e w' => e = .returned (.bool false) ∧ w' = W) := hidS (fun hk W hW => HBG.out W arg false hW harg32 (w2i hk).2)
        have HON : Hid (endK kd = false → ∀ W, Below w2.heap.size w2 W → Calls Tryd.prog 14 #[.pointer (some ⟨pp, 0, none⟩), .int .u32 ((i : Int) + 1)] W fun e w' => e = .returned (.int .i64 zi) ∧ Below W.heap.size W w') := hidS (fun hk W hW => by
          have := HOF.out W (i + 1) zi hW ((w3i hk).trans hzi)
          rw [show ((i + 1 : Nat) : Int) = (i : Int) + 1 by omega] at this
          exact this)
        have hi32 : i + 1 < 4294967296 := by omega
        have HB0 := hidS hbw
        clear w1i w2i w3i hzi hcc hop8
        by_cases h3 : kd = 3
        · subst h3
          rw [show ((3 : Nat) : Int) = 3 from rfl] at hIn
          have HOA2 := hidS (HOA.out (.inl rfl))
          have HBA2 := hidS (HBA.out (.inl rfl))
          clear HOA HBA HON
          go_wp2_with (first
            | (go_at_call 16; refine hIn.mono ?_; rintro e1 w3 ⟨rfl, hb3⟩; have hbX := belP (o := Obj.cells #[.string a0, .int .i64 (a1 : Int), .int .u32 (a2 : Int), .int .i64 (a3 : Int), .int .i64 (a4 : Int), .int .u8 3] 54) (btP hbw hb3); have cX := (HCC.out _ hbX).1; have v1 := HV1.out _ hbX; have hbR := Below.refl (w3.alloc (Obj.cells #[.string a0, .int .i64 (a1 : Int), .int .u32 (a2 : Int), .int .i64 (a3 : Int), .int .i64 (a4 : Int), .int .u8 3] 54)).heap.size (w3.alloc (Obj.cells #[.string a0, .int .i64 (a1 : Int), .int .u32 (a2 : Int), .int .i64 (a3 : Int), .int .i64 (a4 : Int), .int .u8 3] 54)))
            | (go_at_call 14; with_reducible refine (HOA2.out _ hbX).mono ?_; rintro e2 w4 ⟨rfl, hb4⟩; have hbX := btP hbX hb4; have hbR := btP hbR hb4; have c5 := row5 rfl hbR)
            | (go_at_call 15; with_reducible refine (HBA2.out _ hbX).mono ?_; rintro e3 w5 ⟨rfl, hw5⟩; subst hw5)
            | (go_at_call 14; with_reducible refine (HOI.out _ hbX).mono ?_; rintro e5 w7 ⟨rfl, hb7⟩; have hbX := btP hbX hb7; have hbR := btP hbR hb7; have c5 := row5 rfl hbR))
          go_roundw
          case rel => exact ⟨i + 1, by go_num, by omega, hbX⟩
          case measure => simp [intOf]; omega
        by_cases h2 : kd = 2
        · subst h2
          rw [show ((2 : Nat) : Int) = 2 from rfl] at hIn
          have HOA2 := hidS (HOA.out (.inr rfl))
          have HBA2 := hidS (HBA.out (.inr rfl))
          have HON2 := hidS (HON.out rfl)
          clear HOA HBA HON
          go_wp2_with (first
            | (go_at_call 16; refine hIn.mono ?_; rintro e1 w3 ⟨rfl, hb3⟩; have hbX := belP (o := Obj.cells #[.string a0, .int .i64 (a1 : Int), .int .u32 (a2 : Int), .int .i64 (a3 : Int), .int .i64 (a4 : Int), .int .u8 2] 54) (btP hbw hb3); have cX := (HCC.out _ hbX).1; have v1 := HV1.out _ hbX; have hbR := Below.refl (w3.alloc (Obj.cells #[.string a0, .int .i64 (a1 : Int), .int .u32 (a2 : Int), .int .i64 (a3 : Int), .int .i64 (a4 : Int), .int .u8 2] 54)).heap.size (w3.alloc (Obj.cells #[.string a0, .int .i64 (a1 : Int), .int .u32 (a2 : Int), .int .i64 (a3 : Int), .int .i64 (a4 : Int), .int .u8 2] 54)))
            | (go_at_call 14; with_reducible refine (HOA2.out _ hbX).mono ?_; rintro e2 w4 ⟨rfl, hb4⟩; have hbX := btP hbX hb4; have hbR := btP hbR hb4; have c5 := row5 rfl hbR)
            | (go_at_call 15; with_reducible refine (HBA2.out _ hbX).mono ?_; rintro e3 w5 ⟨rfl, hw5⟩; subst hw5)
            | (go_at_call 14; with_reducible refine (HON2.out _ hbX).mono ?_; rintro e4 w6 ⟨rfl, hb6⟩; have hbX := btP hbX hb6; have hbR := btP hbR hb6; have c5 := row5 rfl hbR)
            | (go_at_call 14; with_reducible refine (HOI.out _ hbX).mono ?_; rintro e5 w7 ⟨rfl, hb7⟩; have hbX := btP hbX hb7; have hbR := btP hbR hb7; have c5 := row5 rfl hbR))
          go_roundw
          case rel => exact ⟨i + 1, by go_num, by omega, hbX⟩
          case measure => simp [intOf]; omega
        by_cases h4 : kd = 4
        · subst h4
          rw [show ((4 : Nat) : Int) = 4 from rfl] at hIn
          clear HOA HBA HON
          go_wp2_with (first
            | (go_at_call 16; refine hIn.mono ?_; rintro e1 w3 ⟨rfl, hb3⟩; have hbX := belP (o := Obj.cells #[.string a0, .int .i64 (a1 : Int), .int .u32 (a2 : Int), .int .i64 (a3 : Int), .int .i64 (a4 : Int), .int .u8 4] 54) (btP hbw hb3); have cX := (HCC.out _ hbX).1; have v1 := HV1.out _ hbX; have hbR := Below.refl (w3.alloc (Obj.cells #[.string a0, .int .i64 (a1 : Int), .int .u32 (a2 : Int), .int .i64 (a3 : Int), .int .i64 (a4 : Int), .int .u8 4] 54)).heap.size (w3.alloc (Obj.cells #[.string a0, .int .i64 (a1 : Int), .int .u32 (a2 : Int), .int .i64 (a3 : Int), .int .i64 (a4 : Int), .int .u8 4] 54)))
            | (go_at_call 14; with_reducible refine (HOI.out _ hbX).mono ?_; rintro e5 w7 ⟨rfl, hb7⟩; have hbX := btP hbX hb7; have hbR := btP hbR hb7; have c5 := row5 rfl hbR))
          go_roundw
          case rel => exact ⟨i + 1, by go_num, by omega, hbX⟩
          case measure => simp [intOf]; omega
        by_cases h7 : kd = 7
        · subst h7
          rw [show ((7 : Nat) : Int) = 7 from rfl] at hIn
          clear HOA HBA HON
          go_wp2_with (first
            | (go_at_call 16; refine hIn.mono ?_; rintro e1 w3 ⟨rfl, hb3⟩; have hbX := belP (o := Obj.cells #[.string a0, .int .i64 (a1 : Int), .int .u32 (a2 : Int), .int .i64 (a3 : Int), .int .i64 (a4 : Int), .int .u8 7] 54) (btP hbw hb3); have cX := (HCC.out _ hbX).1; have v1 := HV1.out _ hbX; have hbR := Below.refl (w3.alloc (Obj.cells #[.string a0, .int .i64 (a1 : Int), .int .u32 (a2 : Int), .int .i64 (a3 : Int), .int .i64 (a4 : Int), .int .u8 7] 54)).heap.size (w3.alloc (Obj.cells #[.string a0, .int .i64 (a1 : Int), .int .u32 (a2 : Int), .int .i64 (a3 : Int), .int .i64 (a4 : Int), .int .u8 7] 54)))
            | (go_at_call 14; with_reducible refine (HOI.out _ hbX).mono ?_; rintro e5 w7 ⟨rfl, hb7⟩; have hbX := btP hbX hb7; have hbR := btP hbR hb7; have c5 := row5 rfl hbR))
          go_roundw
          case rel => exact ⟨i + 1, by go_num, by omega, hbX⟩
          case measure => simp [intOf]; omega
        by_cases h8 : kd = 8
        · subst h8
          rw [show ((8 : Nat) : Int) = 8 from rfl] at hIn
          clear HOA HBA HON
          go_wp2_with (first
            | (go_at_call 16; refine hIn.mono ?_; rintro e1 w3 ⟨rfl, hb3⟩; have hbX := belP (o := Obj.cells #[.string a0, .int .i64 (a1 : Int), .int .u32 (a2 : Int), .int .i64 (a3 : Int), .int .i64 (a4 : Int), .int .u8 8] 54) (btP hbw hb3); have cX := (HCC.out _ hbX).1; have v1 := HV1.out _ hbX; have hbR := Below.refl (w3.alloc (Obj.cells #[.string a0, .int .i64 (a1 : Int), .int .u32 (a2 : Int), .int .i64 (a3 : Int), .int .i64 (a4 : Int), .int .u8 8] 54)).heap.size (w3.alloc (Obj.cells #[.string a0, .int .i64 (a1 : Int), .int .u32 (a2 : Int), .int .i64 (a3 : Int), .int .i64 (a4 : Int), .int .u8 8] 54)))
            | (go_at_call 14; with_reducible refine (HOI.out _ hbX).mono ?_; rintro e5 w7 ⟨rfl, hb7⟩; have hbX := btP hbX hb7; have hbR := btP hbR hb7; have c5 := row5 rfl hbR))
          go_roundw
          case rel => exact ⟨i + 1, by go_num, by omega, hbX⟩
          case measure => simp [intOf]; omega
        have hend : endK kd = false := by simp [endK, h3, h4, h7, h8]
        have n3 : ((kd : Int) == 3) = false := beq_eq_false_iff_ne.2 (by omega)
        have n2 : ((kd : Int) == 2) = false := beq_eq_false_iff_ne.2 (by omega)
        have m3 : ((kd : Int) != 3) = true := bne_iff_ne.2 (by omega)
        have m4 : ((kd : Int) != 4) = true := bne_iff_ne.2 (by omega)
        have m7 : ((kd : Int) != 7) = true := bne_iff_ne.2 (by omega)
        have m8 : ((kd : Int) != 8) = true := bne_iff_ne.2 (by omega)
        have HON2 := hidS (HON.out hend)
        clear h3 h2 h4 h7 h8 HOA HBA HON
        go_wp2_with (first
          | (go_at_call 16; refine hIn.mono ?_; rintro e1 w3 ⟨rfl, hb3⟩; have hbX := belP (o := Obj.cells #[.string a0, .int .i64 (a1 : Int), .int .u32 (a2 : Int), .int .i64 (a3 : Int), .int .i64 (a4 : Int), .int .u8 (kd : Int)] 54) (btP hbw hb3); have cX := (HCC.out _ hbX).1; have v1 := HV1.out _ hbX; have hbR := Below.refl (w3.alloc (Obj.cells #[.string a0, .int .i64 (a1 : Int), .int .u32 (a2 : Int), .int .i64 (a3 : Int), .int .i64 (a4 : Int), .int .u8 (kd : Int)] 54)).heap.size (w3.alloc (Obj.cells #[.string a0, .int .i64 (a1 : Int), .int .u32 (a2 : Int), .int .i64 (a3 : Int), .int .i64 (a4 : Int), .int .u8 (kd : Int)] 54)))
          | (go_at_call 14; with_reducible refine (HON2.out _ hbX).mono ?_; rintro e4 w6 ⟨rfl, hb6⟩; have hbX := btP hbX hb6; have hbR := btP hbR hb6; have c5 := row5 rfl hbR)
          | (go_at_call 14; with_reducible refine (HOI.out _ hbX).mono ?_; rintro e5 w7 ⟨rfl, hb7⟩; have hbX := btP hbX hb7; have hbR := btP hbR hb7; have c5 := row5 rfl hbR))
        go_roundw
        case rel => exact ⟨i + 1, by go_num, by omega, hbX⟩
        case measure => simp [intOf]; omega
      · have hltI : ¬ (i : Int) < (L.length : Int) := by omega
        have HLP : ∀ U (a' : Act), Below w2.heap.size w2 U → True := fun _ _ _ => trivial
        clear HLP
        cases hlq : decide (to_ ∈ J) && (ofL L from_ == ofL L to_) with
        | false =>
          have hlg := HLG.out wr from_ to_ _ hbw hto hlq
          have HQ := hidS hlq
          clear hlq
          go_wp2_with (go_at_call 17; with_reducible refine hlg.mono ?_; rintro e1 w3 ⟨rfl, hb3⟩; have hbX := btP hbw hb3)
          go_loopw [15] (fun u wr => ∃ j : Nat, u = .int .i64 j ∧ j ≤ J.length ∧ Below w2.heap.size w2 wr)
            (fun u _ => J.length - (intOf u).toNat)
          case atStart => exact ⟨0, rfl, Nat.zero_le _, hbX⟩
          case round =>
            obtain ⟨j, rfl, hj, hbj⟩ := hrel
            have cJ := (HCC.out wr hbj).2
            by_cases hjt : j < J.length
            · have hjI : (j : Int) < (J.length : Int) := by omega
              obtain ⟨bj, offj, rfl, hbb, hcj⟩ := (HR2.out wr hbj).2 (by omega)
              have vj := hcj j hjt
              have hmem : J.getD j 0 ∈ J := getD_memP hjt
              have h32 := hJ _ hmem
              obtain ⟨hen2, hneg2⟩ := jump_i HG.out hmem
              have hlg2 := HLG.out wr (J.getD j 0) (J.getD j 0) true hbj h32 (by rw [decide_eq_true hmem]; simp)
              obtain ⟨z, hz⟩ : ∃ z, J.getD j 0 = z := ⟨_, rfl⟩
              rw [hz] at vj hen2 hneg2 hlg2 h32
              obtain ⟨zo, hzo⟩ : ∃ zo, ofL L z = zo := ⟨_, rfl⟩
              rw [hzo] at hneg2
              have HO3 : Hid (∀ W, Below w2.heap.size w2 W → Calls Tryd.prog 14 #[.pointer (some ⟨pp, 0, none⟩), .int .u32 (z : Int)] W fun e w' => e = .returned (.int .i64 zo) ∧ Below W.heap.size W w') := hidS (fun W hW => HOF.out W z zo hW hzo)
              have HB3 : Hid (∀ W, Below w2.heap.size w2 W → Calls Tryd.prog 15 #[.pointer (some ⟨pp, 0, none⟩), .int .u32 (z : Int)] W fun e w' => e = .returned (.bool false) ∧ w' = W) := hidS (fun W hW => HBG.out W z false hW h32 hen2)
              clear hcj hz hzo hen2 hmem
              go_wp2_with (first
                | (go_at_call 17; with_reducible refine hlg2.mono ?_; rintro e1 w8 ⟨rfl, hb8⟩; have hbY := btP hbj hb8)
                | (go_at_call 14; with_reducible refine (HO3.out _ hbY).mono ?_; rintro e2 w9 ⟨rfl, hb9⟩; have hbY := btP hbY hb9)
                | (go_at_call 15; with_reducible refine (HB3.out _ hbY).mono ?_; rintro e4 w10 ⟨rfl, hw10⟩; subst hw10))
              go_roundw
              case rel => exact ⟨j + 1, by go_num, by omega, hbY⟩
              case measure => simp [intOf]; omega
            · have hjI : ¬ (j : Int) < (J.length : Int) := by omega
              go_wp2_with fail
              go_ret
              exact ⟨rfl, btP HB02.out hbj⟩
        | true =>
          have hlg := HLG.out wr from_ to_ _ hbw hto hlq
          rw [Bool.and_eq_true, decide_eq_true_eq, beq_iff_eq] at hlq
          obtain ⟨hen, hneg⟩ := jump_i HG.out hlq.1
          obtain ⟨zt, hzt⟩ : ∃ z, ofL L to_ = z := ⟨_, rfl⟩
          rw [hzt] at hneg
          have HO1 : Hid (∀ W, Below w2.heap.size w2 W → Calls Tryd.prog 14 #[.pointer (some ⟨pp, 0, none⟩), .int .u32 (from_ : Int)] W fun e w' => e = .returned (.int .i64 zt) ∧ Below W.heap.size W w') := hidS (fun W hW => HOF.out W from_ zt hW (hlq.2.trans hzt))
          have HO2 : Hid (∀ W, Below w2.heap.size w2 W → Calls Tryd.prog 14 #[.pointer (some ⟨pp, 0, none⟩), .int .u32 (to_ : Int)] W fun e w' => e = .returned (.int .i64 zt) ∧ Below W.heap.size W w') := hidS (fun W hW => HOF.out W to_ zt hW hzt)
          have HB2 : Hid (∀ W, Below w2.heap.size w2 W → Calls Tryd.prog 15 #[.pointer (some ⟨pp, 0, none⟩), .int .u32 (to_ : Int)] W fun e w' => e = .returned (.bool false) ∧ w' = W) := hidS (fun W hW => HBG.out W to_ false hW hto hen)
          clear hlq hzt hen
          go_wp2_with (first
            | (go_at_call 17; with_reducible refine hlg.mono ?_; rintro e1 w3 ⟨rfl, hb3⟩; have hbX := btP hbw hb3)
            | (go_at_call 14; with_reducible refine (HO1.out _ hbX).mono ?_; rintro e2 w4 ⟨rfl, hb4⟩; have hbX := btP hbX hb4)
            | (go_at_call 14; with_reducible refine (HO2.out _ hbX).mono ?_; rintro e3 w5 ⟨rfl, hb5⟩; have hbX := btP hbX hb5)
            | (go_at_call 15; with_reducible refine (HB2.out _ hbX).mono ?_; rintro e4 w6 ⟨rfl, hw6⟩; subst hw6))
          go_loopw [15] (fun u wr => ∃ j : Nat, u = .int .i64 j ∧ j ≤ J.length ∧ Below w2.heap.size w2 wr)
            (fun u _ => J.length - (intOf u).toNat)
          case atStart => exact ⟨0, rfl, Nat.zero_le _, hbX⟩
          case round =>
            obtain ⟨j, rfl, hj, hbj⟩ := hrel
            have cJ := (HCC.out wr hbj).2
            by_cases hjt : j < J.length
            · have hjI : (j : Int) < (J.length : Int) := by omega
              obtain ⟨bj, offj, rfl, hbb, hcj⟩ := (HR2.out wr hbj).2 (by omega)
              have vj := hcj j hjt
              have hmem : J.getD j 0 ∈ J := getD_memP hjt
              have h32 := hJ _ hmem
              obtain ⟨hen2, hneg2⟩ := jump_i HG.out hmem
              have hlg2 := HLG.out wr (J.getD j 0) (J.getD j 0) true hbj h32 (by rw [decide_eq_true hmem]; simp)
              obtain ⟨z, hz⟩ : ∃ z, J.getD j 0 = z := ⟨_, rfl⟩
              rw [hz] at vj hen2 hneg2 hlg2 h32
              obtain ⟨zo, hzo⟩ : ∃ zo, ofL L z = zo := ⟨_, rfl⟩
              rw [hzo] at hneg2
              have HO3 : Hid (∀ W, Below w2.heap.size w2 W → Calls Tryd.prog 14 #[.pointer (some ⟨pp, 0, none⟩), .int .u32 (z : Int)] W fun e w' => e = .returned (.int .i64 zo) ∧ Below W.heap.size W w') := hidS (fun W hW => HOF.out W z zo hW hzo)
              have HB3 : Hid (∀ W, Below w2.heap.size w2 W → Calls Tryd.prog 15 #[.pointer (some ⟨pp, 0, none⟩), .int .u32 (z : Int)] W fun e w' => e = .returned (.bool false) ∧ w' = W) := hidS (fun W hW => HBG.out W z false hW h32 hen2)
              clear hcj hz hzo hen2 hmem
              go_wp2_with (first
                | (go_at_call 17; with_reducible refine hlg2.mono ?_; rintro e1 w8 ⟨rfl, hb8⟩; have hbY := btP hbj hb8)
                | (go_at_call 14; with_reducible refine (HO3.out _ hbY).mono ?_; rintro e2 w9 ⟨rfl, hb9⟩; have hbY := btP hbY hb9)
                | (go_at_call 15; with_reducible refine (HB3.out _ hbY).mono ?_; rintro e4 w10 ⟨rfl, hw10⟩; subst hw10))
              go_roundw
              case rel => exact ⟨j + 1, by go_num, by omega, hbY⟩
              case measure => simp [intOf]; omega
            · have hjI : ¬ (j : Int) < (J.length : Int) := by omega
              go_wp2_with fail
              go_ret
              exact ⟨rfl, btP HB02.out hbj⟩
end Go.Proofs.YtihnkeflcnndpaaDoor
