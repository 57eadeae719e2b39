import Derived.Test.YtgbpfejodpplbaaGreatDoorCVCk
import Derived.Test.YtgbpfejodpplbaaGreatDoorCVRw
import Derived.Test.YtgbpfejodpplbaaGreatDoorCVWn
import Derived.Test.YtgbpfejodpplbaaGreatDoorCPPr
namespace Go.Proofs.YtgbpfejodpplbaaGreatDoor
open Go.RowKit Go.WideShapes Go.Shelf
set_option maxRecDepth 100000

/-- a module in memory -/
structure ModS (w : World) (B pm : Nat) (a1 : Option Addr) (c1 : Nat) (a2 : Option Addr) (c2 : Nat) (a3 : Option Addr) (c3 : Nat) (a4 : Option Addr) (c4 bits Bp pp p1 g1 p2 g2 : Nat) (lv lw : Value) (A C : List Nat) (gd cp : Nat) (L : List (Nat × Nat)) (J : List Nat) (ds : List Int) (z st : Nat) (M : List (ByteArray × Nat)) (D N : List Int) : Prop where
  obj : w.heap[pm]? = some (.cells #[.pointer (some ⟨pm, 0, none⟩), .slice a1 L.length c1, .slice a2 J.length c2, .slice a3 ds.length c3, .int .u32 (z : Nat), .int .u32 (st : Nat), .slice a4 M.length c4, .int .i64 (bits : Nat), .pointer (some ⟨pp, 0, none⟩), lw, .slice (some ⟨gd, 0, none⟩) D.length cp] 62 (0, 0))
  im : ImO w B a1 c1 a2 c2 a3 c3 a4 c4 L J ds M
  prs : PrS w Bp pp p1 g1 p2 g2 L.length lv (prL L) A C
  list : w.ownsRow B 94 4 lw (prL L).length (pnv (pnL (prL L) N (prL L).length))
  dep : DpW w B gd cp D
  bk : ∀ k ∈ [pp, p1, g1, p2, g2], B ≤ k
  bp : B ≤ Bp
theorem ModS.below {w w' : World} {B pm : Nat} {a1 : Option Addr} {c1 : Nat} {a2 : Option Addr} {c2 : Nat} {a3 : Option Addr} {c3 : Nat} {a4 : Option Addr} {c4 bits Bp pp p1 g1 p2 g2 : Nat} {lv lw : Value} {A C : List Nat} {gd cp : Nat} {L : List (Nat × Nat)} {J : List Nat} {ds : List Int} {z st : Nat} {M : List (ByteArray × Nat)} {D N : List Int}
    (h : ModS w B pm a1 c1 a2 c2 a3 c3 a4 c4 bits Bp pp p1 g1 p2 g2 lv lw A C gd cp L J ds z st M D N) (hb : Below w.heap.size w w') : ModS w' B pm a1 c1 a2 c2 a3 c3 a4 c4 bits Bp pp p1 g1 p2 g2 lv lw A C gd cp L J ds z st M D N :=
  ⟨(hb.block pm (Array.getElem?_eq_some_iff.1 h.obj).1).trans h.obj, h.im.below hb, h.prs.below hb, own_belowW h.list hb, own_belowW h.dep hb, h.bk, h.bp⟩
/-- what is known of a module's image -/
structure ModK (L : List (Nat × Nat)) (J : List Nat) (nd z st : Nat) (M : List (ByteArray × Nat)) (D N : List Int) : Prop where
  ck : ckV L J.length nd z st M = 0
  fd : FdG L J M
  dp : DpK L J D N (bgs L).length
/-- there is a module there -/
def Mod (w : World) (B pm : Nat) (L : List (Nat × Nat)) (J : List Nat) (ds : List Int) (z st : Nat) (M : List (ByteArray × Nat)) (D N : List Int) : Prop :=
  B ≤ pm ∧ ModK L J ds.length z st M D N ∧ ∃ a1 c1 a2 c2 a3 c3 a4 c4 Bp pp p1 g1 p2 g2 lv lw A C gd cp, (∀ y, hasW A y = isEn L y) ∧ (∀ y, hasW C y = decide (y ∈ J)) ∧ ModS w B pm a1 c1 a2 c2 a3 c3 a4 c4 (lstK (ds.length + z + st)) Bp pp p1 g1 p2 g2 lv lw A C gd cp L J ds z st M D N
theorem Mod.below {w w' : World} {B pm : Nat} {L : List (Nat × Nat)} {J : List Nat} {ds : List Int} {z st : Nat} {M : List (ByteArray × Nat)} {D N : List Int} (h : Mod w B pm L J ds z st M D N) (hb : Below w.heap.size w w') : Mod w' B pm L J ds z st M D N := by
  obtain ⟨h0, h1, a1, c1, a2, c2, a3, c3, a4, c4, Bp, pp, p1, g1, p2, g2, lv, lw, A, C, gd, cp, h2, h3, h4⟩ := h
  exact ⟨h0, h1, a1, c1, a2, c2, a3, c3, a4, c4, Bp, pp, p1, g1, p2, g2, lv, lw, A, C, gd, cp, h2, h3, h4.below hb⟩
theorem ImO.kept {S : Nat → Prop} {w w' : World} {B : Nat} {a1 : Option Addr} {c1 : Nat} {a2 : Option Addr} {c2 : Nat} {a3 : Option Addr} {c3 : Nat} {a4 : Option Addr} {c4 : Nat} {L : List (Nat × Nat)} {J : List Nat} {ds : List Int} {M : List (ByteArray × Nat)} (h : ImO w B a1 c1 a2 c2 a3 c3 a4 c4 L J ds M) (hk : Kp S w w') (hs : ∀ k, B ≤ k → ¬ S k) : ImO w' B a1 c1 a2 c2 a3 c3 a4 c4 L J ds M :=
  ⟨h.k1, h.k2, h.k3, h.k4, fun q => hk.own (h.code q) (fun k e => hs k ((h.code q).lt k e).1), fun q => hk.own (h.jumps q) (fun k e => hs k ((h.jumps q).lt k e).1), fun q => hk.own (h.data q) (fun k e => hs k ((h.data q).lt k e).1), fun q => hk.own (h.names q) (fun k e => hs k ((h.names q).lt k e).1)⟩
/-- a module is left alone where its blocks are -/
theorem Mod.kept {S : Nat → Prop} {w w' : World} {B pm : Nat} {L : List (Nat × Nat)} {J : List Nat} {ds : List Int} {z st : Nat} {M : List (ByteArray × Nat)} {D N : List Int} (h : Mod w B pm L J ds z st M D N) (hk : Kp S w w') (hs : ∀ k, B ≤ k → ¬ S k) : Mod w' B pm L J ds z st M D N := by
  obtain ⟨h0, h1, a1, c1, a2, c2, a3, c3, a4, c4, Bp, pp, p1, g1, p2, g2, lv, lw, A, C, gd, cp, h2, h3, h4⟩ := h
  have hbk := h4.bk
  have hbp := h4.bp
  refine ⟨h0, h1, a1, c1, a2, c2, a3, c3, a4, c4, Bp, pp, p1, g1, p2, g2, lv, lw, A, C, gd, cp, h2, h3, (hk.block pm (Array.getElem?_eq_some_iff.1 h4.obj).1 (hs pm h0)).trans h4.obj, h4.im.kept hk hs, ?_, hk.own h4.list (fun k e => hs k (h4.list.lt k e).1), hk.own h4.dep (fun k e => hs k (h4.dep.lt k e).1), hbk, hbp⟩
  have hP := h4.prs
  have m : ∀ k, k ∈ [pp, p1, g1, p2, g2] → ¬ S k := fun k q => hs k (hbk k q)
  exact ⟨(hk.block pp (Array.getElem?_eq_some_iff.1 hP.obj).1 (m pp (by simp))).trans hP.obj, hk.own hP.row (fun k e => hs k (Nat.le_trans hbp (hP.row.lt k e).1)), hP.s1.kept hk (m p1 (by simp)) (m g1 (by simp)), hP.s2.kept hk (m p2 (by simp)) (m g2 (by simp)), hP.nd, hP.lt⟩
/-- what verify.Take leaves -/
def TkP (w : World) (L : List (Nat × Nat)) (J : List Nat) (ds : List Int) (z st : Nat) (M : List (ByteArray × Nat)) (e : Ending) (w' : World) : Prop :=
  Below w.heap.size w w' ∧ ((∃ i x : Nat, e = .returned (.tuple #[.pointer none, .int .i64 i, .int .i64 x]) ∧ x ≠ 0 ∧
      ((i = 0 ∧ x = ckV L J.length ds.length z st M) ∨ (ckV L J.length ds.length z st M = 0 ∧ FdB L J M i x) ∨ (ckV L J.length ds.length z st M = 0 ∧ FdG L J M ∧ FltK L J i x))) ∨
    (∃ (pm : Nat) (D N : List Int), e = .returned (.tuple #[.pointer (some ⟨pm, 0, none⟩), .int .i64 0, .int .i64 0]) ∧ Mod w' w.heap.size pm L J ds z st M D N))
theorem jrd_monoV {w : World} {ao : Option Addr} {J : List Nat} {B C : Nat} (h : JRd w ao J B) (hb : B ≤ C) : JRd w ao J C := fun q => by
  obtain ⟨b, off, e, hlt, hc⟩ := h q
  exact ⟨b, off, e, by omega, hc⟩
theorem nrd_monoV {w : World} {ao : Option Addr} {M : List (ByteArray × Nat)} {B C : Nat} (h : NRd w ao M B) (hb : B ≤ C) : NRd w ao M C := fun q => by
  obtain ⟨b, off, e, hlt, hc⟩ := h q
  exact ⟨b, off, e, by omega, hc⟩
theorem names_at {M : List (ByteArray × Nat)} (h : namesOk M = true) {k : Nat} (hk : k < M.length) : mayN M k = true := by
  unfold namesOk at h
  rw [List.all_eq_true] at h
  exact h k (List.mem_range.2 hk)
theorem names_len {M : List (ByteArray × Nat)} (h : namesOk M = true) : M.length ≤ 64 := by
  by_cases h0 : M.length = 0
  · omega
  · have := names_at h (k := M.length - 1) (by omega)
    unfold mayN mayB at this
    simp only [Bool.and_eq_true, Bool.or_eq_true, decide_eq_true_eq] at this
    omega
theorem names_size {M : List (ByteArray × Nat)} (h : namesOk M = true) : ∀ p ∈ M, p.1.size ≤ 32 := fun p hp => by
  obtain ⟨k, hk, rfl⟩ := List.getElem_of_mem hp
  have := names_at h hk
  unfold mayN mayB at this
  simp only [Bool.and_eq_true, decide_eq_true_eq] at this
  have e : (M.getD k (.empty, 0)) = M[k] := by simp [List.getD, List.getElem?_eq_getElem hk]
  rw [e] at this
  exact this.1.2
theorem ImO.monoB {w : World} {B B' : Nat} {a1 : Option Addr} {c1 : Nat} {a2 : Option Addr} {c2 : Nat} {a3 : Option Addr} {c3 : Nat} {a4 : Option Addr} {c4 : Nat} {L : List (Nat × Nat)} {J : List Nat} {ds : List Int} {M : List (ByteArray × Nat)} (h : ImO w B a1 c1 a2 c2 a3 c3 a4 c4 L J ds M) (hb : B' ≤ B) : ImO w B' a1 c1 a2 c2 a3 c3 a4 c4 L J ds M :=
  ⟨h.k1, h.k2, h.k3, h.k4, fun q => own_monoV (h.code q) hb, fun q => own_monoV (h.jumps q) hb, fun q => own_monoV (h.data q) hb, fun q => own_monoV (h.names q) hb⟩
theorem fdG_nil {L : List (Nat × Nat)} {J : List Nat} {M : List (ByteArray × Nat)} (h : FdG L J M) : FdG L J [] := ⟨h.enc, h.fst, h.ck, h.jm, fun j hj => absurd hj (by simp)⟩
set_option maxHeartbeats 8000000 in
theorem take_any (ac aj ad an : Option Addr) (cc cj cd z st cn : Nat) (L : List (Nat × Nat)) (J : List Nat) (ds : List Int) (M : List (ByteArray × Nat)) (w : World) (hn : L.length ≤ 9223372036854775807) (hjn : J.length ≤ 9223372036854775807) (hdn : ds.length ≤ 9223372036854775807) (hMn : M.length ≤ 9223372036854775807) (hwf : Wfc L) (hJ : ∀ q ∈ J, q < 4294967296) (hMa : ∀ j, j < M.length → (M.getD j (.empty, 0)).2 < 4294967296) (hz : z < 4294967296) (hst : st < 4294967296) (hcn : M.length ≤ cn)
    (hr : CRd w ac L w.heap.size) (hrJ : JRd w aj J w.heap.size) (hrD : Reads w ad ds w.heap.size) (hrN : NRd w an M w.heap.size) (hT : TabW w) (hp : 0 < w.heap.size) :
    Calls Tryz.prog 4 #[imV ac L.length cc aj J.length cj ad ds.length cd z st an M.length cn] w (TkP w L J ds z st M) := by
  obtain ⟨w1, hw1⟩ : ∃ w1, w.alloc (.cells (imC ac L.length cc aj J.length cj ad ds.length cd z st an M.length cn) 28) = w1 := ⟨_, rfl⟩
  have hb1 : Below w.heap.size w w1 := by rw [← hw1]; exact (Below.refl w.heap.size w).alloc (Nat.le_refl _) _
  have hs1 : w.heap.size < w1.heap.size := by rw [← hw1]; simp
  have hlast : w1.heap[w.heap.size]? = some (.cells (imC ac L.length cc aj J.length cj ad ds.length cd z st an M.length cn) 28) := by rw [← hw1]; exact heap_alloc_last w _
  have HCe : Hid (∀ W, Below w1.heap.size w1 W → ∀ i, W.cell? ⟨w.heap.size, i, none⟩ = (imC ac L.length cc aj J.length cj ad ds.length cd z st an M.length cn)[i]?) := hidS (fun W hW i => obj_cell ((hW.block _ hs1).trans hlast) i)
  have HR : Hid (∀ W, Below w.heap.size w W → CRd W ac L W.heap.size ∧ JRd W aj J W.heap.size ∧ Reads W ad ds W.heap.size ∧ NRd W an M W.heap.size ∧ TabW W ∧ 0 < W.heap.size) := hidS (fun W hW => ⟨(hr.below hW).mono hW.size, jrd_monoV (hrJ.below hW) hW.size, (hrD.below hW).mono hW.size, nrd_monoV (hrN.below hW) hW.size, hT.below hW hp, Nat.lt_of_lt_of_le hp hW.size⟩)
  have HB := hidS (ibits_any ac aj ad an cc J.length cj ds.length cd z st cn L M w1 hn hjn hdn hMn hwf hz hst hcn (HR.out w1 hb1).1 (HR.out w1 hb1).2.2.2.1)
  have HW1 := hidS hw1
  have HK := hidS (And.intro hwf (And.intro hJ hMa))
  clear hw1 hlast hr hrJ hrD hrN hT hp hwf hJ hMa
  go_enter Tryz.func4, Tryz.ntmps4
  go_wp2_with fail
  rw [HW1.out]
  refine HB.out.mono ?_
  rintro e w2 ⟨rfl, hb2⟩
  clear HB HW1
  generalize hcv : ckV L J.length ds.length z st M = x
  by_cases hx : x = 0
  · subst hx
    have hk0 := ckV_0 hcv
    have hbi : biV L J.length ds.length z st M = lstK (ds.length + z + st) := by unfold biV; rw [if_pos hcv]
    have hLn := encX_len hk0.1
    have hks := lstK_in hk0.2.2.2.1
    rw [hbi]
    generalize hkk : lstK (ds.length + z + st) = kk at hks
    have HKK := hidS (And.intro hcv (And.intro hk0 hkk))
    have hb12 := btP hb1 hb2
    have hc2 := HCe.out w2 hb2
    have c0 : w2.cell? ⟨w.heap.size, 0, none⟩ = some (.slice ac L.length cc) := (hc2 0).trans rfl
    have c1 : w2.cell? ⟨w.heap.size, 1, none⟩ = some (.slice aj J.length cj) := (hc2 1).trans rfl
    have c5 : w2.cell? ⟨w.heap.size, 5, none⟩ = some (.slice an M.length cn) := (hc2 5).trans rfl
    have HFi := hidS (find_any ac aj an cc cj cn L J M w2 hn hjn hMn HK.out.1 HK.out.2.1 HK.out.2.2 (HR.out w2 hb12).1 (HR.out w2 hb12).2.1 (HR.out w2 hb12).2.2.2.1 (HR.out w2 hb12).2.2.2.2.1 (HR.out w2 hb12).2.2.2.2.2)
    clear hc2 hcv hk0 hkk hbi
    go_wp2_with fail
    refine HFi.out.mono ?_
    rintro e w3 ⟨hb3, ⟨i, x, rfl, hx, hfb⟩ | ⟨B, pp, p1, g1, p2, g2, lv, A, C, rfl, hP, hA, hC, hk, hB, hG⟩⟩
    · have hxI : ((x : Int) == 0) = false := by rw [beq_eq_false_iff_ne]; omega
      have hxI2 : ¬ (x : Int) = 0 := by omega
      have HF := hidS (And.intro (btP hb12 hb3) hfb)
      clear hb3 hfb c0 c1 c5 HFi
      go_wp2_with fail
      refine bodyPost_ret (v := .tuple #[.pointer none, .int .i64 i, .int .i64 x]) (by simp [results, Tryz.f4, go_sem]) rfl ?_
      exact ⟨HF.out.1, .inl ⟨i, x, rfl, hx, .inr (.inl ⟨HKK.out.1, HF.out.2⟩)⟩⟩
    · have hb13 := btP hb2 hb3
      have hb03 := btP hb12 hb3
      have hc3 := HCe.out w3 hb13
      have d0 : w3.cell? ⟨w.heap.size, 0, none⟩ = some (.slice ac L.length cc) := (hc3 0).trans rfl
      have d1 : w3.cell? ⟨w.heap.size, 1, none⟩ = some (.slice aj J.length cj) := (hc3 1).trans rfl
      have HDe := hidS (fdepths_any ac aj cc cj L J w3 hn hjn HK.out.1 HK.out.2.1 (HR.out w3 hb03).1 (HR.out w3 hb03).2.1 (HR.out w3 hb03).2.2.2.2.1 (HR.out w3 hb03).2.2.2.2.2)
      have HP := hidS (And.intro hP (And.intro hA (And.intro hC (And.intro hk (And.intro hB hG)))))
      clear hc3 hP hA hC hk hB hG HFi c0 c1 c5
      go_wp2_with fail
      refine HDe.out.mono ?_
      rintro e w4 ⟨hb4, ⟨i, x, rfl, hx, hfb⟩ | ⟨_, i, x, rfl, hx, k, hkb, hfl⟩ | ⟨_, gd, cp, nv, D, N, rfl, hD, hN, hDk⟩⟩
      · exact absurd (fdG_not (fdG_nil HP.out.2.2.2.2.2) hfb) hx
      · have hxI : ((x : Int) == 0) = false := by rw [beq_eq_false_iff_ne]; omega
        have hxI2 : ¬ (x : Int) = 0 := by omega
        have hx0 : x ≠ 0 := by omega
        have HF := hidS (And.intro (btP hb03 hb4) (And.intro hkb hfl))
        clear hb4 hfl hkb d0 d1 HDe hx
        go_wp2_with fail
        refine bodyPost_ret (v := .tuple #[.pointer none, .int .i64 i, .int .i64 x]) (by simp [results, Tryz.f4, go_sem]) rfl ?_
        exact ⟨HF.out.1, .inl ⟨i, x, rfl, hx0, .inr (.inr ⟨HKK.out.1, HP.out.2.2.2.2.2, k, HF.out.2⟩)⟩⟩
      · have hb14 := btP hb13 hb4
        have hb04 := btP hb03 hb4
        have hc4 := HCe.out w4 hb14
        have e0 : w4.cell? ⟨w.heap.size, 0, none⟩ = some (.slice ac L.length cc) := (hc4 0).trans rfl
        have e1 : w4.cell? ⟨w.heap.size, 1, none⟩ = some (.slice aj J.length cj) := (hc4 1).trans rfl
        have e2 : w4.cell? ⟨w.heap.size, 2, none⟩ = some (.slice ad ds.length cd) := (hc4 2).trans rfl
        have e3 : w4.cell? ⟨w.heap.size, 3, none⟩ = some (.int .u32 (z : Nat)) := (hc4 3).trans rfl
        have e4 : w4.cell? ⟨w.heap.size, 4, none⟩ = some (.int .u32 (st : Nat)) := (hc4 4).trans rfl
        have e5 : w4.cell? ⟨w.heap.size, 5, none⟩ = some (.slice an M.length cn) := (hc4 5).trans rfl
        have hk0 := HKK.out.2.1
        have HCl := hidS (vcloned_any ac aj ad an cc cj cd z st cn L J ds M w4 (by omega) (by omega) (by omega) (Nat.le_trans (names_len hk0.2.2.2.2) (by decide)) (fun p hp => Nat.le_trans (names_size hk0.2.2.2.2 p hp) (by decide)) (HR.out w4 hb04).1 (HR.out w4 hb04).2.1 (HR.out w4 hb04).2.2.1 (HR.out w4 hb04).2.2.2.1)
        obtain ⟨an2, cn2, hnv⟩ : ∃ a c, nv = .slice a N.length c := by
          rcases hN.2 with ⟨hq, hz0⟩ | ⟨g', cap', cur', q1, q2⟩
          · exact ⟨none, 0, by rw [hq, hz0]⟩
          · exact ⟨_, _, q1⟩
        subst hnv
        have HDD := hidS (And.intro hD (And.intro hN hDk))
        have hbs4 := hb4
        have HB4 := hidS (And.intro hb4 (And.intro hb14 hb04))
        clear hc4 hD hN hDk d0 d1 HDe hk0
        go_wp2_with fail
        refine HCl.out.mono ?_
        rintro e w5 ⟨a1, k1, a2, k2, a3, k3, a4, k4, rfl, hIm, hb5⟩
        have hb35 := btP hb4 hb5
        have hP5 := HP.out.1.below hb35
        have hN5 := own_belowW HDD.out.2.1 hb5
        have HNl : Hid (N.length = (prL L).length) := hidS (by rw [HDD.out.2.2.nl, prs_len])
        have HWn := hidS (wneeds_any hP5 (by rw [prs_len]; exact Nat.le_trans (els_le _ _) hLn) an2 cn2 N HNl.out (fun k hk => by
          rcases hN5.2 with ⟨_, hz0⟩ | ⟨g', cap', cur', q1, q2, q3, _⟩
          · omega
          · simp only [Value.slice.injEq] at q1
            have e2 := q1.1
            subst e2
            have hcell := hN5.cells (g := g') rfl k (.int .i64 (N.getD k 0)) (by simp [List.getElem?_eq_getElem hk, List.getD_eq_getElem?_getD])
            rw [add_plain] at hcell
            exact ⟨g', 0, rfl, (Array.getElem?_eq_some_iff.1 q3).1, hcell⟩))
        have HI5 := hidS (And.intro hIm (And.intro hb5 hP5))
        clear e0 e1 e2 e3 e4 e5 hIm hP5 hN5 HCl
        go_wp2_with fail
        refine HWn.out.mono ?_
        rintro e w6 ⟨lw, rfl, hlw, hb6⟩
        have HL := hidS (And.intro hlw hb6)
        obtain ⟨la, lc, hlv⟩ : ∃ la lc, lw = .slice la (prL L).length lc := by
          rcases hlw.2 with ⟨hn0, hz0⟩ | ⟨g', cap', cur', e1, e2⟩
          · exact ⟨none, 0, by rw [hn0, hz0]⟩
          · exact ⟨_, _, e1⟩
        subst hlv
        clear hlw hb6 HWn
        go_wp2_with fail
        obtain ⟨w7, hw7⟩ : ∃ w7, w6.alloc (Obj.cells #[.pointer (some ⟨w6.heap.size, 0, none⟩), .slice a1 L.length k1, .slice a2 J.length k2, .slice a3 ds.length k3, .int .u32 (z : Nat), .int .u32 (st : Nat), .slice a4 M.length k4, .int .i64 (kk : Nat), .pointer (some ⟨pp, 0, none⟩), .slice la (prL L).length lc, .slice (some ⟨gd, 0, none⟩) D.length cp] 62) = w7 := ⟨_, rfl⟩
        rw [hw7]
        refine bodyPost_ret (v := .tuple #[.pointer (some ⟨w6.heap.size, 0, none⟩), .int .i64 0, .int .i64 0]) (by simp [results, Tryz.f4, go_sem]) rfl ?_
        have hb7 : Below w6.heap.size w6 w7 := by rw [← hw7]; exact belP (Below.refl _ _)
        have ho7 : w7.heap[w6.heap.size]? = some (Obj.cells #[.pointer (some ⟨w6.heap.size, 0, none⟩), .slice a1 L.length k1, .slice a2 J.length k2, .slice a3 ds.length k3, .int .u32 (z : Nat), .int .u32 (st : Nat), .slice a4 M.length k4, .int .i64 (kk : Nat), .pointer (some ⟨pp, 0, none⟩), .slice la (prL L).length lc, .slice (some ⟨gd, 0, none⟩) D.length cp] 62) := by rw [← hw7]; exact heap_alloc_last w6 _
        obtain ⟨hlw, hb6⟩ := HL.out
        obtain ⟨hIm, hb5, hP5⟩ := HI5.out
        obtain ⟨hD, hN, hDk⟩ := HDD.out
        obtain ⟨hP, hA, hC, hk, hB, hG⟩ := HP.out
        have hb57 := btP hb6 hb7
        have hb47 := btP hb5 hb57
        have hb07 := btP hb04 hb47
        have z4 := hb04.size
        have z3 := hb03.size
        have z5 := hb5.size
        have z6 := hb6.size
        refine ⟨hb07, .inr ⟨w6.heap.size, D, N, rfl, by omega, ⟨HKK.out.1, hG, hDk⟩, a1, k1, a2, k2, a3, k3, a4, k4, B, pp, p1, g1, p2, g2, lv, .slice la (prL L).length lc, A, C, gd, cp, hA, hC, ?_⟩⟩
        rw [HKK.out.2.2]
        exact ⟨ho7, (hIm.monoB z4).below hb57, hP5.below hb57, own_monoV (own_belowW hlw hb7) (by omega), own_monoV (own_belowW hD hb47) z3, fun k h => Nat.le_trans hb12.size (hk k h), Nat.le_trans hb12.size hB⟩
  · have hxI : ((x : Int) == 0) = false := by rw [beq_eq_false_iff_ne]; omega
    have hxI2 : ¬ (x : Int) = 0 := by omega
    have HF := hidS (And.intro (btP hb1 hb2) hcv)
    clear hb2 hcv
    go_wp2_with fail
    refine bodyPost_ret (v := .tuple #[.pointer none, .int .i64 0, .int .i64 x]) (by simp [results, Tryz.f4, go_sem]) rfl ?_
    exact ⟨HF.out.1, .inl ⟨0, x, rfl, hx, .inl ⟨rfl, HF.out.2.symm⟩⟩⟩
end Go.Proofs.YtgbpfejodpplbaaGreatDoor
