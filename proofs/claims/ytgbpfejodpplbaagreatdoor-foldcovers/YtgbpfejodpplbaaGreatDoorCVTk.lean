import Derived.Test.YtgbpfejodpplbaaGreatDoorCVCk
import Derived.Test.YtgbpfejodpplbaaGreatDoorCVCd
import Derived.Test.YtgbpfejodpplbaaGreatDoorCVWn
import Derived.Test.YtgbpfejodpplbaaGreatDoorCPSm
import Derived.Test.YtgbpfejodpplbaaGreatDoorCLBase
import Derived.Lib.SmallJoins
import Derived.ChangeMaps5
import Derived.Test.YtgbpfejodpplbaaGreatDoorCPFi
import Derived.SizedLaws
namespace Go.Proofs.YtgbpfejodpplbaaGreatDoor
open Go.RowKit Go.WideShapes Go.Shelf
set_option maxRecDepth 100000

/-- a module in memory -/
structure ModS (w : World) (B pm : Nat) (a1 : Option Addr) (c1 : Nat) (a2 : Option Addr) (c2 : Nat) (a3 : Option Addr) (c3 : Nat) (a4 : Option Addr) (c4 bits Bp pp p1 g1 p2 g2 : Nat) (lv lw : Value) (A C : List Nat) (gd cp : Nat) (L : List (Nat × Nat)) (J : List Nat) (ds : List Int) (z st : Nat) (M : List (ByteArray × Nat)) (D N : List Int) : Prop where
  obj : w.heap[pm]? = some (.cells #[.pointer (some ⟨pm, 0, none⟩), .slice a1 L.length c1, .slice a2 J.length c2, .slice a3 ds.length c3, .int .u32 (z : Nat), .int .u32 (st : Nat), .slice a4 M.length c4, .int .i64 (bits : Nat), .pointer (some ⟨pp, 0, none⟩), lw, .slice (some ⟨gd, 0, none⟩) D.length cp] 62 (0, 0))
  im : ImO w B a1 c1 a2 c2 a3 c3 a4 c4 L J ds M
  prs : PrS w Bp pp p1 g1 p2 g2 L.length lv (prL L) A C
  list : w.ownsRow B 94 4 lw (prL L).length (pnv (pnL (prL L) N (prL L).length))
  dep : DpW w B gd cp D
  bk : ∀ k ∈ [pp, p1, g1, p2, g2], B ≤ k
  bp : B ≤ Bp
theorem ModS.below {w w' : World} {B pm : Nat} {a1 : Option Addr} {c1 : Nat} {a2 : Option Addr} {c2 : Nat} {a3 : Option Addr} {c3 : Nat} {a4 : Option Addr} {c4 bits Bp pp p1 g1 p2 g2 : Nat} {lv lw : Value} {A C : List Nat} {gd cp : Nat} {L : List (Nat × Nat)} {J : List Nat} {ds : List Int} {z st : Nat} {M : List (ByteArray × Nat)} {D N : List Int}
    (h : ModS w B pm a1 c1 a2 c2 a3 c3 a4 c4 bits Bp pp p1 g1 p2 g2 lv lw A C gd cp L J ds z st M D N) (hb : Below w.heap.size w w') : ModS w' B pm a1 c1 a2 c2 a3 c3 a4 c4 bits Bp pp p1 g1 p2 g2 lv lw A C gd cp L J ds z st M D N :=
  ⟨(hb.block pm (Array.getElem?_eq_some_iff.1 h.obj).1).trans h.obj, h.im.below hb, h.prs.below hb, own_belowW h.list hb, own_belowW h.dep hb, h.bk, h.bp⟩
/-- what is known of a module's image -/
structure ModK (L : List (Nat × Nat)) (J : List Nat) (nd z st : Nat) (M : List (ByteArray × Nat)) (D N : List Int) : Prop where
  ck : ckV L J.length nd z st M = 0
  fd : FdG L J M
  dp : DpK L J D N (bgs L).length
/-- there is a module there -/
def Mod (w : World) (B pm : Nat) (L : List (Nat × Nat)) (J : List Nat) (ds : List Int) (z st : Nat) (M : List (ByteArray × Nat)) (D N : List Int) : Prop :=
  B ≤ pm ∧ ModK L J ds.length z st M D N ∧ ∃ a1 c1 a2 c2 a3 c3 a4 c4 Bp pp p1 g1 p2 g2 lv lw A C gd cp, (∀ y, hasW A y = isEn L y) ∧ (∀ y, hasW C y = decide (y ∈ J)) ∧ ModS w B pm a1 c1 a2 c2 a3 c3 a4 c4 (lstK (ds.length + z + st)) Bp pp p1 g1 p2 g2 lv lw A C gd cp L J ds z st M D N
theorem Mod.below {w w' : World} {B pm : Nat} {L : List (Nat × Nat)} {J : List Nat} {ds : List Int} {z st : Nat} {M : List (ByteArray × Nat)} {D N : List Int} (h : Mod w B pm L J ds z st M D N) (hb : Below w.heap.size w w') : Mod w' B pm L J ds z st M D N := by
  obtain ⟨h0, h1, a1, c1, a2, c2, a3, c3, a4, c4, Bp, pp, p1, g1, p2, g2, lv, lw, A, C, gd, cp, h2, h3, h4⟩ := h
  exact ⟨h0, h1, a1, c1, a2, c2, a3, c3, a4, c4, Bp, pp, p1, g1, p2, g2, lv, lw, A, C, gd, cp, h2, h3, h4.below hb⟩
theorem ImO.kept {S : Nat → Prop} {w w' : World} {B : Nat} {a1 : Option Addr} {c1 : Nat} {a2 : Option Addr} {c2 : Nat} {a3 : Option Addr} {c3 : Nat} {a4 : Option Addr} {c4 : Nat} {L : List (Nat × Nat)} {J : List Nat} {ds : List Int} {M : List (ByteArray × Nat)} (h : ImO w B a1 c1 a2 c2 a3 c3 a4 c4 L J ds M) (hk : Kp S w w') (hs : ∀ k, B ≤ k → ¬ S k) : ImO w' B a1 c1 a2 c2 a3 c3 a4 c4 L J ds M :=
  ⟨h.k1, h.k2, h.k3, h.k4, fun q => hk.own (h.code q) (fun k e => hs k ((h.code q).lt k e).1), fun q => hk.own (h.jumps q) (fun k e => hs k ((h.jumps q).lt k e).1), fun q => hk.own (h.data q) (fun k e => hs k ((h.data q).lt k e).1), fun q => hk.own (h.names q) (fun k e => hs k ((h.names q).lt k e).1)⟩
/-- a module is left alone where its blocks are -/
theorem Mod.kept {S : Nat → Prop} {w w' : World} {B pm : Nat} {L : List (Nat × Nat)} {J : List Nat} {ds : List Int} {z st : Nat} {M : List (ByteArray × Nat)} {D N : List Int} (h : Mod w B pm L J ds z st M D N) (hk : Kp S w w') (hs : ∀ k, B ≤ k → ¬ S k) : Mod w' B pm L J ds z st M D N := by
  obtain ⟨h0, h1, a1, c1, a2, c2, a3, c3, a4, c4, Bp, pp, p1, g1, p2, g2, lv, lw, A, C, gd, cp, h2, h3, h4⟩ := h
  have hbk := h4.bk
  have hbp := h4.bp
  refine ⟨h0, h1, a1, c1, a2, c2, a3, c3, a4, c4, Bp, pp, p1, g1, p2, g2, lv, lw, A, C, gd, cp, h2, h3, (hk.block pm (Array.getElem?_eq_some_iff.1 h4.obj).1 (hs pm h0)).trans h4.obj, h4.im.kept hk hs, ?_, hk.own h4.list (fun k e => hs k (h4.list.lt k e).1), hk.own h4.dep (fun k e => hs k (h4.dep.lt k e).1), hbk, hbp⟩
  have hP := h4.prs
  have m : ∀ k, k ∈ [pp, p1, g1, p2, g2] → ¬ S k := fun k q => hs k (hbk k q)
  exact ⟨(hk.block pp (Array.getElem?_eq_some_iff.1 hP.obj).1 (m pp (by simp))).trans hP.obj, hk.own hP.row (fun k e => hs k (Nat.le_trans hbp (hP.row.lt k e).1)), hP.s1.kept hk (m p1 (by simp)) (m g1 (by simp)), hP.s2.kept hk (m p2 (by simp)) (m g2 (by simp)), hP.nd, hP.lt⟩
/-- what verify.Take leaves -/
def TkP (w : World) (L : List (Nat × Nat)) (J : List Nat) (ds : List Int) (z st : Nat) (M : List (ByteArray × Nat)) (e : Ending) (w' : World) : Prop :=
  Below w.heap.size w w' ∧ ((∃ i x : Nat, e = .returned (.tuple #[.pointer none, .int .i64 i, .int .i64 x]) ∧ x ≠ 0 ∧
      ((i = 0 ∧ x = ckV L J.length ds.length z st M) ∨ (ckV L J.length ds.length z st M = 0 ∧ FdB L J M i x) ∨ (ckV L J.length ds.length z st M = 0 ∧ FdG L J M ∧ FltK L J i x))) ∨
    (∃ (pm : Nat) (D N : List Int), e = .returned (.tuple #[.pointer (some ⟨pm, 0, none⟩), .int .i64 0, .int .i64 0]) ∧ Mod w' w.heap.size pm L J ds z st M D N))
theorem jrd_monoV {w : World} {ao : Option Addr} {J : List Nat} {B C : Nat} (h : JRd w ao J B) (hb : B ≤ C) : JRd w ao J C := fun q => by
  obtain ⟨b, off, e, hlt, hc⟩ := h q
  exact ⟨b, off, e, by omega, hc⟩
theorem nrd_monoV {w : World} {ao : Option Addr} {M : List (ByteArray × Nat)} {B C : Nat} (h : NRd w ao M B) (hb : B ≤ C) : NRd w ao M C := fun q => by
  obtain ⟨b, off, e, hlt, hc⟩ := h q
  exact ⟨b, off, e, by omega, hc⟩
theorem names_at {M : List (ByteArray × Nat)} (h : namesOk M = true) {k : Nat} (hk : k < M.length) : mayN M k = true := by
  unfold namesOk at h
  rw [List.all_eq_true] at h
  exact h k (List.mem_range.2 hk)
theorem names_len {M : List (ByteArray × Nat)} (h : namesOk M = true) : M.length ≤ 64 := by
  by_cases h0 : M.length = 0
  · omega
  · have := names_at h (k := M.length - 1) (by omega)
    unfold mayN mayB at this
    simp only [Bool.and_eq_true, Bool.or_eq_true, decide_eq_true_eq] at this
    omega
theorem names_size {M : List (ByteArray × Nat)} (h : namesOk M = true) : ∀ p ∈ M, p.1.size ≤ 32 := fun p hp => by
  obtain ⟨k, hk, rfl⟩ := List.getElem_of_mem hp
  have := names_at h hk
  unfold mayN mayB at this
  simp only [Bool.and_eq_true, decide_eq_true_eq] at this
  have e : (M.getD k (.empty, 0)) = M[k] := by simp [List.getD, List.getElem?_eq_getElem hk]
  rw [e] at this
  exact this.1.2
theorem ImO.monoB {w : World} {B B' : Nat} {a1 : Option Addr} {c1 : Nat} {a2 : Option Addr} {c2 : Nat} {a3 : Option Addr} {c3 : Nat} {a4 : Option Addr} {c4 : Nat} {L : List (Nat × Nat)} {J : List Nat} {ds : List Int} {M : List (ByteArray × Nat)} (h : ImO w B a1 c1 a2 c2 a3 c3 a4 c4 L J ds M) (hb : B' ≤ B) : ImO w B' a1 c1 a2 c2 a3 c3 a4 c4 L J ds M :=
  ⟨h.k1, h.k2, h.k3, h.k4, fun q => own_monoV (h.code q) hb, fun q => own_monoV (h.jumps q) hb, fun q => own_monoV (h.data q) hb, fun q => own_monoV (h.names q) hb⟩
theorem fdG_nil {L : List (Nat × Nat)} {J : List Nat} {M : List (ByteArray × Nat)} (h : FdG L J M) : FdG L J [] := ⟨h.enc, h.fst, h.ck, h.jm, fun j hj => absurd hj (by simp)⟩
set_option maxHeartbeats 8000000 in
theorem take_any (ac aj ad an : Option Addr) (cc cj cd z st cn : Nat) (L : List (Nat × Nat)) (J : List Nat) (ds : List Int) (M : List (ByteArray × Nat)) (w : World) (hn : L.length ≤ 9223372036854775807) (hjn : J.length ≤ 9223372036854775807) (hdn : ds.length ≤ 9223372036854775807) (hMn : M.length ≤ 9223372036854775807) (hwf : Wfc L) (hJ : ∀ q ∈ J, q < 4294967296) (hMa : ∀ j, j < M.length → (M.getD j (.empty, 0)).2 < 4294967296) (hz : z < 4294967296) (hst : st < 4294967296) (hcn : M.length ≤ cn)
    (hr : CRd w ac L w.heap.size) (hrJ : JRd w aj J w.heap.size) (hrD : Reads w ad ds w.heap.size) (hrN : NRd w an M w.heap.size) (hT : TabW w) (hp : 0 < w.heap.size) :
    Calls Tryz.prog 4 #[imV ac L.length cc aj J.length cj ad ds.length cd z st an M.length cn] w (TkP w L J ds z st M) := by
  obtain ⟨w1, hw1⟩ : ∃ w1, w.alloc (.cells (imC ac L.length cc aj J.length cj ad ds.length cd z st an M.length cn) 28) = w1 := ⟨_, rfl⟩
  have hb1 : Below w.heap.size w w1 := by rw [← hw1]; exact (Below.refl w.heap.size w).alloc (Nat.le_refl _) _
  have hs1 : w.heap.size < w1.heap.size := by rw [← hw1]; simp
  have hlast : w1.heap[w.heap.size]? = some (.cells (imC ac L.length cc aj J.length cj ad ds.length cd z st an M.length cn) 28) := by rw [← hw1]; exact heap_alloc_last w _
  have HCe : Hid (∀ W, Below w1.heap.size w1 W → ∀ i, W.cell? ⟨w.heap.size, i, none⟩ = (imC ac L.length cc aj J.length cj ad ds.length cd z st an M.length cn)[i]?) := hidS (fun W hW i => obj_cell ((hW.block _ hs1).trans hlast) i)
  have HR : Hid (∀ W, Below w.heap.size w W → CRd W ac L W.heap.size ∧ JRd W aj J W.heap.size ∧ Reads W ad ds W.heap.size ∧ NRd W an M W.heap.size ∧ TabW W ∧ 0 < W.heap.size) := hidS (fun W hW => ⟨(hr.below hW).mono hW.size, jrd_monoV (hrJ.below hW) hW.size, (hrD.below hW).mono hW.size, nrd_monoV (hrN.below hW) hW.size, hT.below hW hp, Nat.lt_of_lt_of_le hp hW.size⟩)
  have HB := hidS (ibits_any ac aj ad an cc J.length cj ds.length cd z st cn L M w1 hn hjn hdn hMn hwf hz hst hcn (HR.out w1 hb1).1 (HR.out w1 hb1).2.2.2.1)
  have HW1 := hidS hw1
  have HK := hidS (And.intro hwf (And.intro hJ hMa))
  clear hw1 hlast hr hrJ hrD hrN hT hp hwf hJ hMa
  go_enter Tryz.func4, Tryz.ntmps4
  go_wp2_with fail
  rw [HW1.out]
  refine HB.out.mono ?_
  rintro e w2 ⟨rfl, hb2⟩
  clear HB HW1
  generalize hcv : ckV L J.length ds.length z st M = x
  by_cases hx : x = 0
  · subst hx
    have hk0 := ckV_0 hcv
    have hbi : biV L J.length ds.length z st M = lstK (ds.length + z + st) := by unfold biV; rw [if_pos hcv]
    have hLn := encX_len hk0.1
    have hks := lstK_in hk0.2.2.2.1
    rw [hbi]
    generalize hkk : lstK (ds.length + z + st) = kk at hks
    have HKK := hidS (And.intro hcv (And.intro hk0 hkk))
    have hb12 := btP hb1 hb2
    have hc2 := HCe.out w2 hb2
    have c0 : w2.cell? ⟨w.heap.size, 0, none⟩ = some (.slice ac L.length cc) := (hc2 0).trans rfl
    have c1 : w2.cell? ⟨w.heap.size, 1, none⟩ = some (.slice aj J.length cj) := (hc2 1).trans rfl
    have c5 : w2.cell? ⟨w.heap.size, 5, none⟩ = some (.slice an M.length cn) := (hc2 5).trans rfl
    have HFi := hidS (find_any ac aj an cc cj cn L J M w2 hn hjn hMn HK.out.1 HK.out.2.1 HK.out.2.2 (HR.out w2 hb12).1 (HR.out w2 hb12).2.1 (HR.out w2 hb12).2.2.2.1 (HR.out w2 hb12).2.2.2.2.1 (HR.out w2 hb12).2.2.2.2.2)
    clear hc2 hcv hk0 hkk hbi
    go_wp2_with fail
    refine HFi.out.mono ?_
    rintro e w3 ⟨hb3, ⟨i, x, rfl, hx, hfb⟩ | ⟨B, pp, p1, g1, p2, g2, lv, A, C, rfl, hP, hA, hC, hk, hB, hG⟩⟩
    · have hxI : ((x : Int) == 0) = false := by rw [beq_eq_false_iff_ne]; omega
      have hxI2 : ¬ (x : Int) = 0 := by omega
      have HF := hidS (And.intro (btP hb12 hb3) hfb)
      clear hb3 hfb c0 c1 c5 HFi
      go_wp2_with fail
      refine bodyPost_ret (v := .tuple #[.pointer none, .int .i64 i, .int .i64 x]) (by simp [results, Tryz.f4, go_sem]) rfl ?_
      exact ⟨HF.out.1, .inl ⟨i, x, rfl, hx, .inr (.inl ⟨HKK.out.1, HF.out.2⟩)⟩⟩
    · have hb13 := btP hb2 hb3
      have hb03 := btP hb12 hb3
      have hc3 := HCe.out w3 hb13
      have d0 : w3.cell? ⟨w.heap.size, 0, none⟩ = some (.slice ac L.length cc) := (hc3 0).trans rfl
      have d1 : w3.cell? ⟨w.heap.size, 1, none⟩ = some (.slice aj J.length cj) := (hc3 1).trans rfl
      have HDe := hidS (fdepths_any ac aj cc cj L J w3 hn hjn HK.out.1 HK.out.2.1 (HR.out w3 hb03).1 (HR.out w3 hb03).2.1 (HR.out w3 hb03).2.2.2.2.1 (HR.out w3 hb03).2.2.2.2.2)
      have HP := hidS (And.intro hP (And.intro hA (And.intro hC (And.intro hk (And.intro hB hG)))))
      clear hc3 hP hA hC hk hB hG HFi c0 c1 c5
      go_wp2_with fail
      refine HDe.out.mono ?_
      rintro e w4 ⟨hb4, ⟨i, x, rfl, hx, hfb⟩ | ⟨_, i, x, rfl, hx, k, hkb, hfl⟩ | ⟨_, gd, cp, nv, D, N, rfl, hD, hN, hDk⟩⟩
      · exact absurd (fdG_not (fdG_nil HP.out.2.2.2.2.2) hfb) hx
      · have hxI : ((x : Int) == 0) = false := by rw [beq_eq_false_iff_ne]; omega
        have hxI2 : ¬ (x : Int) = 0 := by omega
        have hx0 : x ≠ 0 := by omega
        have HF := hidS (And.intro (btP hb03 hb4) (And.intro hkb hfl))
        clear hb4 hfl hkb d0 d1 HDe hx
        go_wp2_with fail
        refine bodyPost_ret (v := .tuple #[.pointer none, .int .i64 i, .int .i64 x]) (by simp [results, Tryz.f4, go_sem]) rfl ?_
        exact ⟨HF.out.1, .inl ⟨i, x, rfl, hx0, .inr (.inr ⟨HKK.out.1, HP.out.2.2.2.2.2, k, HF.out.2⟩)⟩⟩
      · have hb14 := btP hb13 hb4
        have hb04 := btP hb03 hb4
        have hc4 := HCe.out w4 hb14
        have e0 : w4.cell? ⟨w.heap.size, 0, none⟩ = some (.slice ac L.length cc) := (hc4 0).trans rfl
        have e1 : w4.cell? ⟨w.heap.size, 1, none⟩ = some (.slice aj J.length cj) := (hc4 1).trans rfl
        have e2 : w4.cell? ⟨w.heap.size, 2, none⟩ = some (.slice ad ds.length cd) := (hc4 2).trans rfl
        have e3 : w4.cell? ⟨w.heap.size, 3, none⟩ = some (.int .u32 (z : Nat)) := (hc4 3).trans rfl
        have e4 : w4.cell? ⟨w.heap.size, 4, none⟩ = some (.int .u32 (st : Nat)) := (hc4 4).trans rfl
        have e5 : w4.cell? ⟨w.heap.size, 5, none⟩ = some (.slice an M.length cn) := (hc4 5).trans rfl
        have hk0 := HKK.out.2.1
        have HCl := hidS (vcloned_any ac aj ad an cc cj cd z st cn L J ds M w4 (by omega) (by omega) (by omega) (Nat.le_trans (names_len hk0.2.2.2.2) (by decide)) (fun p hp => Nat.le_trans (names_size hk0.2.2.2.2 p hp) (by decide)) (HR.out w4 hb04).1 (HR.out w4 hb04).2.1 (HR.out w4 hb04).2.2.1 (HR.out w4 hb04).2.2.2.1)
        obtain ⟨an2, cn2, hnv⟩ : ∃ a c, nv = .slice a N.length c := by
          rcases hN.2 with ⟨hq, hz0⟩ | ⟨g', cap', cur', q1, q2⟩
          · exact ⟨none, 0, by rw [hq, hz0]⟩
          · exact ⟨_, _, q1⟩
        subst hnv
        have HDD := hidS (And.intro hD (And.intro hN hDk))
        have hbs4 := hb4
        have HB4 := hidS (And.intro hb4 (And.intro hb14 hb04))
        clear hc4 hD hN hDk d0 d1 HDe hk0
        go_wp2_with fail
        refine HCl.out.mono ?_
        rintro e w5 ⟨a1, k1, a2, k2, a3, k3, a4, k4, rfl, hIm, hb5⟩
        have hb35 := btP hb4 hb5
        have hP5 := HP.out.1.below hb35
        have hN5 := own_belowW HDD.out.2.1 hb5
        have HNl : Hid (N.length = (prL L).length) := hidS (by rw [HDD.out.2.2.nl, prs_len])
        have HWn := hidS (wneeds_any hP5 (by rw [prs_len]; exact Nat.le_trans (els_le _ _) hLn) an2 cn2 N HNl.out (fun k hk => by
          rcases hN5.2 with ⟨_, hz0⟩ | ⟨g', cap', cur', q1, q2, q3, _⟩
          · omega
          · simp only [Value.slice.injEq] at q1
            have e2 := q1.1
            subst e2
            have hcell := hN5.cells (g := g') rfl k (.int .i64 (N.getD k 0)) (by simp [List.getElem?_eq_getElem hk, List.getD_eq_getElem?_getD])
            rw [add_plain] at hcell
            exact ⟨g', 0, rfl, (Array.getElem?_eq_some_iff.1 q3).1, hcell⟩))
        have HI5 := hidS (And.intro hIm (And.intro hb5 hP5))
        clear e0 e1 e2 e3 e4 e5 hIm hP5 hN5 HCl
        go_wp2_with fail
        refine HWn.out.mono ?_
        rintro e w6 ⟨lw, rfl, hlw, hb6⟩
        have HL := hidS (And.intro hlw hb6)
        obtain ⟨la, lc, hlv⟩ : ∃ la lc, lw = .slice la (prL L).length lc := by
          rcases hlw.2 with ⟨hn0, hz0⟩ | ⟨g', cap', cur', e1, e2⟩
          · exact ⟨none, 0, by rw [hn0, hz0]⟩
          · exact ⟨_, _, e1⟩
        subst hlv
        clear hlw hb6 HWn
        go_wp2_with fail
        obtain ⟨w7, hw7⟩ : ∃ w7, w6.alloc (Obj.cells #[.pointer (some ⟨w6.heap.size, 0, none⟩), .slice a1 L.length k1, .slice a2 J.length k2, .slice a3 ds.length k3, .int .u32 (z : Nat), .int .u32 (st : Nat), .slice a4 M.length k4, .int .i64 (kk : Nat), .pointer (some ⟨pp, 0, none⟩), .slice la (prL L).length lc, .slice (some ⟨gd, 0, none⟩) D.length cp] 62) = w7 := ⟨_, rfl⟩
        rw [hw7]
        refine bodyPost_ret (v := .tuple #[.pointer (some ⟨w6.heap.size, 0, none⟩), .int .i64 0, .int .i64 0]) (by simp [results, Tryz.f4, go_sem]) rfl ?_
        have hb7 : Below w6.heap.size w6 w7 := by rw [← hw7]; exact belP (Below.refl _ _)
        have ho7 : w7.heap[w6.heap.size]? = some (Obj.cells #[.pointer (some ⟨w6.heap.size, 0, none⟩), .slice a1 L.length k1, .slice a2 J.length k2, .slice a3 ds.length k3, .int .u32 (z : Nat), .int .u32 (st : Nat), .slice a4 M.length k4, .int .i64 (kk : Nat), .pointer (some ⟨pp, 0, none⟩), .slice la (prL L).length lc, .slice (some ⟨gd, 0, none⟩) D.length cp] 62) := by rw [← hw7]; exact heap_alloc_last w6 _
        obtain ⟨hlw, hb6⟩ := HL.out
        obtain ⟨hIm, hb5, hP5⟩ := HI5.out
        obtain ⟨hD, hN, hDk⟩ := HDD.out
        obtain ⟨hP, hA, hC, hk, hB, hG⟩ := HP.out
        have hb57 := btP hb6 hb7
        have hb47 := btP hb5 hb57
        have hb07 := btP hb04 hb47
        have z4 := hb04.size
        have z3 := hb03.size
        have z5 := hb5.size
        have z6 := hb6.size
        refine ⟨hb07, .inr ⟨w6.heap.size, D, N, rfl, by omega, ⟨HKK.out.1, hG, hDk⟩, a1, k1, a2, k2, a3, k3, a4, k4, B, pp, p1, g1, p2, g2, lv, .slice la (prL L).length lc, A, C, gd, cp, hA, hC, ?_⟩⟩
        rw [HKK.out.2.2]
        exact ⟨ho7, (hIm.monoB z4).below hb57, hP5.below hb57, own_monoV (own_belowW hlw hb7) (by omega), own_monoV (own_belowW hD hb47) z3, fun k h => Nat.le_trans hb12.size (hk k h), Nat.le_trans hb12.size hB⟩
  · have hxI : ((x : Int) == 0) = false := by rw [beq_eq_false_iff_ne]; omega
    have hxI2 : ¬ (x : Int) = 0 := by omega
    have HF := hidS (And.intro (btP hb1 hb2) hcv)
    clear hb2 hcv
    go_wp2_with fail
    refine bodyPost_ret (v := .tuple #[.pointer none, .int .i64 0, .int .i64 x]) (by simp [results, Tryz.f4, go_sem]) rfl ?_
    exact ⟨HF.out.1, .inl ⟨0, x, rfl, hx, .inl ⟨rfl, HF.out.2.symm⟩⟩⟩
end Go.Proofs.YtgbpfejodpplbaaGreatDoor
namespace Go.Proofs.YtgbpfejodpplbaaGreatDoor
open Go.ChangeShapes Go.WideShapes Go.ChangeAt Go.RowKit Go.Joins Go.Deep
set_option maxRecDepth 100000

theorem array6 {α : Type} {cs : Array α} (h : cs.size = 6) : ∃ c0 c1 c2 c3 c4 c5, cs = #[c0, c1, c2, c3, c4, c5] := by
  obtain ⟨l⟩ := cs
  match l, h with
  | [c0, c1, c2, c3, c4, c5], _ => exact ⟨c0, c1, c2, c3, c4, c5, rfl⟩
theorem trod_struct6 {H : Type} {enc : TypeId × Value → H} {P : Program} {w : World} {base : Nat} {spare : Nat → Bool} {held : Bool} {t : TypeId} {f0 f1 f2 f3 f4 f5 : Field} {fuel : Nat} {cs : List Value} {x : DataW H × List MemPlace} (ht : P.underlying t = some (.struct #[f0, f1, f2, f3, f4, f5])) (h : DataW.trod enc P w base spare held fuel t cs = some x) :
    ∃ y0 y1 y2 y3 y4 y5 n, x = (.agg [y0.1, y1.1, y2.1, y3.1, y4.1, y5.1], y0.2 ++ (y1.2 ++ (y2.2 ++ (y3.2 ++ (y4.2 ++ y5.2))))) ∧ DataW.trod enc P w base spare held n f0.type ((cs.drop f0.offset).take (P.cellsOf f0.type)) = some y0 ∧
      DataW.trod enc P w base spare held n f1.type ((cs.drop f1.offset).take (P.cellsOf f1.type)) = some y1 ∧ DataW.trod enc P w base spare held n f2.type ((cs.drop f2.offset).take (P.cellsOf f2.type)) = some y2 ∧
      DataW.trod enc P w base spare held n f3.type ((cs.drop f3.offset).take (P.cellsOf f3.type)) = some y3 ∧ DataW.trod enc P w base spare held n f4.type ((cs.drop f4.offset).take (P.cellsOf f4.type)) = some y4 ∧ DataW.trod enc P w base spare held n f5.type ((cs.drop f5.offset).take (P.cellsOf f5.type)) = some y5 := by
  obtain ⟨xs, n, _, rfl, hl, hlen, hf⟩ := DataW.trod_struct ht h
  match xs, hlen with
  | [y0, y1, y2, y3, y4, y5], _ => exact ⟨y0, y1, y2, y3, y4, y5, n, by simp, by simpa using hf 0 f0 rfl, by simpa using hf 1 f1 rfl, by simpa using hf 2 f2 rfl, by simpa using hf 3 f3 rfl, by simpa using hf 4 f4 rfl, by simpa using hf 5 f5 rfl⟩
theorem open_agg6 {H : Type} {enc : TypeId × Value → H} {P : Program} {w : World} {base : Nat} {spare : Nat → Bool} {held : Bool} {r : Reach} {b0 : Nat} {t : TypeId} {f0 f1 f2 f3 f4 f5 : Field} {v : Value} {d : DataW H} {p : List MemPlace} (hs : P.underlying t = some (.struct #[f0, f1, f2, f3, f4, f5])) (hone : oneCellFields P #[f0, f1, f2, f3, f4, f5] = true) (hC : P.cellsOf t = 6)
    (hv : Value.okWide P w r b0 t v) (h : DataW.Trod enc P w base spare held t v d p) :
    ∃ (v0 v1 v2 v3 v4 v5 : Value) (y0 y1 y2 y3 y4 y5 : DataW H × List MemPlace) (n : Nat), v = .agg #[v0, v1, v2, v3, v4, v5] ∧ p = y0.2 ++ (y1.2 ++ (y2.2 ++ (y3.2 ++ (y4.2 ++ y5.2)))) ∧
      DataW.trod enc P w base spare held n f0.type [v0] = some y0 ∧ DataW.trod enc P w base spare held n f1.type [v1] = some y1 ∧ DataW.trod enc P w base spare held n f2.type [v2] = some y2 ∧ DataW.trod enc P w base spare held n f3.type [v3] = some y3 ∧ DataW.trod enc P w base spare held n f4.type [v4] = some y4 ∧ DataW.trod enc P w base spare held n f5.type [v5] = some y5 := by
  obtain ⟨cs, rfl, hsz⟩ := okWide_struct hs hv
  obtain ⟨c0, c1, c2, c3, c4, c5, rfl⟩ := array6 (hsz.trans hC)
  obtain ⟨fuel, hf⟩ := h
  obtain ⟨y0, y1, y2, y3, y4, y5, n, hx, h0, h1, h2, h3, h4, h5⟩ := trod_struct6 hs hf
  obtain ⟨o0, k0⟩ := hone_of hone 0 f0 rfl
  obtain ⟨o1, k1⟩ := hone_of hone 1 f1 rfl
  obtain ⟨o2, k2⟩ := hone_of hone 2 f2 rfl
  obtain ⟨o3, k3⟩ := hone_of hone 3 f3 rfl
  obtain ⟨o4, k4⟩ := hone_of hone 4 f4 rfl
  obtain ⟨o5, k5⟩ := hone_of hone 5 f5 rfl
  simp only [Prod.mk.injEq] at hx
  exact ⟨c0, c1, c2, c3, c4, c5, y0, y1, y2, y3, y4, y5, n, rfl, hx.2, by simpa [Value.cells, o0, k0] using h0, by simpa [Value.cells, o1, k1] using h1, by simpa [Value.cells, o2, k2] using h2, by simpa [Value.cells, o3, k3] using h3, by simpa [Value.cells, o4, k4] using h4, by simpa [Value.cells, o5, k5] using h5⟩
theorem nat_of {z : Int} {m : Int} (h : 0 ≤ z ∧ z ≤ m) : ∃ n : Nat, z = n ∧ (n : Int) ≤ m := by
  obtain ⟨n, rfl⟩ := Int.eq_ofNat_of_zero_le h.1
  exact ⟨n, rfl, h.2⟩
theorem half_wf {z : Int} (h : (Lit.int .u16 z).wf = true) : 0 ≤ z ∧ z ≤ 65535 := by
  simpa [Lit.wf, IntKind.min, IntKind.max, IntKind.signed, IntKind.bits] using h
end Go.Proofs.YtgbpfejodpplbaaGreatDoor
namespace Go.Proofs.YtgbpfejodpplbaaGreatDoor
open Go.ChangeShapes Go.WideShapes Go.ChangeAt Go.RowKit Go.Joins Go.Deep
set_option maxRecDepth 100000
theorem Tryz.cellsE2 : Tryz.prog.cellsOf 64 = 2 := by kernel_rfl
theorem Tryz.cellsS1 : Tryz.prog.cellsOf 9 = 1 := by kernel_rfl
theorem Tryz.cellsM6 : Tryz.prog.cellsOf 28 = 6 := by kernel_rfl
theorem namesC {H : Type} {enc : TypeId × Value → H} {W : World} {fuel : Nat} {c : Value} {y : DataW H × List MemPlace}
    (hf : DataW.trod enc Tryz.prog W 0 (fun _ => true) true fuel 26 [c] = some y) (hlt : ∀ x ∈ y.2, x.block < W.heap.size) :
    ∃ (ao : Option Addr) (L : List (ByteArray × Nat)) (cap : Nat), c = .slice ao L.length cap ∧ L.length ≤ 9223372036854775807 ∧ (∀ p ∈ L, p.2 < 4294967296) ∧ NRd W ao L W.heap.size := by
  rcases Go.Deep.open_slice_pairs Tryz.underlying26 Tryz.underlying64 Tryz.cellsE2 rfl rfl Tryz.cellsS1 Tryz.cellsD1 hf with ⟨hcs, hx⟩ | ⟨a, len, cap, m, n, V0, V1, D0, D1, P0, P1, hcs, _, hl, hm, hz, hx, hcell⟩
  · simp only [List.cons.injEq, and_true] at hcs
    exact ⟨none, [], 0, hcs, by simp, fun p hp => by simp at hp, fun hp => by simp at hp⟩
  · simp only [List.cons.injEq, and_true] at hcs
    subst hcs hx
    simp only [if_true] at hz
    subst hz
    unfold maxLen at hm
    have each : ∀ i, i < len → ∃ q : ByteArray × Nat, V0 i = .string q.1 ∧ V1 i = .int .u32 q.2 ∧ q.2 < 4294967296 := by
      intro i hi
      obtain ⟨_, _, g0, g1⟩ := hcell i (by omega)
      obtain ⟨s, e0, _, _⟩ := DataW.trod_string Tryz.underlying9 g0
      obtain ⟨u, e1, _, w1⟩ := DataW.trod_int Tryz.underlying25 g1
      simp at e0 e1
      have h1 := word_wf w1
      exact ⟨(s, u.toNat), e0, by rw [e1]; simp only []; rw [Int.toNat_of_nonneg h1.1], by simp only []; omega⟩
    obtain ⟨f, hfx⟩ : ∃ f : Nat → ByteArray × Nat, ∀ i, i < len → V0 i = .string (f i).1 ∧ V1 i = .int .u32 (f i).2 ∧ (f i).2 < 4294967296 :=
      ⟨fun i => if hi : i < len then (each i hi).choose else (.empty, 0), fun i hi => by simp only [hi, dite_true]; exact (each i hi).choose_spec⟩
    have hgd : ∀ j, j < len → ((List.range len).map f).getD j (.empty, 0) = f j := fun j hj => by simp [hj]
    refine ⟨some a, (List.range len).map f, m, by simp, by simp; omega, ?_, ?_⟩
    · intro p hp
      obtain ⟨i, hi, rfl⟩ := List.mem_map.1 hp
      exact (hfx i (List.mem_range.1 hi)).2.2
    · intro hpos
      simp at hpos
      obtain ⟨b, off, spot⟩ := a
      have hspot : spot = none := by simpa [Addr.add] using World.cell?_spot (hcell 0 (by omega)).1
      subst hspot
      have hbW : b < W.heap.size := hlt (.cell b off) (List.mem_append_left _ (MemPlace.mem_row.2 ⟨0, by omega, by simp⟩))
      refine ⟨b, off, rfl, hbW, fun j hj => ?_⟩
      simp at hj
      obtain ⟨c0, c1, _, _⟩ := hcell j (by omega)
      obtain ⟨e0, e1, _⟩ := hfx j hj
      rw [add_plain] at c0 c1
      rw [hgd j hj]
      exact ⟨by rw [c0, e0], by rw [Nat.add_assoc, c1, e1]⟩
theorem slice_shape {H : Type} {enc : TypeId × Value → H} {W : World} {fuel : Nat} {t e : TypeId} {ao : Option Addr} {len cap : Nat} {y : DataW H × List MemPlace} (ht : Tryz.prog.underlying t = some (.slice e))
    (h : DataW.trod enc Tryz.prog W 0 (fun _ => true) true fuel t [.slice ao len cap] = some y) : (y.1 = .nil ∧ len = 0) ∨ ∃ A B, y.1 = .slice A B ∧ A.length = len := by
  rcases open_slice ht h with ⟨hcs, hx⟩ | ⟨a, len', cap', m, n, D, Pl, hcs, _, _, _, _, hx, _⟩
  · simp at hcs
    exact .inl ⟨by rw [hx], hcs.2.1⟩
  · simp at hcs
    exact .inr ⟨_, _, by rw [hx], by simp [hcs.2.1]⟩
theorem wt_slice {H : Type} {t e : TypeId} {len B : Nat} {d : DataW H} (ht : Tryz.prog.underlying t = some (.slice e)) (hs : (d = .nil ∧ len = 0) ∨ ∃ A C, d = .slice A C ∧ A.length = len) (h : ∀ n ∈ d.weights Tryz.prog t, n ≤ B) : len * Tryz.prog.bytesOf e ≤ B := by
  rcases hs with ⟨_, rfl⟩ | ⟨A, C, rfl, rfl⟩
  · simp
  · have := h ((A.length + C.length) * Tryz.prog.bytesOf e) (by unfold DataW.weights; rw [ht]; exact List.mem_cons_self ..)
    exact Nat.le_trans (Nat.mul_le_mul_right _ (Nat.le_add_right _ _)) this
theorem open_agg6d {H : Type} {enc : TypeId × Value → H} {P : Program} {w : World} {base : Nat} {spare : Nat → Bool} {held : Bool} {r : Reach} {b0 : Nat} {t : TypeId} {f0 f1 f2 f3 f4 f5 : Field} {v : Value} {d : DataW H} {p : List MemPlace} (hs : P.underlying t = some (.struct #[f0, f1, f2, f3, f4, f5])) (hone : oneCellFields P #[f0, f1, f2, f3, f4, f5] = true) (hC : P.cellsOf t = 6)
    (hv : Value.okWide P w r b0 t v) (h : DataW.Trod enc P w base spare held t v d p) :
    ∃ (v0 v1 v2 v3 v4 v5 : Value) (y0 y1 y2 y3 y4 y5 : DataW H × List MemPlace) (n : Nat), v = .agg #[v0, v1, v2, v3, v4, v5] ∧ d = .agg [y0.1, y1.1, y2.1, y3.1, y4.1, y5.1] ∧ p = y0.2 ++ (y1.2 ++ (y2.2 ++ (y3.2 ++ (y4.2 ++ y5.2)))) ∧
      DataW.trod enc P w base spare held n f0.type [v0] = some y0 ∧ DataW.trod enc P w base spare held n f1.type [v1] = some y1 ∧ DataW.trod enc P w base spare held n f2.type [v2] = some y2 ∧ DataW.trod enc P w base spare held n f3.type [v3] = some y3 ∧ DataW.trod enc P w base spare held n f4.type [v4] = some y4 ∧ DataW.trod enc P w base spare held n f5.type [v5] = some y5 := by
  obtain ⟨cs, rfl, hsz⟩ := okWide_struct hs hv
  obtain ⟨c0, c1, c2, c3, c4, c5, rfl⟩ := array6 (hsz.trans hC)
  obtain ⟨fuel, hf⟩ := h
  obtain ⟨y0, y1, y2, y3, y4, y5, n, hx, h0, h1, h2, h3, h4, h5⟩ := trod_struct6 hs hf
  obtain ⟨o0, k0⟩ := hone_of hone 0 f0 rfl
  obtain ⟨o1, k1⟩ := hone_of hone 1 f1 rfl
  obtain ⟨o2, k2⟩ := hone_of hone 2 f2 rfl
  obtain ⟨o3, k3⟩ := hone_of hone 3 f3 rfl
  obtain ⟨o4, k4⟩ := hone_of hone 4 f4 rfl
  obtain ⟨o5, k5⟩ := hone_of hone 5 f5 rfl
  simp only [Prod.mk.injEq] at hx
  exact ⟨c0, c1, c2, c3, c4, c5, y0, y1, y2, y3, y4, y5, n, rfl, hx.1, hx.2, by simpa [Value.cells, o0, k0] using h0, by simpa [Value.cells, o1, k1] using h1, by simpa [Value.cells, o2, k2] using h2, by simpa [Value.cells, o3, k3] using h3, by simpa [Value.cells, o4, k4] using h4, by simpa [Value.cells, o5, k5] using h5⟩
theorem Tryz.bytesI : Tryz.prog.bytesOf 43 = 8 := by kernel_rfl
theorem Tryz.bytesW : Tryz.prog.bytesOf 25 = 4 := by kernel_rfl
theorem Tryz.bytesB : Tryz.prog.bytesOf 5 = 1 := by kernel_rfl
theorem Tryz.bytesE : Tryz.prog.bytesOf 64 = 24 := by kernel_rfl
/-- an image that is handed in -/
theorem image_open {H : Type} {enc : TypeId × Value → H} {W : World} {r : Reach} {b0 : Nat} {v : Value} {d : DataW H} {p : List MemPlace}
    (hv : Value.okWide Tryz.prog W r b0 28 v) (h : DataW.Trod enc Tryz.prog W 0 (fun _ => true) true 28 v d p) (hlt : ∀ x ∈ p, x.block < W.heap.size) (hsz : ∀ n ∈ d.weights Tryz.prog 28, n ≤ 140737488351232) :
    ∃ (ac aj ad an : Option Addr) (cc cj cd cn z st : Nat) (L : List (Nat × Nat)) (J : List Nat) (ds : List Int) (M : List (ByteArray × Nat)), v = imV ac L.length cc aj J.length cj ad ds.length cd z st an M.length cn ∧ L.length * 8 ≤ 140737488351232 ∧ J.length * 4 ≤ 140737488351232 ∧ ds.length ≤ 140737488351232 ∧ M.length * 24 ≤ 140737488351232 ∧
      Wfc L ∧ (∀ q ∈ J, q < 4294967296) ∧ (∀ q ∈ M, q.2 < 4294967296) ∧ z < 4294967296 ∧ st < 4294967296 ∧ CRd W ac L W.heap.size ∧ JRd W aj J W.heap.size ∧ Reads W ad ds W.heap.size ∧ NRd W an M W.heap.size := by
  obtain ⟨c0, c1, c2, c3, c4, c5, y0, y1, y2, y3, y4, y5, k, rfl, rfl, hp, t0, t1, t2, t3, t4, t5⟩ := open_agg6d Tryz.underlying28 (by kernel_rfl) Tryz.cellsM6 hv h
  obtain ⟨z3, e3, _, w3⟩ := DataW.trod_int Tryz.underlying25 t3
  obtain ⟨z4, e4, _, w4⟩ := DataW.trod_int Tryz.underlying25 t4
  obtain ⟨ac, L, cc, rfl, _, q2, q3⟩ := codeC t0 (fun x hx => hlt x (by rw [hp]; simp [hx]))
  obtain ⟨aj, J, cj, rfl, _, r2, r3⟩ := jumpsC t1 (fun x hx => hlt x (by rw [hp]; simp [hx]))
  obtain ⟨ad, cd, ds, e2, _, _, u3, _⟩ := bytes_cells (d := y2.1) (p := y2.2) t2 (fun x hx => hlt x (by rw [hp]; simp [hx]))
  obtain ⟨an, M, cn, rfl, _, n2, n3⟩ := namesC t5 (fun x hx => hlt x (by rw [hp]; simp [hx]))
  simp only [List.cons.injEq, and_true] at e2 e3 e4
  subst e2 e3 e4
  obtain ⟨z, rfl, hz⟩ := nat_of (word_wf w3)
  obtain ⟨st, rfl, hst⟩ := nat_of (word_wf w4)
  have hw : ∀ n, n ∈ y0.1.weights Tryz.prog 22 ∨ n ∈ y1.1.weights Tryz.prog 23 ∨ n ∈ y2.1.weights Tryz.prog 24 ∨ n ∈ y5.1.weights Tryz.prog 26 → n ≤ 140737488351232 := fun n hn => by
    refine hsz n ?_
    unfold DataW.weights
    rw [Tryz.underlying28]
    simp only [List.map, DataW.weightsEach, List.mem_append]
    rcases hn with hn | hn | hn | hn
    · exact .inl hn
    · exact .inr (.inl hn)
    · exact .inr (.inr (.inl hn))
    · exact .inr (.inr (.inr (.inr (.inr (.inl hn)))))
  have s0 := wt_slice Tryz.underlying22 (slice_shape Tryz.underlying22 t0) (fun n hn => hw n (.inl hn))
  have s1 := wt_slice Tryz.underlying23 (slice_shape Tryz.underlying23 t1) (fun n hn => hw n (.inr (.inl hn)))
  have s2 := wt_slice Tryz.underlying24 (slice_shape Tryz.underlying24 t2) (fun n hn => hw n (.inr (.inr (.inl hn))))
  have s5 := wt_slice Tryz.underlying26 (slice_shape Tryz.underlying26 t5) (fun n hn => hw n (.inr (.inr (.inr hn))))
  rw [Tryz.bytesI] at s0
  rw [Tryz.bytesW] at s1
  rw [Tryz.bytesB] at s2
  rw [Tryz.bytesE] at s5
  exact ⟨ac, aj, ad, an, cc, cj, cd, cn, z, st, L, J, ds, M, rfl, s0, s1, by omega, s5, q2, r2, n2, by omega, by omega, q3, r3, u3, n3⟩
end Go.Proofs.YtgbpfejodpplbaaGreatDoor
