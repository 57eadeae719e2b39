import Derived.Test.YtgbpfejodpplbaaGreatDoorCDXe
import Derived.Test.YtgbpfejodpplbaaGreatDoorCDLg
import Derived.Test.YtgbpfejodpplbaaGreatDoorCPOf
import Derived.BigQuiet
namespace Go.Proofs.YtgbpfejodpplbaaGreatDoor
open Go.RowKit Go.WideShapes Go.Shelf
set_option maxRecDepth 100000
theorem enc_er {L : List (Nat × Nat)} (h : encX L = 0) {i : Nat} (hi : i < L.length) : erV (L.getD i (0, 0)).1 (L.getD i (0, 0)).2 = 0 := by
  have hl := encX_len h
  have hall := fun j (hj : j < L.length) => enc_each h hj
  unfold encX at h
  rw [if_neg (by omega)] at h
  by_cases ha : allOk L = true
  · have := List.all_eq_true.1 ha (L.getD i (0, 0)) (by rw [List.getD_eq_getElem?_getD, List.getElem?_eq_getElem hi]; exact List.getElem_mem hi)
    exact eq_of_beq this
  · rw [if_neg ha] at h
    exfalso
    have hne : ∃ j, j < L.length ∧ okI (L.getD j (0, 0)) = false := by
      refine Classical.byContradiction fun hno => ha ?_
      refine allOk_of L fun j hj => ?_
      cases hb : okI (L.getD j (0, 0)) with
      | true => rfl
      | false => exact absurd ⟨j, hj, hb⟩ hno
    obtain ⟨j, hj, hq⟩ := hne
    have : ∀ m, m ≤ L.length → (∀ j, j < m → okI (L.getD j (0, 0)) = true) ∨ ∃ k, k < m ∧ okI (L.getD k (0, 0)) = false ∧ ∀ j, j < k → okI (L.getD j (0, 0)) = true := by
      intro m
      induction m with
      | zero => intro _; exact .inl (fun j hj => absurd hj (by omega))
      | succ m ih =>
        intro hm
        rcases ih (by omega) with h1 | ⟨k, h1, h2, h3⟩
        · cases hq2 : okI (L.getD m (0, 0)) with
          | true => exact .inl (fun j hj => by
              by_cases hjm : j < m
              · exact h1 j hjm
              · rw [show j = m by omega]; exact hq2)
          | false => exact .inr ⟨m, by omega, hq2, h1⟩
        · exact .inr ⟨k, by omega, h2, h3⟩
    rcases this L.length (Nat.le_refl _) with h1 | ⟨k, h1, h2, h3⟩
    · rw [h1 j hj] at hq
      cases hq
    · rw [(badAt_of L k h1 h3 h2).1] at h
      unfold okI at h2
      rw [h] at h2
      cases h2
theorem Tls.len {L : List (Nat × Nat)} {J : List Nat} : ∀ {P : List Pce}, (∀ i, i < P.length → 0 < (P.getD i (0, 0, 0, 0)).2.1) → P.length ≤ smP P
  | [], _ => Nat.zero_le _
  | p :: r, h => by
    have h0 := h 0 (by simp)
    have := Tls.len (L := L) (J := J) (P := r) (fun i hi => by have := h (i + 1) (by simpa using hi); simpa using this)
    simp only [List.length_cons, smP]
    change 0 < p.2.1 at h0
    omega
theorem gone_any (a : Nat) (w : World) : Calls Tryz.prog 19 #[.int .u32 (a : Int)] w fun e w' => e = .returned (.agg #[.int .u32 (a : Int), .int .u32 1, .int .u8 1, .int .u32 0]) ∧ Below w.heap.size w w' := by
  have o1 := heap_alloc_new w (Obj.cells #[.int .u32 0, .int .u32 0, .int .u8 0, .int .u32 0] 40)
  have HB : Hid (Below w.heap.size w (w.alloc (Obj.cells #[.int .u32 0, .int .u32 0, .int .u8 0, .int .u32 0] 40))) := hidS (belP (Below.refl _ _))
  have HN := hidS (setRow_heap _ w.heap.size _ #[.int .u32 (a : Int), .int .u32 1, .int .u8 1, .int .u32 0] _ _ o1)
  go_enter Tryz.func19, Tryz.ntmps19
  go_wp2_with (refine wpList_store_rowD rfl _ _ _ rfl w.heap.size _ #[.int .u32 (a : Int), .int .u32 1, .int .u8 1, .int .u32 0] rfl rfl o1 (by rw [sizeDPc]; rfl) rfl (by simp [Value.oneCell']) ?_)
  refine bodyPost_ret (resDPc (p := 2) (by kernel_rfl) _ w.heap.size #[.int .u32 (a : Int), .int .u32 1, .int .u8 1, .int .u32 0] rfl HN.out _ rfl) rfl ?_
  exact ⟨rfl, below_setRow HB.out (Nat.le_refl _) _⟩
theorem mbits_any {w : World} {B pm : Nat} {L : List (Nat × Nat)} {J : List Nat} {ds : List Int} {z st : Nat} {M : List (ByteArray × Nat)} {D N : List Int} (h : Mod w B pm L J ds z st M D N) :
    Calls Tryz.prog 38 #[.pointer (some ⟨pm, 0, none⟩)] w fun e w' => e = .returned (.int .i64 (lstK (ds.length + z + st))) ∧ w' = w := by
  have hM := mmade_any pm w (mcells h)
  obtain ⟨_, _, a1, c1, a2, c2, a3, c3, a4, c4, Bp, pp, p1, g1, p2, g2, lv, lw, A, C, gd, cp, _, _, h4⟩ := h
  have q1 : w.cell? ⟨pm, 7, none⟩ = some (.int .i64 (lstK (ds.length + z + st))) := (obj_cell h4.obj 7).trans rfl
  clear h4
  generalize lstK (ds.length + z + st) = kk at *
  go_enter Tryz.func38, Tryz.ntmps38
  go_wp2_with (go_at_call 39; refine hM.mono ?_; rintro e w2 ⟨rfl, hw2⟩; have hw2 := hw2.symm; subst hw2)
  go_ret
  exact ⟨rfl, rfl⟩
theorem gnone_any {w : World} {B pm : Nat} {L : List (Nat × Nat)} {J : List Nat} {ds : List Int} {z st : Nat} {M : List (ByteArray × Nat)} {D N : List Int} (h : Mod w B pm L J ds z st M D N) :
    Calls Tryz.prog 16 #[.pointer (some ⟨pm, 0, none⟩)] w fun e w' => e = .returned (.bool false) ∧ w' = w := by
  have hB := mbits_any h
  have hk := (lstK_in (ckV_0 h.2.1.ck).2.2.2.1).1
  generalize lstK (ds.length + z + st) = k at *
  have hkB : ((k : Int) == 0) = false := beq_eq_false_iff_ne.2 (by omega)
  have hkI : ¬ (k : Int) = 0 := by omega
  clear h hk
  go_enter Tryz.func16, Tryz.ntmps16
  go_wp2_with (go_at_call 38; refine hB.mono ?_; rintro e w2 ⟨rfl, hw2⟩; have hw2 := hw2.symm; subst hw2)
  go_ret
  exact ⟨rfl, rfl⟩
theorem cdp_outD {w : World} {L : List (Nat × Nat)} {J : List Nat} {ds : List Int} {z st : Nat} {M : List (ByteArray × Nat)} {e : Ending} {w' : World} (h : CdP w L J ds z st M e w') : ∃ a1 c1 a2 c2 a3 c3 a4 c4, e = .returned (.agg #[.slice a1 L.length c1, .slice a2 J.length c2, .slice a3 ds.length c3, .int .u32 (z : Nat), .int .u32 (st : Nat), .slice a4 M.length c4]) ∧ ImO w' w.heap.size a1 c1 a2 c2 a3 c3 a4 c4 L J ds M ∧ Below w.heap.size w w' := h
end Go.Proofs.YtgbpfejodpplbaaGreatDoor
namespace Go.Proofs.YtgbpfejodpplbaaGreatDoor
open Go.RowKit Go.WideShapes Go.Shelf
set_option maxRecDepth 100000
theorem infoGP : (Tryz.prog.info? 40).map (fun i => (i.zero, i.size, i.bytes)) = some (some (.agg #[.int .u32 0, .int .u32 0, .int .u8 0, .int .u32 0]), 4, 16) := by kernel_rfl
/-- pieces that are being laid -/
structure PcS (L : List (Nat × Nat)) (J : List Nat) (w4 : World) (P : List Pce) (a : Nat) (v : Value) (W : World) : Prop where
  tl : Tls L J P
  sm : smP P = a
  le : a ≤ L.length
  own : W.ownsRow w4.heap.size 40 4 v P.length (pcv P)
  bel : Below w4.heap.size w4 W
theorem PcS.up {L : List (Nat × Nat)} {J : List Nat} {w4 : World} {P : List Pce} {a : Nat} {v : Value} {W V : World} (h : PcS L J w4 P a v W) (hb : Below W.heap.size W V) : PcS L J w4 P a v V :=
  ⟨h.tl, h.sm, h.le, own_belowW h.own hb, h.bel.trans (hb.mono h.bel.size)⟩
theorem PcS.len {L : List (Nat × Nat)} {J : List Nat} {w4 : World} {P : List Pce} {a : Nat} {v : Value} {W : World} (h : PcS L J w4 P a v W) : P.length ≤ a := by
  have := Tls.len (L := L) (J := J) (P := P) (fun i hi => (h.tl i hi).1.len)
  rw [h.sm] at this
  exact this
theorem PcS.push {L : List (Nat × Nat)} {J : List Nat} {w4 : World} {P : List Pce} {a : Nat} {v v' : Value} {W W' : World} {p1 p2 p3 p4 : Nat} (h : PcS L J w4 P a v W) (hp : GdP L J (p1, p2, p3, p4)) (ha : p1 = a)
    (hown : W'.ownsRow w4.heap.size 40 4 v' (P.length + 1) (pcv P ++ [.int .u32 (p1 : Nat), .int .u32 (p2 : Nat), .int .u8 (p3 : Nat), .int .u32 (p4 : Nat)])) (hb : Below w4.heap.size w4 W') : PcS L J w4 (P ++ [(p1, p2, p3, p4)]) (a + p2) v' W' := by
  refine ⟨h.tl.push hp (by rw [h.sm]; exact ha), by rw [smP_append, h.sm]; rfl, ?_, ?_, hb⟩
  · have := hp.fit
    change p1 + p2 ≤ L.length at this
    omega
  · rw [List.length_append, pcv_append]
    exact hown
/-- what abides at the head of a round over the beginnings -/
def RdB (L : List (Nat × Nat)) (J : List Nat) (a q : Nat) : Prop := (q < (gdE L J).length → NoB L J a q ∧ a ≤ (gdE L J).getD q 0) ∧ (0 < q → a = (gdE L J).getD (q - 1) 0)
theorem RdB.start {L : List (Nat × Nat)} {J : List Nat} : RdB L J 0 0 := ⟨fun h => ⟨NoB.zero h, Nat.zero_le _⟩, fun h => absurd h (by omega)⟩
theorem RdB.next {L : List (Nat × Nat)} {J : List Nat} {q : Nat} : RdB L J ((gdE L J).getD q 0) (q + 1) := ⟨fun h => NoB.next h, fun _ => rfl⟩
/-- what Pieces leaves -/
def PcP (w : World) (L : List (Nat × Nat)) (J : List Nat) (e : Ending) (w' : World) : Prop := ∃ v P, e = .returned (.tuple #[v, .int .i64 0]) ∧ Tls L J P ∧ smP P = L.length ∧ w'.ownsRow w.heap.size 40 4 v P.length (pcv P) ∧ Below w.heap.size w w'
set_option maxHeartbeats 16000000 in
theorem pieces_any {w : World} {B pm : Nat} {L : List (Nat × Nat)} {J : List Nat} {ds : List Int} {z st : Nat} {M : List (ByteArray × Nat)} {D N : List Int} (h : Mod w B pm L J ds z st M D N) (hwf : Wfc L) :
    Calls Tryz.prog 7 #[.pointer (some ⟨pm, 0, none⟩)] w (PcP w L J) := by
  have hl := mlen h
  have HNo := hidS (gnone_any h)
  have HIm := hidS (mimage_any h)
  have hG := h.2.1.fd
  have hn0 : 0 < L.length := by
    have := bgs_pos hG.fst
    have := bgs_lt (L := L) (i := 0) this
    omega
  have HE := hidS (gdE_end hG hwf hn0)
  have HAt := hidS (fun q (hq : q < (gdE L J).length) => gdE_at hq)
  have hJl := (ckV_0 h.2.1.ck).2.1
  have HEn := hidS (fun (a1 a2 a3 a4 : Option Addr) (c1 c2 nd c3 nn c4 : Nat) (W : World) => gends_any a1 a2 a3 a4 c1 c2 nd c3 z st nn c4 L J M W hG hwf hJl)
  have HLn := hidS (fun (ao : Option Addr) (cap a e : Nat) (W : World) (hcap : L.length ≤ cap) (ha : a < 4294967296) (he : e < 4294967296) (hr : CRd W ao L W.heap.size) => Longest_any ao cap a e L W (by omega) hcap ha he hwf hr)
  have HEr := hidS (fun i (hi : i < L.length) => enc_er hG.enc hi)
  have HM := hidS (fun W (hW : Below w.heap.size w W) => h.below hW)
  have HW := hidS hwf
  have hle := gdE_len L J
  obtain ⟨i0, hi0, hy0, hy1, hy2⟩ := info_parts infoGP
  clear h hG hn0 hJl hwf
  go_enter Tryz.func7, Tryz.ntmps7
  go_wp2_with fail
  refine HNo.out.mono ?_
  rintro e wq ⟨rfl, hq⟩
  subst wq
  go_wp2_with fail
  refine HIm.out.mono ?_
  rintro e w2 hcd
  obtain ⟨a1, c1, a2, c2, a3, c3, a4, c4, rfl, hI, hb2⟩ := cdp_outD hcd
  obtain ⟨w3, hw3⟩ : ∃ w3, w2.alloc (.cells #[.slice a1 L.length c1, .slice a2 J.length c2, .slice a3 ds.length c3, .int .u32 (z : Nat), .int .u32 (st : Nat), .slice a4 M.length c4] 28) = w3 := ⟨_, rfl⟩
  have hb23 : Below w2.heap.size w2 w3 := by rw [← hw3]; exact belP (Below.refl _ _)
  have ho3 : w3.heap[w2.heap.size]? = some (.cells #[.slice a1 L.length c1, .slice a2 J.length c2, .slice a3 ds.length c3, .int .u32 (z : Nat), .int .u32 (st : Nat), .slice a4 M.length c4] 28 (0, 0)) := by rw [← hw3]; exact heap_alloc_new w2 _
  have HC : Hid (∀ W, Below w3.heap.size w3 W → W.cell? ⟨w2.heap.size, 0, none⟩ = some (.slice a1 L.length c1) ∧ CRd W a1 L W.heap.size) := hidS (fun W hW => ⟨(obj_cell ((hW.block _ (Array.getElem?_eq_some_iff.1 ho3).1).trans ho3) 0).trans rfl, (imo_code hI).below (hb23.trans (hW.mono hb23.size)) |>.mono (Nat.le_trans hb23.size hW.size)⟩)
  have HIm3 := hidS (hI.below hb23)
  have HB3 := hidS (hb2.trans (hb23.mono hb2.size))
  have HW3 := hidS hw3
  have hcap : L.length ≤ c1 := hI.k1
  have e0 := (obj_cell ho3 0).trans rfl
  have e1 := (obj_cell ho3 1).trans rfl
  have e2 := (obj_cell ho3 2).trans rfl
  have e3 := (obj_cell ho3 3).trans rfl
  have e4 := (obj_cell ho3 4).trans rfl
  have e5 := (obj_cell ho3 5).trans rfl
  simp only [List.getElem?_toArray, List.getElem?_cons_zero, List.getElem?_cons_succ] at e0 e1 e2 e3 e4 e5
  clear hcd hI hb2 hb23 ho3 hw3 HNo HIm
  go_wp2_with fail
  rw [HW3.out]
  refine (HEn.out a1 a2 a3 a4 c1 c2 ds.length c3 M.length c4 w3 (imo_code HIm3.out) (imo_jumps HIm3.out)).mono ?_
  rintro e w4 ⟨ev, rfl, hev, hb4⟩
  obtain ⟨ae, ce, heq⟩ : ∃ ae ce, ev = .slice ae (gdE L J).length ce := by
    rcases hev.2 with ⟨hn, hz⟩ | ⟨g', cap', cur', e1, e2⟩
    · exact ⟨none, 0, by rw [hn, hz]⟩
    · exact ⟨_, _, e1⟩
  subst heq
  have HEv := hidS (And.intro hev hb4)
  have hP0 : PcS L J w4 [] 0 (.slice none 0 0) w4 := ⟨fun i hi => absurd hi (by simp), rfl, Nat.zero_le _, World.ownsRow_nil _ _ _ _, Below.refl _ _⟩
  have HP0 := hidS hP0
  have HEc : Hid (∀ W q, Below w4.heap.size w4 W → q < (gdE L J).length → ∃ g, ae = some ⟨g, 0, none⟩ ∧ W.cell? ⟨g, q, none⟩ = some (.int .u32 ((gdE L J).getD q 0 : Nat))) := hidS (fun W q hW hq => by
    have h1 := own_belowW hev hW
    rcases h1.2 with ⟨_, hz⟩ | ⟨g', cap', cur', e1, e2⟩
    · omega
    · simp only [Value.slice.injEq] at e1
      obtain ⟨rfl, _, rfl⟩ := e1
      refine ⟨g', rfl, ?_⟩
      have := h1.cells (g := g') rfl q (.int .u32 ((gdE L J).getD q 0 : Nat)) (by simp [dv, List.getElem?_eq_getElem hq, List.getD_eq_getElem?_getD])
      rw [add_plain, Nat.zero_add] at this
      exact this)
  clear hev hb4 hP0 HEn HW3 e0 e1 e2 e3 e4 e5 HIm3
  go_wp2
  go_loopw [5, 6, 17] (fun v u i wr => ∃ (q a : Nat) (P : List Pce), i = .int .i64 q ∧ q ≤ (gdE L J).length ∧ u = .int .u32 a ∧ RdB L J a q ∧ PcS L J w4 P a v wr)
    (fun _ _ i _ => (gdE L J).length - (intOf i).toNat)
  case atStart => exact ⟨0, 0, [], rfl, Nat.zero_le _, rfl, RdB.start, HP0.out⟩
  case round =>
    obtain ⟨q, a, P, rfl, hq, rfl, hR, hS⟩ := hrel
    by_cases hlt : q < (gdE L J).length
    · have hltI : (q : Int) < ((gdE L J).length : Int) := by omega
      obtain ⟨g, rfl, hc⟩ := HEc.out wr q hS.bel hlt
      obtain ⟨hNB, hae⟩ := hR.1 hlt
      have HeL := hidS (HAt.out q hlt)
      have HNx := hidS (RdB.next (L := L) (J := J) (q := q))
      have HNB := hidS (fun b (hb : a ≤ b) => hNB.mono hb)
      have HS := hidS hS
      have HeN : Hid (∀ b, NoB L J b q → ∀ k, b < k → k < (gdE L J).getD q 0 → ldB L J k = false) := hidS (fun b hb => hb.ld)
      obtain ⟨e, heq⟩ : ∃ e, (gdE L J).getD q 0 = e := ⟨_, rfl⟩
      rw [heq] at hc hae HeL HNx HeN
      clear hR hS heq hNB
      go_wp2
      go_loopw [5, 6] (fun v u wr => ∃ (a' : Nat) (P : List Pce), u = .int .u32 a' ∧ a ≤ a' ∧ a' ≤ e ∧ PcS L J w4 P a' v wr) (fun _ u _ => e - (intOf u).toNat)
      case atStart => exact ⟨a, P, rfl, Nat.le_refl _, hae, HS.out⟩
      case round =>
        obtain ⟨b, P, rfl, hab, hbe, hS⟩ := hrel
        by_cases hltb : b < e
        · have hltbI : (b : Int) < (e : Int) := by omega
          have hel := HeL.out
          have HO1 := hidS (gone_any b wr)
          have hwb : Below w.heap.size w wr := HB3.out.trans (HEv.out.2.trans (hS.bel.mono HEv.out.2.size) |>.mono HB3.out.size)
          have HMo := hidS (fun (W : World) (hW : Below wr.heap.size wr W) => mdepth_any b (by omega) (HM.out W (hwb.trans (hW.mono hwb.size))))
          have HCo := hidS (fun (W : World) (hW : Below wr.heap.size wr W) => HC.out W (HEv.out.2.trans ((hS.bel.trans (hW.mono hS.bel.size)).mono HEv.out.2.size)))
          have HG1 := hidS (gdP_one (L := L) (J := J) (a := b) (by omega))
          have HG2 := hidS (gdP_ln (L := L) (J := J) (a := b) (e := e) HW.out hltb hel (HEr.out b (by omega)) (HeN.out b (HNB.out b hab)))
          have HS := hidS hS
          have hPl := hS.len
          obtain ⟨la, lc, hlv⟩ : ∃ la lc, u5 = .slice la P.length lc := by
            rcases hS.own.2 with ⟨hn, hz⟩ | ⟨g', cap', cur', e1, e2⟩
            · exact ⟨none, 0, by rw [hn, hz]⟩
            · exact ⟨_, _, e1⟩
          subst hlv
          clear hS hwb
          go_wp2_with fail
          refine HO1.out.mono ?_
          rintro e' w5 ⟨rfl, hb5⟩
          obtain ⟨w6, hw6⟩ : ∃ w6, w5.alloc (.cells #[.int .u32 (b : Int), .int .u32 1, .int .u8 1, .int .u32 0] 40) = w6 := ⟨_, rfl⟩
          have hb6 : Below wr.heap.size wr w6 := by rw [← hw6]; exact belP hb5
          have ho6 : w6.heap[w5.heap.size]? = some (.cells #[.int .u32 (b : Int), .int .u32 1, .int .u8 1, .int .u32 0] 40 (0, 0)) := by rw [← hw6]; exact heap_alloc_new w5 _
          have HW6 := hidS hw6
          have HB6 := hidS hb6
          have HO6 := hidS ho6
          have hz5 := hb5.size
          clear hw6 hb6 ho6 hb5 HO1
          have HDe := HMo.out w6 HB6.out
          generalize D.getD b (-1) = d at HDe
          by_cases hd : 0 ≤ d
          · have hdB : decide (0 ≤ d) = true := decide_eq_true hd
            obtain ⟨hcc, hrc⟩ := HCo.out w6 HB6.out
            have HLo := hidS (HLn.out a1 c1 b e w6 hcap (by omega) (by omega) hrc)
            obtain ⟨hgp, hp1, hpe⟩ := HG2.out
            generalize hlq : lnP L b e = pq at HLo hgp hp1 hpe
            obtain ⟨p1, p2, p3, p4⟩ := pq
            simp only [pcA] at HLo
            change p1 = b at hp1
            change b + p2 ≤ e at hpe
            have HGp := hidS (And.intro hgp hp1)
            generalize (lnE L b e : Int) = le at HLo
            clear hgp hrc hlq HG2 HG1 hp1
            go_wp2_with fail
            rw [HW6.out]
            refine HDe.mono ?_
            rintro e' wq ⟨rfl, hq'⟩
            subst wq
            go_wp2_with fail
            refine HLo.out.mono ?_
            rintro e' w7 ⟨rfl, hb7⟩
            have ho7 := (hb7.block w5.heap.size (Array.getElem?_eq_some_iff.1 HO6.out).1).trans HO6.out
            have ho8 := setRow_heap w7 w5.heap.size _ #[.int .u32 (p1 : Int), .int .u32 (p2 : Int), .int .u8 (p3 : Int), .int .u32 (p4 : Int)] _ _ ho7
            have hb8 : Below wr.heap.size wr (w7.setRow w5.heap.size #[.int .u32 (p1 : Int), .int .u32 (p2 : Int), .int .u8 (p3 : Int), .int .u32 (p4 : Int)]) := below_setRow (HB6.out.trans (hb7.mono HB6.out.size)) hz5 _
            have q0 := obj_cell ho8 0
            have q1 := obj_cell ho8 1
            have q2 := obj_cell ho8 2
            have q3 := obj_cell ho8 3
            simp only [List.getElem?_toArray, List.getElem?_cons_zero, List.getElem?_cons_succ] at q0 q1 q2 q3
            have HS8 := hidS (HS.out.up hb8)
            obtain ⟨w8, hw8⟩ : ∃ w8, w7.setRow w5.heap.size #[.int .u32 (p1 : Int), .int .u32 (p2 : Int), .int .u8 (p3 : Int), .int .u32 (p4 : Int)] = w8 := ⟨_, rfl⟩
            rw [hw8] at ho8 q0 q1 q2 q3
            have HS8 : Hid (PcS L J w4 P b (.slice la P.length lc) w8) := hw8 ▸ HS8
            have HO8 := hidS ho8
            have hp20 : 0 < p2 := HGp.out.1.len
            clear ho8 hb8 hb7 HLo HDe hdB HMo HCo hcc HO6 HW6 HB6
            have hwI : IntKind.u32.wrap ((b : Int) + (p2 : Int)) = ((b + p2 : Nat) : Int) := by rw [IntKind.wrap_u32]; have := HS8.out.le; omega
            have hwq : IntKind.u32.wrap ((b + p2 : Nat) : Int) = ((b + p2 : Nat) : Int) := by rw [IntKind.wrap_u32]; omega
            go_wp2_with (first
              | (refine wpList_store_rowD rfl _ _ _ rfl w5.heap.size _ #[.int .u32 (p1 : Int), .int .u32 (p2 : Int), .int .u8 (p3 : Int), .int .u32 (p4 : Int)] rfl rfl ho7 (by rw [sizeDPc]; rfl) rfl (by simp [Value.oneCell']) ?_; rw [hw8])
              | (at_builtin; refine wpList_append_own _ rfl _ _ 35 rfl w4.heap.size 40 i0 (.agg #[.int .u32 0, .int .u32 0, .int .u8 0, .int .u32 0]) 4 16 Tryz.underlying35 hi0 hy0 hy1 hy2 rfl (by decide) _ _ _ rfl (HS8.out.own.alloc _) ⟨_, 0, none⟩ 1 1 [.int .u32 (p1 : Nat), .int .u32 (p2 : Nat), .int .u8 (p3 : Nat), .int .u32 (p4 : Nat)] rfl rfl ?g1 ?g2 ?g3 ?g4 ?g5 ?_))
            case g1 =>
              intro j u hj
              match j, hj with
              | 0, hj => simp at hj; subst hj; exact (new_cell _ _ _ _ _ (by simp)).trans rfl
              | 1, hj => simp at hj; subst hj; exact (new_cell _ _ _ _ _ (by simp)).trans rfl
              | 2, hj => simp at hj; subst hj; exact (new_cell _ _ _ _ _ (by simp)).trans rfl
              | 3, hj => simp at hj; subst hj; exact (new_cell _ _ _ _ _ (by simp)).trans rfl
            case g2 => intro u hu; simp at hu; rcases hu with rfl | rfl | rfl | rfl <;> rfl
            case g3 => first | omega | (unfold maxLen; omega)
            case g4 => omega
            case g5 => first | omega | (have := HS8.out.bel.size; simp; omega)
            intro v' w9 hown' hgrow _
            have hown8 := HS8.out.own
            have hb9 : Below w4.heap.size w4 w9 := HS8.out.bel.trans (((Below.refl _ w8).alloc HS8.out.bel.size _).grown hgrow (by have := HS8.out.bel.size; simp; omega) (fun k e => (hown8.lt k e).1))
            have hlt8 : w5.heap.size < w8.heap.size := (Array.getElem?_eq_some_iff.1 HO8.out).1
            have ho9 : w9.heap[w5.heap.size]? = some (.cells #[.int .u32 (p1 : Int), .int .u32 (p2 : Int), .int .u8 (p3 : Int), .int .u32 (p4 : Int)] 40 (0, 0)) := (hgrow.block w5.heap.size (by simp; omega) (fun e => by have := (HS.out.own.lt _ e.symm).2; omega)).trans ((Below.heap_alloc _ _ _ (by omega)).trans HO8.out)
            have r1 := obj_cell ho9 1
            simp only [List.getElem?_toArray, List.getElem?_cons_zero, List.getElem?_cons_succ] at r1
            have HPx := hidS (HS8.out.push HGp.out.1 HGp.out.2 hown' hb9)
            clear hown' hgrow hb9 ho9 hown8 HGp
            go_wp2
            go_roundw
            case rel => exact ⟨b + p2, P ++ [(p1, p2, p3, p4)], by go_num, by omega, by omega, HPx.out⟩
            case measure => simp [intOf]; omega
          · have hdB : decide (0 ≤ d) = false := decide_eq_false hd
            have HS6 := hidS (HS.out.up HB6.out)
            have q0 := obj_cell HO6.out 0
            have q1 := obj_cell HO6.out 1
            have q2 := obj_cell HO6.out 2
            have q3 := obj_cell HO6.out 3
            simp only [List.getElem?_toArray, List.getElem?_cons_zero, List.getElem?_cons_succ] at q0 q1 q2 q3
            have hwI : IntKind.u32.wrap ((b : Int) + 1) = ((b + 1 : Nat) : Int) := by rw [IntKind.wrap_u32]; omega
            clear HG2 HMo HCo HB6
            go_wp2_with fail
            rw [HW6.out]
            refine HDe.mono ?_
            rintro e' wq ⟨rfl, hq'⟩
            subst wq
            clear HW6 HDe
            go_wp2_with (at_builtin; refine wpList_append_own _ rfl _ _ 35 rfl w4.heap.size 40 i0 (.agg #[.int .u32 0, .int .u32 0, .int .u8 0, .int .u32 0]) 4 16 Tryz.underlying35 hi0 hy0 hy1 hy2 rfl (by decide) _ _ _ rfl (HS6.out.own.alloc _) ⟨_, 0, none⟩ 1 1 [.int .u32 (b : Nat), .int .u32 1, .int .u8 1, .int .u32 0] rfl rfl ?g1 ?g2 ?g3 ?g4 ?g5 ?_)
            case g1 =>
              intro j u hj
              match j, hj with
              | 0, hj => simp at hj; subst hj; exact (new_cell _ _ _ _ _ (by simp)).trans rfl
              | 1, hj => simp at hj; subst hj; exact (new_cell _ _ _ _ _ (by simp)).trans rfl
              | 2, hj => simp at hj; subst hj; exact (new_cell _ _ _ _ _ (by simp)).trans rfl
              | 3, hj => simp at hj; subst hj; exact (new_cell _ _ _ _ _ (by simp)).trans rfl
            case g2 => intro u hu; simp at hu; rcases hu with rfl | rfl | rfl | rfl <;> rfl
            case g3 => first | omega | (unfold maxLen; omega)
            case g4 => omega
            case g5 => first | omega | (have := HS6.out.bel.size; simp; omega)
            intro v' w9 hown' hgrow _
            have hown6 := HS6.out.own
            have hb9 : Below w4.heap.size w4 w9 := HS6.out.bel.trans (((Below.refl _ w6).alloc HS6.out.bel.size _).grown hgrow (by have := HS6.out.bel.size; simp; omega) (fun k e => (hown6.lt k e).1))
            have hlt6 : w5.heap.size < w6.heap.size := (Array.getElem?_eq_some_iff.1 HO6.out).1
            have ho9 : w9.heap[w5.heap.size]? = some (.cells #[.int .u32 (b : Int), .int .u32 1, .int .u8 1, .int .u32 0] 40 (0, 0)) := (hgrow.block w5.heap.size (by simp; omega) (fun e => by have := (HS.out.own.lt _ e.symm).2; omega)).trans ((Below.heap_alloc _ _ _ (by omega)).trans HO6.out)
            have r1 := obj_cell ho9 1
            simp only [List.getElem?_toArray, List.getElem?_cons_zero, List.getElem?_cons_succ] at r1
            have HPx : Hid (PcS L J w4 (P ++ [(b, 1, 1, 0)]) (b + 1) v' w9) := hidS (HS6.out.push (p1 := b) (p2 := 1) (p3 := 1) (p4 := 0) HG1.out rfl hown' hb9)
            clear hown' hgrow hb9 ho9 hown6
            go_wp2
            go_roundw
            case rel => exact ⟨b + 1, P ++ [(b, 1, 1, 0)], by go_num, by omega, by omega, HPx.out⟩
            case measure => simp [intOf]; omega
        · have hnb : ¬ (b : Int) < (e : Int) := by omega
          obtain rfl : b = e := by omega
          have HS := hidS hS
          clear hS
          go_wp2
          go_roundw
          case rel => exact ⟨q + 1, b, P, by go_num, by omega, rfl, HNx.out, HS.out⟩
          case measure => simp [intOf]; omega
    · have hnq : ¬ (q : Int) < ((gdE L J).length : Int) := by omega
      have he : q = (gdE L J).length := by omega
      have ha := hR.2 (by have := HE.out.1; omega)
      rw [he, HE.out.2] at ha
      have HF : Hid (PcP w L J (.returned (.tuple #[u5, .int .i64 0])) wr) := hidS ⟨u5, P, rfl, hS.tl, by rw [hS.sm, ha], own_monoV hS.own (Nat.le_trans HB3.out.size HEv.out.2.size), HB3.out.trans ((HEv.out.2.trans (hS.bel.mono HEv.out.2.size)).mono HB3.out.size)⟩
      clear hS he ha
      go_wp2
      exact bodyPost_ret (v := .tuple #[u5, .int .i64 0]) (by simp [results, Tryz.f7, go_sem]) rfl HF.out
end Go.Proofs.YtgbpfejodpplbaaGreatDoor
namespace Go.Proofs.YtgbpfejodpplbaaGreatDoor
open Go.RowKit Go.WideShapes Go.Shelf
set_option maxRecDepth 100000
set_option maxHeartbeats 1000000 in
theorem glisted_no (ao : Option Addr) (cap k : Nat) (J : List Nat) (w : World) (hno : k ∉ J) (hk : k < 4294967296) (hJn : J.length ≤ 35184372088704) (hr : JRd w ao J w.heap.size) :
    Calls Tryz.prog 8 #[.slice ao J.length cap, .int .i64 (k : Int)] w fun e w' => e = .returned (.bool false) ∧ w' = w := by
  have hwr : IntKind.u32.wrap (k : Int) = (k : Int) := by rw [IntKind.wrap_u32]; omega
  go_enter Tryz.func8, Tryz.ntmps8
  go_wp2
  go_loopw [5] (fun u wr => ∃ i : Nat, u = .int .i64 i ∧ i ≤ J.length ∧ wr = w) (fun u _ => J.length - (intOf u).toNat)
  case atStart => exact ⟨0, rfl, Nat.zero_le _, rfl⟩
  case round =>
    obtain ⟨i, rfl, hi, hw⟩ := hrel
    subst hw
    by_cases hlt : i < J.length
    · have hltI : (i : Int) < (J.length : Int) := by omega
      obtain ⟨b, off, rfl, hb, hc⟩ := hr (by omega)
      have x0 := hc i hlt
      have hne : J.getD i 0 ≠ k := fun e => hno (by rw [← e, List.getD_eq_getElem?_getD, List.getElem?_eq_getElem hlt]; exact List.getElem_mem hlt)
      generalize J.getD i 0 = y at x0 hne
      have hB : ((y : Int) == (k : Int)) = false := beq_eq_false_iff_ne.2 (by omega)
      have hB2 : ¬ (y : Int) = (k : Int) := by omega
      clear hc hne hno
      go_wp2
      go_roundw
      case rel => exact ⟨i + 1, by go_num, by omega, by trivial⟩
      case measure => simp [intOf]; omega
    · have hnI : ¬ (i : Int) < (J.length : Int) := by omega
      clear hno
      go_wp2
      go_ret
      exact ⟨rfl, rfl⟩
/-- an instruction with a target of its own -/
def aimB (op : Nat) : Bool := decide (op = 6) || cmB op
set_option maxHeartbeats 2000000 in
theorem gaimed_no (ao : Option Addr) (cap k : Nat) (L : List (Nat × Nat)) (w : World) (hno : ∀ i, i < L.length → aimB (L.getD i (0, 0)).1 = true → (L.getD i (0, 0)).2 ≠ k) (hk : k < 4294967296) (hLn : L.length ≤ 17592186044352) (hr : CRd w ao L w.heap.size) :
    Calls Tryz.prog 9 #[.slice ao L.length cap, .int .i64 (k : Int)] w fun e w' => e = .returned (.bool false) ∧ w' = w := by
  have hwr : IntKind.u32.wrap (k : Int) = (k : Int) := by rw [IntKind.wrap_u32]; omega
  have HNo := hidS hno
  clear hno
  go_enter Tryz.func9, Tryz.ntmps9
  go_wp2
  go_loopw [5] (fun u wr => ∃ i : Nat, u = .int .i64 i ∧ i ≤ L.length ∧ wr = w) (fun u _ => L.length - (intOf u).toNat)
  case atStart => exact ⟨0, rfl, Nat.zero_le _, rfl⟩
  case round =>
    obtain ⟨i, rfl, hi, hw⟩ := hrel
    subst hw
    by_cases hlt : i < L.length
    · have hltI : (i : Int) < (L.length : Int) := by omega
      obtain ⟨b, off, rfl, hb, hc⟩ := hr (by omega)
      obtain ⟨x0, x1⟩ := hc i hlt
      have HN := HNo.out i hlt
      generalize (L.getD i (0, 0)).1 = op at x0 HN
      generalize (L.getD i (0, 0)).2 = arg at x1 HN
      have hcase : (op = 6 ∧ arg ≠ k) ∨ (op ≠ 6 ∧ 13 ≤ op ∧ op ≤ 28 ∧ arg ≠ k) ∨ (op ≠ 6 ∧ 13 ≤ op ∧ ¬ op ≤ 28) ∨ (op ≠ 6 ∧ ¬ 13 ≤ op) := by
        by_cases h1 : op = 6
        · exact .inl ⟨h1, HN (by simp [aimB, h1])⟩
        · by_cases h2 : 13 ≤ op
          · by_cases h3 : op ≤ 28
            · exact .inr (.inl ⟨h1, h2, h3, HN (by simp [aimB, cmB, h2, h3])⟩)
            · exact .inr (.inr (.inl ⟨h1, h2, h3⟩))
          · exact .inr (.inr (.inr ⟨h1, h2⟩))
      clear hc HN
      rcases hcase with ⟨h1, h4⟩ | ⟨h1, h2, h3, h4⟩ | ⟨h1, h2, h3⟩ | ⟨h1, h2⟩
      · have q1 : ((op : Int) == 6) = true := by rw [h1]; rfl
        have q4 : ((arg : Int) == (k : Int)) = false := beq_eq_false_iff_ne.2 (by omega)
        clear h1 h4
        go_wp2
        go_roundw
        case rel => exact ⟨i + 1, by go_num, by omega, by trivial⟩
        case measure => simp [intOf]; omega
      · have q1 : ((op : Int) == 6) = false := beq_eq_false_iff_ne.2 (by omega)
        have q2 : decide ((13 : Int) ≤ (op : Int)) = true := decide_eq_true (by omega)
        have q3 : decide ((op : Int) ≤ 28) = true := decide_eq_true (by omega)
        have q4 : ((arg : Int) == (k : Int)) = false := beq_eq_false_iff_ne.2 (by omega)
        clear h1 h4
        go_wp2
        go_roundw
        case rel => exact ⟨i + 1, by go_num, by omega, by trivial⟩
        case measure => simp [intOf]; omega
      · have q1 : ((op : Int) == 6) = false := beq_eq_false_iff_ne.2 (by omega)
        have q2 : decide ((13 : Int) ≤ (op : Int)) = true := decide_eq_true (by omega)
        have q3 : decide ((op : Int) ≤ 28) = false := decide_eq_false (by omega)
        clear h1
        go_wp2
        go_roundw
        case rel => exact ⟨i + 1, by go_num, by omega, by trivial⟩
        case measure => simp [intOf]; omega
      · have q1 : ((op : Int) == 6) = false := beq_eq_false_iff_ne.2 (by omega)
        have q2 : decide ((13 : Int) ≤ (op : Int)) = false := decide_eq_false (by omega)
        clear h1
        go_wp2
        go_roundw
        case rel => exact ⟨i + 1, by go_num, by omega, by trivial⟩
        case measure => simp [intOf]; omega
    · have hnI : ¬ (i : Int) < (L.length : Int) := by omega
      go_wp2
      go_ret
      exact ⟨rfl, rfl⟩
end Go.Proofs.YtgbpfejodpplbaaGreatDoor
