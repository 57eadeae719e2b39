import Derived.Test.YtonmoidalkcmoaaCZCp
namespace Go.Proofs.Ytonmoidalkcmoaa
open Go.RowKit Go.WideShapes
set_option maxRecDepth 100000
/-- parts one behind the other -/
def rwF (L : List (Nat × Nat)) : List Pt → Fz → Fz
  | [], f => f
  | pt :: r, f => if (pt (L.drop f.len) f).2 = true then rwF L r (pt (L.drop f.len) f).1 else fz0
def shRow (P : List Pt) : Shp := fun L => rwF L P fz0
/-- a part keeps the length within what there is -/
def PtOk (pt : Pt) : Prop := ∀ L f, Wfc L → (pt L f).2 = true → (pt L f).1.len ≤ f.len + L.length
theorem single_ok {lk : Lk} (h : ∀ p f, (lk p f).1.len = f.len) : PtOk (ptSingle lk) := by
  intro L f _ he
  cases L with
  | nil => simp [ptSingle] at he
  | cons p R =>
    unfold ptSingle at *
    simp only at *
    split
    · rw [h]; simp
    · simp
theorem const_ok {lay : Fz → Nat → Fz} (h : ∀ f v, (lay f v).len = f.len) : PtOk (ptConst lay) := by
  intro L f hwf _
  have := cnV_le hwf
  show (lay _ _).len ≤ _
  rw [h]
  show f.len + (cnV L).1 ≤ _
  omega
/-- function values that are parts, in memory -/
def PsS (B : Nat) (w : World) (po : Nat) (P : List Pt) : Prop := ∀ j, j < P.length → ∃ v pt, P[j]? = some pt ∧ PtOk pt ∧ w.cell? ⟨po, j, none⟩ = some v ∧ PtS B w v pt
theorem PsS.next {B : Nat} {w w' : World} {po : Nat} {P : List Pt} (h : PsS B w po P) (hp : po < w.heap.size) (hb : Below w.heap.size w w') : PsS B w' po P := fun j hj => by
  obtain ⟨v, pt, h1, h2, h3, h4⟩ := h j hj
  exact ⟨v, pt, h1, h2, (hb.cell (p := ⟨po, j, none⟩) hp).trans h3, h4.next hb⟩
theorem PsS.nextF {B : Nat} {w w' : World} {po : Nat} {P : List Pt} (h : PsS B w po P) (hB : B ≤ po) (hb : Fr B w w') : PsS B w' po P := fun j hj => by
  obtain ⟨v, pt, h1, h2, h3, h4⟩ := h j hj
  exact ⟨v, pt, h1, h2, hb.cellv (p := ⟨po, j, none⟩) hB h3, h4.nextF hb⟩
theorem rwF_drop {L : List (Nat × Nat)} {P : List Pt} {i : Nat} {pt : Pt} (h : P[i]? = some pt) (f : Fz) : rwF L (P.drop i) f = if (pt (L.drop f.len) f).2 = true then rwF L (P.drop (i + 1)) (pt (L.drop f.len) f).1 else fz0 := by
  obtain ⟨hl, rfl⟩ := List.getElem?_eq_some_iff.1 h
  rw [List.drop_eq_getElem_cons hl]
  rfl
theorem crd_drop {w : World} {b off : Nat} {L : List (Nat × Nat)} {B : Nat} (h : CRd w (some ⟨b, off, none⟩) L B) (k : Nat) : CRd w (some ⟨b, off + k * 2, none⟩) (L.drop k) B := by
  intro hl
  rw [List.length_drop] at hl
  obtain ⟨b', off', e, hlt, hc⟩ := h (by omega)
  cases e
  refine ⟨b, off + k * 2, rfl, hlt, fun j hj => ?_⟩
  rw [List.length_drop] at hj
  have := hc (k + j) (by omega)
  have e1 : (L.drop k).getD j (0, 0) = L.getD (k + j) (0, 0) := by rw [List.getD_eq_getElem?_getD, List.getElem?_drop, List.getD_eq_getElem?_getD]
  rw [e1, show off + k * 2 + j * 2 = off + (k + j) * 2 by omega]
  exact this
theorem crd_cut {w : World} {b off cap : Nat} {L : List (Nat × Nat)} {B : Nat} (h : CRd w (some ⟨b, off, none⟩) L B) (hc : L.length ≤ cap) (k : Nat) : CRd w (if cap = k then some ⟨b, off, none⟩ else some ⟨b, off + k * 2, none⟩) (L.drop k) B := by
  by_cases hk : cap = k
  · intro hl
    rw [List.length_drop] at hl
    omega
  · rw [if_neg hk]
    exact crd_drop h k
theorem wfc_drop {L : List (Nat × Nat)} (h : Wfc L) (k : Nat) : Wfc (L.drop k) := fun p hp => h p (List.drop_subset _ _ hp)
theorem Bs.kept {w V V' : World} {f r : Fz} {q : Nat} (h : Bs w V f r) (hk : Kp (fun i => i = q) V V') (hq : w.heap.size + 1 < q) : Bs w V' f r := by
  have hl := h.lt
  exact ⟨h.bw.trans (hk.below (by omega) (fun i e => by omega)), (hk.block _ (by omega) (by omega)).trans h.c0, (hk.block _ (by omega) (by omega)).trans h.c1⟩
set_option maxHeartbeats 1600000 in
theorem row1_any {B : Nat} (gb po pc : Nat) (P : List Pt) (ao : Option Addr) (cap : Nat) (L : List (Nat × Nat)) (w : World) (hg : gb < w.heap.size) (hv : w.cell? ⟨gb, 0, none⟩ = some (.slice (some ⟨po, 0, none⟩) P.length pc)) (hpo : po < w.heap.size) (hP : PsS B w po P) (hPl : P.length ≤ 6)
    (h0 : 0 < L.length) (hcap : L.length ≤ cap) (hlen : L.length < 4294967296) (hwf : Wfc L) (hr : CRd w ao L w.heap.size) :
    Calls Try.prog 61 #[.slice ao L.length cap, .pointer (some ⟨gb, 0, none⟩)] w fun e w' => e = .returned (.agg (fzA (shRow P L))) ∧ Below w.heap.size w w' := by
  obtain ⟨b, off, rfl, hbl, hc⟩ := hr h0
  clear hc
  have HN := dhid (Bs.new w fz0 fz0)
  have HR := dhid hr
  clear hr
  have hv2 : ∀ o o', ((w.alloc o).alloc o').cell? ⟨gb, 0, none⟩ = some (.slice (some ⟨po, 0, none⟩) P.length pc) := fun o o' => ((zbel2 w o o').cell (p := ⟨gb, 0, none⟩) hg).trans hv
  have hg1 : gb < w.heap.size + 1 := by omega
  simp only [fzA, fz0] at HN
  go_enter Try.func61, Try.ntmps61
  go_wp2
  go_loopw [11] (fun v wr => ∃ (i : Nat) (f : Fz), v = .int .i64 i ∧ i ≤ P.length ∧ shRow P L = rwF L (P.drop i) f ∧ f.len ≤ L.length ∧ Bs w wr fz0 f)
    (fun v _ => P.length - (intOf v).toNat)
  case atStart => exact ⟨0, fz0, rfl, Nat.zero_le _, by rw [List.drop_zero]; rfl, Nat.zero_le _, HN.out⟩
  case round =>
    obtain ⟨i, f, rfl, hi, hsh, hfl, hB⟩ := hrel
    clear HN
    have hBl := hB.lt
    by_cases hlt : i < P.length
    · have hltI : (i : Int) < (P.length : Int) := by omega
      obtain ⟨v, pt, hpt, hok, hcell, hS⟩ := hP i hlt
      have HC := (hB.bw.cell (p := ⟨po, i, none⟩) hpo).trans hcell
      obtain ⟨g, lb, rfl, eg, hcall⟩ := hS
      have hdl : (L.drop f.len).length = L.length - f.len := by simp
      have HL := dhid (fun W (hW : Below w.heap.size w W) => hcall W (Fr.of hW) (if cap = f.len then some ⟨b, off, none⟩ else some ⟨b, off + f.len * 2, none⟩) (cap - f.len) (L.drop f.len) f (by omega) (by omega) (wfc_drop hwf _) (crd_cut ((HR.out.below hW).mono hW.size) hcap _))
      have hok' := hok (L.drop f.len) f (wfc_drop hwf _)
      rw [hdl] at HL hok'
      have hst := rwF_drop (L := L) hpt f
      rw [← hsh] at hst
      generalize pt (L.drop f.len) f = q at *
      obtain ⟨⟨r0, r1, r2, r3, r4, r5⟩, q2⟩ := q
      obtain ⟨f0, f1, f2, f3, f4, f5⟩ := f
      simp only at hfl hok' hst HL hdl
      have j1 : (f1 : Int) ≤ (L.length : Int) := by omega
      have j2 : (f1 : Int) ≤ (cap : Int) := by omega
      have j3 : (L.length : Int) ≤ (cap : Int) := by omega
      have HB := dhid hB
      have HS1 := dhid (fun V (hh : Below wr.heap.size wr V) => fz_cells (hB.next hh).c1)
      have D1 : Hid (Below wr.heap.size wr wr.drew) := dhid (Below.refl _ _).drew
      have E1 := dhid (fun o => ((Below.refl wr.heap.size wr).alloc (Nat.le_refl wr.heap.size) o).drew)
      have DW : Hid (Below w.heap.size w wr.drew) := dhid hB.bw.drew
      have EW := dhid (fun o => (hB.bw.alloc (show w.heap.size ≤ wr.heap.size from hB.bw.size) o).drew)
      simp only [fzA] at HL
      clear hcall hok hpt hcell hsh hB hP hv hv2
      by_cases hcf : cap = f1
      · obtain rfl : f1 = cap := hcf.symm
        rw [if_pos rfl, Nat.sub_self, show L.length - f1 = 0 by omega] at HL
        cases q2 with
        | false =>
          have HG : Hid (shRow P L = fz0) := dhid (by rw [hst, if_neg (by simp)])
          clear hst hok'
          go_wp2_with fail
          go_region_held3 (fun V => V.cell? ⟨w.heap.size + 1, 0, none⟩ = some (.int .u32 (f0 : Int)) ∧ V.cell? ⟨w.heap.size + 1, 1, none⟩ = some (.int .u32 (f1 : Int)) ∧ V.cell? ⟨w.heap.size + 1, 2, none⟩ = some (.int .u8 (f2 : Int)) ∧ V.cell? ⟨w.heap.size + 1, 3, none⟩ = some (.int .u8 (f3 : Int)) ∧ V.cell? ⟨w.heap.size + 1, 4, none⟩ = some (.int .u32 (f4 : Int)) ∧ V.cell? ⟨w.heap.size + 1, 5, none⟩ = some (.int .u32 (f5 : Int)))
            (first | with_reducible exact HS1.out _ D1.out | with_reducible exact HS1.out _ (E1.out _) | with_reducible exact HS2.out | with_reducible exact HS3.out | with_reducible exact HS4.out _ | with_reducible exact HS1.out _ (Below.refl _ _))
            (first
              | (with_reducible refine (HL.out _ DW.out).mono ?_; rintro e w2 ⟨rfl, hb2⟩
                 have B2 := dhid (D1.out.trans (hb2.mono (Nat.le_refl _)))
                 have M2 := dhid (HB.out.next B2.out)
                 have HS2 := dhid (HS1.out w2 B2.out)
                 have HS4 := dhid (fun o => HS1.out (w2.alloc o) (B2.out.alloc B2.out.size o))
                 have MB := dhid (fun o => HB.out.next (B2.out.alloc B2.out.size o))
                 have hz2 := B2.out.size)
              | (with_reducible refine (HL.out _ (EW.out _)).mono ?_; rintro e w2 ⟨rfl, hb2⟩
                 have B2 := dhid ((E1.out _).trans (hb2.mono (by show wr.heap.size ≤ (wr.alloc _).heap.size; simp)))
                 have M2 := dhid (HB.out.next B2.out)
                 have HS2 := dhid (HS1.out w2 B2.out)
                 have o2 := dhid ((hb2.block wr.heap.size (by show wr.heap.size < (wr.alloc _).heap.size; simp)).trans (heap_alloc_new wr _))
                 obtain ⟨z0, z1, z2, z3, z4, z5⟩ := fz_cells (f := fz0) o2.out
                 obtain ⟨v0, v1, v2, v3, v4, v5⟩ := fz_frozen (f := fz0) o2.out
                 have P2 := dhid (put6_any (f := fz0) (f' := ⟨r0, r1, r2, r3, r4, r5⟩) o2.out)
                 have MA := dhid (M2.out.kept P2.out.2 (by omega))
                 have HS3 := dhid (fz_cells MA.out.c1)
                 have HT := fz_cells P2.out.1
                 simp only [put6] at HS3 HT MA
                 obtain ⟨t0, t1, t2, t3, t4, t5⟩ := HT
                 have hz2 := B2.out.size))
          all_goals first
            | (generalize hFW : (((((w2.setCell ⟨wr.heap.size, 0, none⟩ (.int .u32 (r0 : Int))).setCell ⟨wr.heap.size, 1, none⟩ (.int .u32 (r1 : Int))).setCell ⟨wr.heap.size, 2, none⟩ (.int .u8 (r2 : Int))).setCell ⟨wr.heap.size, 3, none⟩ (.int .u8 (r3 : Int))).setCell ⟨wr.heap.size, 4, none⟩ (.int .u32 (r4 : Int))).setCell ⟨wr.heap.size, 5, none⟩ (.int .u32 (r5 : Int)) = FW at MA t0 t1 t2 t3 t4 t5 ⊢
               clear hFW z0 z1 z2 z3 z4 z5 v0 v1 v2 v3 v4 v5 HS1 HS2 HS3 P2 o2 HL E1 EW DW D1 B2 M2 hb2
               go_wp2_with (refine wpList_storeF rfl _ _ rfl w.heap.size fz0 fz0 rfl rfl MA.out.c0 ?_)
               have N3 := MA.out.row0 fz0
               exact bodyPost_ret (resFz (p := 3) (by kernel_rfl) _ w.heap.size _ rfl N3.c0 _ rfl) rfl ⟨by rw [HG.out], N3.bw⟩)
            | (go_wp2_with (refine wpList_storeF rfl _ _ rfl w.heap.size fz0 fz0 rfl rfl (MB.out _).c0 ?_)
               have N3 := fun o => (MB.out o).row0 fz0
               exact bodyPost_ret (resFz (p := 3) (by kernel_rfl) _ w.heap.size _ rfl (N3 _).c0 _ rfl) rfl ⟨by rw [HG.out], (N3 _).bw⟩)
        | true =>
          have HG : Hid (shRow P L = rwF L (P.drop (i + 1)) ⟨r0, r1, r2, r3, r4, r5⟩) := dhid (by rw [hst, if_pos rfl])
          have hr1 : r1 ≤ L.length := by have := hok' rfl; omega
          clear hst hok'
          go_wp2_with fail
          go_region_held3 (fun V => V.cell? ⟨w.heap.size + 1, 0, none⟩ = some (.int .u32 (f0 : Int)) ∧ V.cell? ⟨w.heap.size + 1, 1, none⟩ = some (.int .u32 (f1 : Int)) ∧ V.cell? ⟨w.heap.size + 1, 2, none⟩ = some (.int .u8 (f2 : Int)) ∧ V.cell? ⟨w.heap.size + 1, 3, none⟩ = some (.int .u8 (f3 : Int)) ∧ V.cell? ⟨w.heap.size + 1, 4, none⟩ = some (.int .u32 (f4 : Int)) ∧ V.cell? ⟨w.heap.size + 1, 5, none⟩ = some (.int .u32 (f5 : Int)))
            (first | with_reducible exact HS1.out _ D1.out | with_reducible exact HS1.out _ (E1.out _) | with_reducible exact HS2.out | with_reducible exact HS3.out | with_reducible exact HS4.out _ | with_reducible exact HS1.out _ (Below.refl _ _))
            (first
              | (with_reducible refine (HL.out _ DW.out).mono ?_; rintro e w2 ⟨rfl, hb2⟩
                 have B2 := dhid (D1.out.trans (hb2.mono (Nat.le_refl _)))
                 have M2 := dhid (HB.out.next B2.out)
                 have HS2 := dhid (HS1.out w2 B2.out)
                 have HS4 := dhid (fun o => HS1.out (w2.alloc o) (B2.out.alloc B2.out.size o))
                 have MB := dhid (fun o => HB.out.next (B2.out.alloc B2.out.size o))
                 have hz2 := B2.out.size)
              | (with_reducible refine (HL.out _ (EW.out _)).mono ?_; rintro e w2 ⟨rfl, hb2⟩
                 have B2 := dhid ((E1.out _).trans (hb2.mono (by show wr.heap.size ≤ (wr.alloc _).heap.size; simp)))
                 have M2 := dhid (HB.out.next B2.out)
                 have HS2 := dhid (HS1.out w2 B2.out)
                 have o2 := dhid ((hb2.block wr.heap.size (by show wr.heap.size < (wr.alloc _).heap.size; simp)).trans (heap_alloc_new wr _))
                 obtain ⟨z0, z1, z2, z3, z4, z5⟩ := fz_cells (f := fz0) o2.out
                 obtain ⟨v0, v1, v2, v3, v4, v5⟩ := fz_frozen (f := fz0) o2.out
                 have P2 := dhid (put6_any (f := fz0) (f' := ⟨r0, r1, r2, r3, r4, r5⟩) o2.out)
                 have MA := dhid (M2.out.kept P2.out.2 (by omega))
                 have HS3 := dhid (fz_cells MA.out.c1)
                 have HT := fz_cells P2.out.1
                 simp only [put6] at HS3 HT MA
                 obtain ⟨t0, t1, t2, t3, t4, t5⟩ := HT
                 have hz2 := B2.out.size))
          all_goals first
            | (generalize hFW : (((((w2.setCell ⟨wr.heap.size, 0, none⟩ (.int .u32 (r0 : Int))).setCell ⟨wr.heap.size, 1, none⟩ (.int .u32 (r1 : Int))).setCell ⟨wr.heap.size, 2, none⟩ (.int .u8 (r2 : Int))).setCell ⟨wr.heap.size, 3, none⟩ (.int .u8 (r3 : Int))).setCell ⟨wr.heap.size, 4, none⟩ (.int .u32 (r4 : Int))).setCell ⟨wr.heap.size, 5, none⟩ (.int .u32 (r5 : Int)) = FW at MA t0 t1 t2 t3 t4 t5 ⊢
               clear hFW z0 z1 z2 z3 z4 z5 v0 v1 v2 v3 v4 v5 HS1 HS2 HS3 P2 o2 HL E1 EW DW D1 B2 M2 hb2
               go_wp2_with (refine wpList_storeF rfl _ _ rfl (w.heap.size + 1) ⟨f0, f1, f2, f3, f4, f5⟩ ⟨r0, r1, r2, r3, r4, r5⟩ rfl rfl MA.out.c1 ?_)
               have N3 := MA.out.row ⟨r0, r1, r2, r3, r4, r5⟩
               go_roundw
               case rel => exact ⟨i + 1, ⟨r0, r1, r2, r3, r4, r5⟩, by go_num, by omega, HG.out, hr1, N3⟩
               case measure => simp [intOf]; omega)
            | (go_wp2_with (refine wpList_storeF rfl _ _ rfl (w.heap.size + 1) ⟨f0, f1, f2, f3, f4, f5⟩ ⟨r0, r1, r2, r3, r4, r5⟩ rfl rfl (MB.out _).c1 ?_)
               have N3 := fun o => (MB.out o).row ⟨r0, r1, r2, r3, r4, r5⟩
               go_roundw
               case rel => exact ⟨i + 1, ⟨r0, r1, r2, r3, r4, r5⟩, by go_num, by omega, HG.out, hr1, N3 _⟩
               case measure => simp [intOf]; omega)
      · rw [if_neg hcf] at HL
        cases q2 with
        | false =>
          have HG : Hid (shRow P L = fz0) := dhid (by rw [hst, if_neg (by simp)])
          clear hst hok'
          go_wp2_with fail
          go_region_held3 (fun V => V.cell? ⟨w.heap.size + 1, 0, none⟩ = some (.int .u32 (f0 : Int)) ∧ V.cell? ⟨w.heap.size + 1, 1, none⟩ = some (.int .u32 (f1 : Int)) ∧ V.cell? ⟨w.heap.size + 1, 2, none⟩ = some (.int .u8 (f2 : Int)) ∧ V.cell? ⟨w.heap.size + 1, 3, none⟩ = some (.int .u8 (f3 : Int)) ∧ V.cell? ⟨w.heap.size + 1, 4, none⟩ = some (.int .u32 (f4 : Int)) ∧ V.cell? ⟨w.heap.size + 1, 5, none⟩ = some (.int .u32 (f5 : Int)))
            (first | with_reducible exact HS1.out _ D1.out | with_reducible exact HS1.out _ (E1.out _) | with_reducible exact HS2.out | with_reducible exact HS3.out | with_reducible exact HS4.out _ | with_reducible exact HS1.out _ (Below.refl _ _))
            (first
              | (with_reducible refine (HL.out _ DW.out).mono ?_; rintro e w2 ⟨rfl, hb2⟩
                 have B2 := dhid (D1.out.trans (hb2.mono (Nat.le_refl _)))
                 have M2 := dhid (HB.out.next B2.out)
                 have HS2 := dhid (HS1.out w2 B2.out)
                 have HS4 := dhid (fun o => HS1.out (w2.alloc o) (B2.out.alloc B2.out.size o))
                 have MB := dhid (fun o => HB.out.next (B2.out.alloc B2.out.size o))
                 have hz2 := B2.out.size)
              | (with_reducible refine (HL.out _ (EW.out _)).mono ?_; rintro e w2 ⟨rfl, hb2⟩
                 have B2 := dhid ((E1.out _).trans (hb2.mono (by show wr.heap.size ≤ (wr.alloc _).heap.size; simp)))
                 have M2 := dhid (HB.out.next B2.out)
                 have HS2 := dhid (HS1.out w2 B2.out)
                 have o2 := dhid ((hb2.block wr.heap.size (by show wr.heap.size < (wr.alloc _).heap.size; simp)).trans (heap_alloc_new wr _))
                 obtain ⟨z0, z1, z2, z3, z4, z5⟩ := fz_cells (f := fz0) o2.out
                 obtain ⟨v0, v1, v2, v3, v4, v5⟩ := fz_frozen (f := fz0) o2.out
                 have P2 := dhid (put6_any (f := fz0) (f' := ⟨r0, r1, r2, r3, r4, r5⟩) o2.out)
                 have MA := dhid (M2.out.kept P2.out.2 (by omega))
                 have HS3 := dhid (fz_cells MA.out.c1)
                 have HT := fz_cells P2.out.1
                 simp only [put6] at HS3 HT MA
                 obtain ⟨t0, t1, t2, t3, t4, t5⟩ := HT
                 have hz2 := B2.out.size))
          all_goals first
            | (generalize hFW : (((((w2.setCell ⟨wr.heap.size, 0, none⟩ (.int .u32 (r0 : Int))).setCell ⟨wr.heap.size, 1, none⟩ (.int .u32 (r1 : Int))).setCell ⟨wr.heap.size, 2, none⟩ (.int .u8 (r2 : Int))).setCell ⟨wr.heap.size, 3, none⟩ (.int .u8 (r3 : Int))).setCell ⟨wr.heap.size, 4, none⟩ (.int .u32 (r4 : Int))).setCell ⟨wr.heap.size, 5, none⟩ (.int .u32 (r5 : Int)) = FW at MA t0 t1 t2 t3 t4 t5 ⊢
               clear hFW z0 z1 z2 z3 z4 z5 v0 v1 v2 v3 v4 v5 HS1 HS2 HS3 P2 o2 HL E1 EW DW D1 B2 M2 hb2
               go_wp2_with (refine wpList_storeF rfl _ _ rfl w.heap.size fz0 fz0 rfl rfl MA.out.c0 ?_)
               have N3 := MA.out.row0 fz0
               exact bodyPost_ret (resFz (p := 3) (by kernel_rfl) _ w.heap.size _ rfl N3.c0 _ rfl) rfl ⟨by rw [HG.out], N3.bw⟩)
            | (go_wp2_with (refine wpList_storeF rfl _ _ rfl w.heap.size fz0 fz0 rfl rfl (MB.out _).c0 ?_)
               have N3 := fun o => (MB.out o).row0 fz0
               exact bodyPost_ret (resFz (p := 3) (by kernel_rfl) _ w.heap.size _ rfl (N3 _).c0 _ rfl) rfl ⟨by rw [HG.out], (N3 _).bw⟩)
        | true =>
          have HG : Hid (shRow P L = rwF L (P.drop (i + 1)) ⟨r0, r1, r2, r3, r4, r5⟩) := dhid (by rw [hst, if_pos rfl])
          have hr1 : r1 ≤ L.length := by have := hok' rfl; omega
          clear hst hok'
          go_wp2_with fail
          go_region_held3 (fun V => V.cell? ⟨w.heap.size + 1, 0, none⟩ = some (.int .u32 (f0 : Int)) ∧ V.cell? ⟨w.heap.size + 1, 1, none⟩ = some (.int .u32 (f1 : Int)) ∧ V.cell? ⟨w.heap.size + 1, 2, none⟩ = some (.int .u8 (f2 : Int)) ∧ V.cell? ⟨w.heap.size + 1, 3, none⟩ = some (.int .u8 (f3 : Int)) ∧ V.cell? ⟨w.heap.size + 1, 4, none⟩ = some (.int .u32 (f4 : Int)) ∧ V.cell? ⟨w.heap.size + 1, 5, none⟩ = some (.int .u32 (f5 : Int)))
            (first | with_reducible exact HS1.out _ D1.out | with_reducible exact HS1.out _ (E1.out _) | with_reducible exact HS2.out | with_reducible exact HS3.out | with_reducible exact HS4.out _ | with_reducible exact HS1.out _ (Below.refl _ _))
            (first
              | (with_reducible refine (HL.out _ DW.out).mono ?_; rintro e w2 ⟨rfl, hb2⟩
                 have B2 := dhid (D1.out.trans (hb2.mono (Nat.le_refl _)))
                 have M2 := dhid (HB.out.next B2.out)
                 have HS2 := dhid (HS1.out w2 B2.out)
                 have HS4 := dhid (fun o => HS1.out (w2.alloc o) (B2.out.alloc B2.out.size o))
                 have MB := dhid (fun o => HB.out.next (B2.out.alloc B2.out.size o))
                 have hz2 := B2.out.size)
              | (with_reducible refine (HL.out _ (EW.out _)).mono ?_; rintro e w2 ⟨rfl, hb2⟩
                 have B2 := dhid ((E1.out _).trans (hb2.mono (by show wr.heap.size ≤ (wr.alloc _).heap.size; simp)))
                 have M2 := dhid (HB.out.next B2.out)
                 have HS2 := dhid (HS1.out w2 B2.out)
                 have o2 := dhid ((hb2.block wr.heap.size (by show wr.heap.size < (wr.alloc _).heap.size; simp)).trans (heap_alloc_new wr _))
                 obtain ⟨z0, z1, z2, z3, z4, z5⟩ := fz_cells (f := fz0) o2.out
                 obtain ⟨v0, v1, v2, v3, v4, v5⟩ := fz_frozen (f := fz0) o2.out
                 have P2 := dhid (put6_any (f := fz0) (f' := ⟨r0, r1, r2, r3, r4, r5⟩) o2.out)
                 have MA := dhid (M2.out.kept P2.out.2 (by omega))
                 have HS3 := dhid (fz_cells MA.out.c1)
                 have HT := fz_cells P2.out.1
                 simp only [put6] at HS3 HT MA
                 obtain ⟨t0, t1, t2, t3, t4, t5⟩ := HT
                 have hz2 := B2.out.size))
          all_goals first
            | (generalize hFW : (((((w2.setCell ⟨wr.heap.size, 0, none⟩ (.int .u32 (r0 : Int))).setCell ⟨wr.heap.size, 1, none⟩ (.int .u32 (r1 : Int))).setCell ⟨wr.heap.size, 2, none⟩ (.int .u8 (r2 : Int))).setCell ⟨wr.heap.size, 3, none⟩ (.int .u8 (r3 : Int))).setCell ⟨wr.heap.size, 4, none⟩ (.int .u32 (r4 : Int))).setCell ⟨wr.heap.size, 5, none⟩ (.int .u32 (r5 : Int)) = FW at MA t0 t1 t2 t3 t4 t5 ⊢
               clear hFW z0 z1 z2 z3 z4 z5 v0 v1 v2 v3 v4 v5 HS1 HS2 HS3 P2 o2 HL E1 EW DW D1 B2 M2 hb2
               go_wp2_with (refine wpList_storeF rfl _ _ rfl (w.heap.size + 1) ⟨f0, f1, f2, f3, f4, f5⟩ ⟨r0, r1, r2, r3, r4, r5⟩ rfl rfl MA.out.c1 ?_)
               have N3 := MA.out.row ⟨r0, r1, r2, r3, r4, r5⟩
               go_roundw
               case rel => exact ⟨i + 1, ⟨r0, r1, r2, r3, r4, r5⟩, by go_num, by omega, HG.out, hr1, N3⟩
               case measure => simp [intOf]; omega)
            | (go_wp2_with (refine wpList_storeF rfl _ _ rfl (w.heap.size + 1) ⟨f0, f1, f2, f3, f4, f5⟩ ⟨r0, r1, r2, r3, r4, r5⟩ rfl rfl (MB.out _).c1 ?_)
               have N3 := fun o => (MB.out o).row ⟨r0, r1, r2, r3, r4, r5⟩
               go_roundw
               case rel => exact ⟨i + 1, ⟨r0, r1, r2, r3, r4, r5⟩, by go_num, by omega, HG.out, hr1, N3 _⟩
               case measure => simp [intOf]; omega)
    · have hltI : ¬ (i : Int) < (P.length : Int) := by omega
      have HG : Hid (shRow P L = f) := dhid (by rw [hsh, List.drop_of_length_le (by omega)]; rfl)
      have HB := dhid hB
      obtain ⟨f0, f1, f2, f3, f4, f5⟩ := f
      obtain ⟨t0, t1, t2, t3, t4, t5⟩ := fz_cells hB.c1
      simp only at t0 t1 t2 t3 t4 t5
      clear hB hsh hP
      go_wp2_with (refine wpList_storeF rfl _ _ rfl w.heap.size fz0 ⟨f0, f1, f2, f3, f4, f5⟩ rfl rfl HB.out.c0 ?_)
      have N3 := HB.out.row0 ⟨f0, f1, f2, f3, f4, f5⟩
      exact bodyPost_ret (resFz (p := 3) (by kernel_rfl) _ w.heap.size _ rfl N3.c0 _ rfl) rfl ⟨by rw [HG.out], N3.bw⟩
end Go.Proofs.Ytonmoidalkcmoaa
