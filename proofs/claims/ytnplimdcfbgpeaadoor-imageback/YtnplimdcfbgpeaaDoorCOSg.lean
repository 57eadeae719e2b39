import Derived.Test.YtnplimdcfbgpeaaDoorCOMa
import Derived.Test.YtnplimdcfbgpeaaDoorCMSeg
namespace Go.Proofs.YtnplimdcfbgpeaaDoor
open Go.RowKit Go.WideShapes Go.Sort Go.Lib
set_option maxRecDepth 100000

/-- an image -/
structure Im where
  L : List (Nat × Nat)
  J : List Nat
  D : List Int
  z : Nat
  st : Nat
  M : List (ByteArray × Nat)
/-- what stands in the segments of bytes -/
structure SegR (zs : List Int) (S : List (Nat × Nat)) (I : Im) : Prop where
  code : cutV zs (S.getD 0 (0, 0)) = encF I.L
  ok : allOk I.L = true
  wfc : Wfc I.L
  len : I.L.length ≤ 16384
  cnt : atv 4 zs 12 = I.L.length
  jmp : cutV zs (S.getD 1 (0, 0)) = jmB I.J
  jwf : ∀ j ∈ I.J, j < 4294967296
  jlen : I.J.length ≤ 16384
  dat : cutV zs (S.getD 2 (0, 0)) = I.D
  zer : atv 4 zs 48 = I.z
  stk : atv 4 zs 52 = I.st
  sok : stOk I.st = true
  room : I.D.length + I.z + I.st ≤ 65536
  nam : cutV zs (S.getD 3 (0, 0)) = nmB I.M
  nok : namesOk I.M = true
  nwf : NmW I.M
/-- an image in memory of its own -/
structure ImO (B : Nat) (w : World) (I : Im) (v0 v1 v2 v5 : Value) : Prop where
  code : w.ownsRow B 54 2 v0 I.L.length (cv I.L)
  jmp : w.ownsRow B 25 1 v1 I.J.length (bk .u32 (jI I.J))
  dat : w.ownsRow B 5 1 v2 I.D.length (bv I.D)
  nam : w.ownsRow B 59 2 v5 I.M.length (ev I.M)
theorem ImO.below {B : Nat} {w w' : World} {I : Im} {v0 v1 v2 v5 : Value} (h : ImO B w I v0 v1 v2 v5) (hb : Below w.heap.size w w') : ImO B w' I v0 v1 v2 v5 :=
  ⟨own_below h.code hb, own_below h.jmp hb, own_below h.dat hb, own_below h.nam hb⟩
theorem ImO.low {B B' : Nat} {w : World} {I : Im} {v0 v1 v2 v5 : Value} (h : ImO B w I v0 v1 v2 v5) (hb : B' ≤ B) : ImO B' w I v0 v1 v2 v5 :=
  ⟨own_lowM h.code hb, own_lowM h.jmp hb, own_lowM h.dat hb, own_lowM h.nam hb⟩
/-- what readSegments answers -/
def SgP (B : Nat) (zs : List Int) (S : List (Nat × Nat)) (e : Ending) (w' : World) : Prop := ∃ v0 v1 v2 v3 v4 v5, ∃ at_ er : Int, e = .returned (.tuple #[.agg #[v0, v1, v2, v3, v4, v5], .int .i64 at_, .int .i64 er]) ∧ v0.oneCell' = true ∧ v1.oneCell' = true ∧ v2.oneCell' = true ∧ v3.oneCell' = true ∧ v4.oneCell' = true ∧ v5.oneCell' = true ∧
  ((er = 0 ∧ at_ = 0 ∧ ∃ I, SegR zs S I ∧ v3 = .int .u32 (I.z : Nat) ∧ v4 = .int .u32 (I.st : Nat) ∧ ImO B w' I v0 v1 v2 v5) ∨ (¬ er = 0 ∧ ∀ I, ¬ SegR zs S I))
theorem own_setI {w : World} {B e sz n R i : Nat} {v u : Value} {xs : List Value} (h : w.ownsRow B e sz v n xs) (hR : R < B) : (w.setCell ⟨R, i, none⟩ u).ownsRow B e sz v n xs := ownsRow_setCell_below h (a := ⟨R, i, none⟩) hR u
theorem own_rowR {w : World} {B e sz n R : Nat} {v : Value} {xs : List Value} {cs : Array Value} (h : w.ownsRow B e sz v n xs) (hR : R < B) : (w.setRow R cs).ownsRow B e sz v n xs := by
  refine ⟨h.1, ?_⟩
  rcases h.2 with h2 | ⟨g, cap, cur, hv, hg, hh, r⟩
  · exact .inl h2
  · refine .inr ⟨g, cap, cur, hv, hg, ?_, r⟩
    show (w.heap.modify R _)[g]? = _
    rw [Array.getElem?_modify, if_neg (by omega)]
    exact hh
/-- three rows of an image -/
structure R3 (B : Nat) (w : World) (L : List (Nat × Nat)) (J : List Nat) (D : List Int) (v0 v1 v2 : Value) : Prop where
  code : w.ownsRow B 54 2 v0 L.length (cv L)
  jmp : w.ownsRow B 25 1 v1 J.length (bk .u32 (jI J))
  dat : w.ownsRow B 5 1 v2 D.length (bv D)
theorem R3.set {B R i : Nat} {w : World} {L : List (Nat × Nat)} {J : List Nat} {D : List Int} {v0 v1 v2 : Value} (h : R3 B w L J D v0 v1 v2) (hR : R < B) (u : Value) : R3 B (w.setCell ⟨R, i, none⟩ u) L J D v0 v1 v2 := ⟨own_setI h.code hR, own_setI h.jmp hR, own_setI h.dat hR⟩
theorem R3.below {B : Nat} {w w' : World} {L : List (Nat × Nat)} {J : List Nat} {D : List Int} {v0 v1 v2 : Value} (h : R3 B w L J D v0 v1 v2) (hb : Below w.heap.size w w') : R3 B w' L J D v0 v1 v2 := ⟨own_below h.code hb, own_below h.jmp hb, own_below h.dat hb⟩
theorem R3.low {B B' : Nat} {w : World} {L : List (Nat × Nat)} {J : List Nat} {D : List Int} {v0 v1 v2 : Value} (h : R3 B w L J D v0 v1 v2) (hb : B' ≤ B) : R3 B' w L J D v0 v1 v2 := ⟨own_lowM h.code hb, own_lowM h.jmp hb, own_lowM h.dat hb⟩
set_option maxHeartbeats 4000000 in
theorem readSeg_told (b off cap g c : Nat) (L : List (Nat × Nat)) (zs : List Int) (w : World) (hn : zs.length ≤ 1048576) (hcp : zs.length ≤ cap) (hwf : ∀ z ∈ zs, 0 ≤ z ∧ z ≤ 255) (hr : Reads w (some ⟨b, off, none⟩) zs w.heap.size) (h4 : L.length = 4) (hw : Wfs L) (hown : w.ownsRow 0 47 2 (.slice (some ⟨g, 0, none⟩) 4 c) 4 (sv L)) (hg : Sg w) (hin : ∀ k, k < 4 → (L.getD k (0, 0)).1 + (L.getD k (0, 0)).2 ≤ zs.length) :
    Calls Tryd.prog 28 #[.slice (some ⟨b, off, none⟩) zs.length cap, .slice (some ⟨g, 0, none⟩) 4 c] w fun e w' => SgP w.heap.size zs L e w' ∧ Below w.heap.size w w' := by
  have hgl := (hown.lt g rfl).2
  have hcs : ∀ W, Below w.heap.size w W → ∀ k, k < 4 → W.cell? ⟨g, k * 2, none⟩ = some (.int .u32 (L.getD k (0, 0)).1) ∧ W.cell? ⟨g, k * 2 + 1, none⟩ = some (.int .u32 (L.getD k (0, 0)).2) := fun W hW k hk => by
    obtain ⟨e0, e1⟩ := sv_get L k (by omega)
    have x0 := hown.cells (g := g) rfl _ _ e0
    have x1 := hown.cells (g := g) rfl _ _ e1
    rw [add_plain, Nat.zero_add] at x0 x1
    exact ⟨(hW.cell (p := ⟨g, k * 2, none⟩) hgl).trans x0, (hW.cell (p := ⟨g, k * 2 + 1, none⟩) hgl).trans x1⟩
  have HCS := hidS hcs
  have hwk := fun k (hk : k < 4) => hw _ (getD_memS (L := L) (k := k) (by omega))
  have HC := hidS (fun W (hW : Below w.heap.size w W) => readCode_told b off cap zs (L.getD 0 (0, 0)) W hn hcp hwf (hwk 0 (by decide)) ((hr.below hW).mono hW.size))
  have HJ := hidS (fun W (hW : Below w.heap.size w W) => readJumps_told b off cap zs (L.getD 1 (0, 0)) W hn hcp hwf (hwk 1 (by decide)) (hin 1 (by decide)) ((hr.below hW).mono hW.size))
  have HD := hidS (fun W (hW : Below w.heap.size w W) => bytesOf_any b off cap zs (L.getD 2 (0, 0)) W hn hcp (hwk 2 (by decide)) ((hr.below hW).mono hW.size))
  have HN := hidS (fun W (hW : Below w.heap.size w W) => readNames_told b off cap zs (L.getD 3 (0, 0)) W hn hcp hwf (hwk 3 (by decide)) ((hr.below hW).mono hW.size))
  have HWd := hidS (fun W (hW : Below w.heap.size w W) (at_ : Int) (t0 : -9223372036854775808 ≤ at_) (t1 : at_ ≤ 9223372036854775807) => wordAt_any (some ⟨b, off, none⟩) cap zs at_ W (by omega) hcp hwf ((hr.below hW).mono hW.size) t0 t1)
  have HG := hidS hg
  have hcl := cutV_len zs (L.getD 2 (0, 0))
  have hrg48 := atv_range 4 zs 48 hwf
  have hrg52 := atv_range 4 zs 52 hwf
  have HR48 := hidS hrg48
  have HR52 := hidS hrg52
  obtain ⟨p0, hp0⟩ : ∃ p0, L.getD 0 (0, 0) = p0 := ⟨_, rfl⟩
  obtain ⟨p1, hp1⟩ : ∃ p1, L.getD 1 (0, 0) = p1 := ⟨_, rfl⟩
  obtain ⟨p2, hp2⟩ : ∃ p2, L.getD 2 (0, 0) = p2 := ⟨_, rfl⟩
  obtain ⟨p3, hp3⟩ : ∃ p3, L.getD 3 (0, 0) = p3 := ⟨_, rfl⟩
  have hcs0 : ∀ W, Below w.heap.size w W → W.cell? ⟨g, 0, none⟩ = some (.int .u32 p0.1) ∧ W.cell? ⟨g, 1, none⟩ = some (.int .u32 p0.2) ∧ W.cell? ⟨g, 2, none⟩ = some (.int .u32 p1.1) ∧ W.cell? ⟨g, 3, none⟩ = some (.int .u32 p1.2) ∧ W.cell? ⟨g, 4, none⟩ = some (.int .u32 p2.1) ∧ W.cell? ⟨g, 5, none⟩ = some (.int .u32 p2.2) ∧ W.cell? ⟨g, 6, none⟩ = some (.int .u32 p3.1) ∧ W.cell? ⟨g, 7, none⟩ = some (.int .u32 p3.2) := fun W hW => by
    obtain ⟨a0, a1⟩ := HCS.out W hW 0 (by decide)
    obtain ⟨a2, a3⟩ := HCS.out W hW 1 (by decide)
    obtain ⟨a4, a5⟩ := HCS.out W hW 2 (by decide)
    obtain ⟨a6, a7⟩ := HCS.out W hW 3 (by decide)
    rw [hp0] at a0 a1; rw [hp1] at a2 a3; rw [hp2] at a4 a5; rw [hp3] at a6 a7
    exact ⟨a0, a1, a2, a3, a4, a5, a6, a7⟩
  have HP0 := hidS hp0
  have HP1 := hidS hp1
  have HP2 := hidS hp2
  have HP3 := hidS hp3
  rw [hp0] at HC; rw [hp1] at HJ; rw [hp2] at HD hcl; rw [hp3] at HN
  have HS := hidS hcs0
  clear hcs hcs0 hwk hwf hr hown hw hg HCS hp0 hp1 hp2 hp3 hrg48 hrg52
  obtain ⟨W0, hW0⟩ : ∃ W0, (w.alloc (.cells #[.slice none 0 0, .slice none 0 0, .slice none 0 0, .int .u32 0, .int .u32 0, .slice none 0 0] 28)).alloc (.cells #[.slice none 0 0, .slice none 0 0, .slice none 0 0, .int .u32 0, .int .u32 0, .slice none 0 0] 28) = W0 := ⟨_, rfl⟩
  have hsz0 : W0.heap.size = w.heap.size + 2 := by rw [← hW0]; simp
  have bW0 : Below w.heap.size w W0 := by rw [← hW0]; exact belS (belS (Below.refl _ _))
  have hR0 : W0.heap[w.heap.size]? = some (.cells #[.slice none 0 0, .slice none 0 0, .slice none 0 0, .int .u32 0, .int .u32 0, .slice none 0 0] 28) := by
    rw [← hW0, Below.heap_alloc _ _ _ (by simp)]; exact heap_alloc_last w _
  have hI0 : W0.heap[w.heap.size + 1]? = some (.cells #[.slice none 0 0, .slice none 0 0, .slice none 0 0, .int .u32 0, .int .u32 0, .slice none 0 0] 28) := by
    have := heap_alloc_last (w.alloc (.cells #[.slice none 0 0, .slice none 0 0, .slice none 0 0, .int .u32 0, .int .u32 0, .slice none 0 0] 28)) (.cells #[.slice none 0 0, .slice none 0 0, .slice none 0 0, .int .u32 0, .int .u32 0, .slice none 0 0] 28)
    rw [hW0] at this
    simpa using this
  obtain ⟨a0, a1, a2, a3, a4, a5, a6, a7⟩ := HS.out W0 bW0
  go_enter Tryd.func28, Tryd.ntmps28
  go_wp2_with fail
  with_reducible refine (HC.out W0 bW0).mono ?_
  rintro e W1 ⟨⟨v0, at1, er1, rfl, ⟨q0, n0, k0, rfl⟩, hrc⟩, b1⟩
  have HRC := hidS hrc
  clear hrc
  have B1 := btS bW0 b1
  have hR1 := (b1.block w.heap.size (by omega)).trans hR0
  have hI1 := (b1.block (w.heap.size + 1) (by omega)).trans hI0
  have hs1 := b1.size
  clear a0 a1 a2 a3 a4 a5 a6 a7 hR0 hI0 b1 bW0 hW0
  obtain ⟨a0, a1, a2, a3, a4, a5, a6, a7⟩ := HS.out W1 B1
  have i0 := blk_cell hI1 (i := 0) rfl
  have i1 := blk_cell hI1 (i := 1) rfl
  have i2 := blk_cell hI1 (i := 2) rfl
  have i3 := blk_cell hI1 (i := 3) rfl
  have i4 := blk_cell hI1 (i := 4) rfl
  have i5 := blk_cell hI1 (i := 5) rfl
  have f0 := blk_frozen hI1 (i := 0)
  have BI1 := B1.setCell (p := ⟨w.heap.size + 1, 0, none⟩) (by show w.heap.size ≤ w.heap.size + 1; omega) (.slice q0 n0 k0)
  have hRx := (keepR (W := W1) (R := w.heap.size) (I := w.heap.size + 1) (i := 0) (v := .slice q0 n0 k0) (by omega)).trans hR1
  by_cases he1 : er1 = 0
  · subst he1
    obtain ⟨IL, l1, l2, l3, l4, l5, own0⟩ : ∃ IL, cutV zs p0 = encF IL ∧ allOk IL = true ∧ Wfc IL ∧ IL.length ≤ 16384 ∧ atv 4 zs 12 = IL.length ∧ W1.ownsRow W0.heap.size 54 2 (.slice q0 n0 k0) IL.length (cv IL) := by
      rcases HRC.out with ⟨_, _, h⟩ | ⟨h, _⟩
      · exact h
      · exact absurd rfl h
    have LF := hidS (And.intro l1 (And.intro l2 (And.intro l3 (And.intro l4 l5))))
    have OW1 := hidS (own_setI (i := 0) (u := .slice q0 n0 k0) own0 (show w.heap.size + 1 < W0.heap.size by omega))
    clear l1 l2 l3 l4 l5 own0 HRC
    have hIx := blk_set (i := 0) (.slice q0 n0 k0) hI1
    have hsx : (W1.setCell ⟨w.heap.size + 1, 0, none⟩ (.slice q0 n0 k0)).heap.size = W1.heap.size := by rw [World.size_setCell]
    have hJ := HJ.out _ BI1
    obtain ⟨x0, x1, x2, x3, x4, x5, x6, x7⟩ := HS.out _ BI1
    go_wp2_with fail
    with_reducible refine hJ.mono ?_
    rintro e W2 ⟨⟨v1, er2, rfl, ⟨q1, n1, k1, rfl⟩, hrj⟩, b2⟩
    have HRJ := hidS hrj
    clear hrj
    have B2 := btS BI1 b2
    have hR2 := (b2.block w.heap.size (by omega)).trans hRx
    have hI2 := (b2.block (w.heap.size + 1) (by omega)).trans hIx
    have hs2 := b2.size
    have b2keep := b2
    clear i0 i1 i2 i3 i4 i5 f0 a0 a1 a2 a3 a4 a5 a6 a7 x0 x1 x2 x3 x4 x5 x6 x7 hJ b2 hRx hIx hR1 hI1
    simp only [List.setIfInBounds_toArray, List.set_cons_zero] at hI2
    have i0 := blk_cell hI2 (i := 0) rfl
    have i1 := blk_cell hI2 (i := 1) rfl
    have i2 := blk_cell hI2 (i := 2) rfl
    have i3 := blk_cell hI2 (i := 3) rfl
    have i4 := blk_cell hI2 (i := 4) rfl
    have i5 := blk_cell hI2 (i := 5) rfl
    have f1 := blk_frozen hI2 (i := 1)
    have BI2 := B2.setCell (p := ⟨w.heap.size + 1, 1, none⟩) (by show w.heap.size ≤ w.heap.size + 1; omega) (.slice q1 n1 k1)
    have hRx := (keepR (W := W2) (R := w.heap.size) (I := w.heap.size + 1) (i := 1) (v := .slice q1 n1 k1) (by omega)).trans hR2
    obtain ⟨_, y0, y1, y2, y3⟩ := HG.out.below BI2
    by_cases he2 : er2 = 0
    · subst he2
      obtain ⟨IJ, j1, j2, j3, own1⟩ : ∃ IJ : List Nat, cutV zs p1 = jmB IJ ∧ (∀ j ∈ IJ, j < 4294967296) ∧ IJ.length ≤ 16384 ∧ W2.ownsRow (W1.setCell ⟨w.heap.size + 1, 0, none⟩ (.slice q0 n0 k0)).heap.size 25 1 (.slice q1 n1 k1) IJ.length (bk .u32 (jI IJ)) := by
        rcases HRJ.out with ⟨_, h⟩ | ⟨h, _⟩
        · exact h
        · exact absurd rfl h
      have JF := hidS (And.intro j1 (And.intro j2 j3))
      have OW1b := hidS (own_setI (i := 1) (u := .slice q1 n1 k1) (own_below OW1.out b2keep) (show w.heap.size + 1 < W0.heap.size by omega))
      have OW2 := hidS (own_setI (i := 1) (u := .slice q1 n1 k1) (own_lowM (B' := W0.heap.size) own1 (by omega)) (show w.heap.size + 1 < W0.heap.size by omega))
      clear j1 j2 j3 own1 HRJ OW1
      have hIx := blk_set (i := 1) (.slice q1 n1 k1) hI2
      have hsx2 : (W2.setCell ⟨w.heap.size + 1, 1, none⟩ (.slice q1 n1 k1)).heap.size = W2.heap.size := by rw [World.size_setCell]
      have hD := HD.out _ BI2
      obtain ⟨x0, x1, x2, x3, x4, x5, x6, x7⟩ := HS.out _ BI2
      go_wp2_with fail
      with_reducible refine hD.mono ?_
      rintro e W3 ⟨a3, k3, rfl, _, _, own3, b3⟩
      have RR : Hid (R3 W0.heap.size (W3.setCell ⟨w.heap.size + 1, 2, none⟩ (.slice a3 (cutV zs p2).length k3)) IL IJ (cutV zs p2) (.slice q0 n0 k0) (.slice q1 n1 k1) (.slice a3 (cutV zs p2).length k3)) := hidS (R3.set ⟨own_below OW1b.out b3, own_below OW2.out b3, own_lowM own3 (by omega)⟩ (show w.heap.size + 1 < W0.heap.size by omega) _)
      clear own3 OW1b OW2
      have B3 := btS BI2 b3
      have hR3 := (b3.block w.heap.size (by omega)).trans hRx
      have hI3 := (b3.block (w.heap.size + 1) (by omega)).trans hIx
      have hs3 := b3.size
      clear i0 i1 i2 i3 i4 i5 f1 x0 x1 x2 x3 x4 x5 x6 x7 hD b3 hRx hIx hR2 hI2 y0 y1 y2 y3 B1 B2 BI1
      simp only [List.setIfInBounds_toArray, List.set_cons_succ, List.set_cons_zero] at hI3
      obtain ⟨D, hD⟩ : ∃ D, cutV zs p2 = D := ⟨_, rfl⟩
      have HDD := hidS hD
      rw [hD] at hcl RR ⊢
      clear hD
      obtain ⟨n3, hn3⟩ : ∃ n3, D.length = n3 := ⟨_, rfl⟩
      have HN3 := hidS hn3
      rw [hn3] at hcl RR ⊢
      clear hn3
      have i0 := blk_cell hI3 (i := 0) rfl
      have i1 := blk_cell hI3 (i := 1) rfl
      have i2 := blk_cell hI3 (i := 2) rfl
      have i3 := blk_cell hI3 (i := 3) rfl
      have i4 := blk_cell hI3 (i := 4) rfl
      have i5 := blk_cell hI3 (i := 5) rfl
      have f2 := blk_frozen hI3 (i := 2)
      have BI3 := B3.setCell (p := ⟨w.heap.size + 1, 2, none⟩) (by show w.heap.size ≤ w.heap.size + 1; omega) (.slice a3 n3 k3)
      obtain ⟨z48, hz48⟩ : ∃ z48 : Nat, atv 4 zs 48 = z48 := ⟨(atv 4 zs 48).toNat, by have := HR48.out; omega⟩
      obtain ⟨z52, hz52⟩ : ∃ z52 : Nat, atv 4 zs 52 = z52 := ⟨(atv 4 zs 52).toNat, by have := HR52.out; omega⟩
      have hWd := HWd.out _ BI3 48 (by decide) (by decide)
      rw [hz48] at hWd
      have hb48 : z48 < 4294967296 := by have := HR48.out; rw [hz48] at this; omega
      have hb52 : z52 < 4294967296 := by have := HR52.out; rw [hz52] at this; omega
      have HB48 := hidS hb48
      have HB52 := hidS hb52
      have HZ52 := hidS hz52
      have HZ48 := hidS hz48
      have hI4 := blk_set (i := 2) (.slice a3 n3 k3) hI3
      have hR4 := (keepR (W := W3) (R := w.heap.size) (I := w.heap.size + 1) (i := 2) (v := .slice a3 n3 k3) (by omega)).trans hR3
      have hs4 : (W3.setCell ⟨w.heap.size + 1, 2, none⟩ (.slice a3 n3 k3)).heap.size = W3.heap.size := by rw [World.size_setCell]
      simp only [List.setIfInBounds_toArray, List.set_cons_succ, List.set_cons_zero] at hI4
      clear hz48 hz52 hb48 hb52
      go_wp2_with fail
      with_reducible refine hWd.mono ?_
      rintro e wq ⟨rfl, hq⟩
      subst wq
      clear i0 i1 i2 i3 i4 i5 f2 hI3 hR3 hWd
      generalize W3.setCell ⟨w.heap.size + 1, 2, none⟩ (.slice a3 n3 k3) = W4 at *
      have i3 := blk_cell hI4 (i := 3) rfl
      have f3 := blk_frozen hI4 (i := 3)
      have BI4 := BI3.setCell (p := ⟨w.heap.size + 1, 3, none⟩) (by show w.heap.size ≤ w.heap.size + 1; omega) (.int .u32 (z48 : Int))
      have hWd := HWd.out _ BI4 52 (by decide) (by decide)
      rw [HZ52.out] at hWd
      have hI5 := blk_set (i := 3) (.int .u32 (z48 : Int)) hI4
      have hR5 := (keepR (W := W4) (R := w.heap.size) (I := w.heap.size + 1) (i := 3) (v := .int .u32 (z48 : Int)) (by omega)).trans hR4
      have hs5 : (W4.setCell ⟨w.heap.size + 1, 3, none⟩ (.int .u32 (z48 : Int))).heap.size = W4.heap.size := by rw [World.size_setCell]
      simp only [List.setIfInBounds_toArray, List.set_cons_succ, List.set_cons_zero] at hI5
      go_wp2_with fail
      with_reducible refine hWd.mono ?_
      rintro e wq ⟨rfl, hq⟩
      subst wq
      replace RR := hidS (RR.out.set (i := 3) (show w.heap.size + 1 < W0.heap.size by omega) (.int .u32 (z48 : Int)))
      clear i3 f3 hI4 hR4 hWd BI3
      generalize W4.setCell ⟨w.heap.size + 1, 3, none⟩ (.int .u32 (z48 : Int)) = W5 at *
      have i4 := blk_cell hI5 (i := 4) rfl
      have f4 := blk_frozen hI5 (i := 4)
      have BI5 := BI4.setCell (p := ⟨w.heap.size + 1, 4, none⟩) (by show w.heap.size ≤ w.heap.size + 1; omega) (.int .u32 (z52 : Int))
      have hI6 := blk_set (i := 4) (.int .u32 (z52 : Int)) hI5
      have hR6 := (keepR (W := W5) (R := w.heap.size) (I := w.heap.size + 1) (i := 4) (v := .int .u32 (z52 : Int)) (by omega)).trans hR5
      have hs6 : (W5.setCell ⟨w.heap.size + 1, 4, none⟩ (.int .u32 (z52 : Int))).heap.size = W5.heap.size := by rw [World.size_setCell]
      simp only [List.setIfInBounds_toArray, List.set_cons_succ, List.set_cons_zero] at hI6
      replace RR := hidS (RR.out.set (i := 4) (show w.heap.size + 1 < W0.heap.size by omega) (.int .u32 (z52 : Int)))
      have hSt := stk_any z52 (W5.setCell ⟨w.heap.size + 1, 4, none⟩ (.int .u32 (z52 : Int))) HB52.out
      obtain ⟨r, hrs⟩ : ∃ r, stOk z52 = r := ⟨_, rfl⟩
      rw [hrs] at hSt
      have HRS := hidS hrs
      clear hrs
      go_wp2_with fail
      with_reducible refine hSt.mono ?_
      rintro e W7 ⟨rfl, hw7⟩
      have b7 : Below (W5.setCell ⟨w.heap.size + 1, 4, none⟩ (.int .u32 (z52 : Int))).heap.size (W5.setCell ⟨w.heap.size + 1, 4, none⟩ (.int .u32 (z52 : Int))) W7 := by rw [hw7]; exact Below.refl _ _
      clear hw7
      replace RR := hidS (RR.out.below b7)
      have B7 := btS BI5 b7
      have hR7 := (b7.block w.heap.size (by omega)).trans hR6
      have hI7 := (b7.block (w.heap.size + 1) (by omega)).trans hI6
      have hs7 := b7.size
      clear i4 f4 hI5 hI6 hR5 hR6 hSt BI4 BI5 b7
      have i0 := blk_cell hI7 (i := 0) rfl
      have i1 := blk_cell hI7 (i := 1) rfl
      have i2 := blk_cell hI7 (i := 2) rfl
      have i3 := blk_cell hI7 (i := 3) rfl
      have i4 := blk_cell hI7 (i := 4) rfl
      have i5 := blk_cell hI7 (i := 5) rfl
      cases r
      · have HNO : Hid (∀ I, ¬ SegR zs L I) := hidS (fun I h => by
          have e1 : (I.st : Int) = z52 := h.stk.symm.trans HZ52.out
          have e2 := h.sok
          rw [show I.st = z52 by omega, HRS.out] at e2
          cases e2)
        go_wp2_with (refine wpList_store_row rfl _ _ _ rfl w.heap.size _ #[.slice q0 n0 k0, .slice q1 n1 k1, .slice a3 n3 k3, .int .u32 (z48 : Int), .int .u32 (z52 : Int), .slice none 0 0] rfl rfl hR7 (by rw [infoI6]; rfl) rfl (i6_all rfl rfl rfl rfl rfl rfl) ?_)
        obtain ⟨fs, hu⟩ := undI6
        refine bodyPost_ret (res_cell3 (p := 4) (u := 5) (v := 6) (ty := 28) (by kernel_rfl) _ _ _ w.heap.size #[.slice q0 n0 k0, .slice q1 n1 k1, .slice a3 n3 k3, .int .u32 (z48 : Int), .int .u32 (z52 : Int), .slice none 0 0] (setRow_heap _ w.heap.size _ _ _ _ hR7) hu (by rw [infoI6]; rfl) rfl) rfl ?_
        exact ⟨⟨_, _, _, _, _, _, _, _, rfl, rfl, rfl, rfl, rfl, rfl, rfl, .inr ⟨by decide, HNO.out⟩⟩, below_setRow B7 (Nat.le_refl _) _⟩
      · have hRm := room_any (.slice q0 n0 k0) (.slice q1 n1 k1) (.slice none 0 0) a3 n3 k3 z48 z52 W7 rfl rfl rfl (by omega) HB48.out HB52.out
        go_wp2_with fail
        with_reducible refine hRm.mono ?_
        rintro e W8 ⟨rfl, b8⟩
        replace RR := hidS (RR.out.below b8)
        have B8 := btS B7 b8
        have hR8 := (b8.block w.heap.size (by omega)).trans hR7
        have hI8 := (b8.block (w.heap.size + 1) (by omega)).trans hI7
        have hs8 := b8.size
        clear i0 i1 i2 i3 i4 i5 hI7 hR7 hRm B7 b8
        have i0 := blk_cell hI8 (i := 0) rfl
        have i1 := blk_cell hI8 (i := 1) rfl
        have i2 := blk_cell hI8 (i := 2) rfl
        have i3 := blk_cell hI8 (i := 3) rfl
        have i4 := blk_cell hI8 (i := 4) rfl
        have i5 := blk_cell hI8 (i := 5) rfl
        obtain ⟨tot, htot⟩ : ∃ tot : Nat, (n3 : Int) + (z48 : Int) + (z52 : Int) = tot := ⟨n3 + z48 + z52, by push_cast; rfl⟩
        rw [htot]
        have HTOT := hidS htot
        clear htot
        by_cases hbig : 65536 < tot
        · have hbigI : (65536 : Int) < (tot : Int) := by omega
          have HNO : Hid (∀ I, ¬ SegR zs L I) := hidS (fun I h => by
            have e1 : (I.st : Int) = z52 := h.stk.symm.trans HZ52.out
            have e2 : (I.z : Int) = z48 := h.zer.symm.trans HZ48.out
            have e3 : I.D = D := by rw [← h.dat, HP2.out, HDD.out]
            have e4 := h.room
            rw [e3, HN3.out] at e4
            have := HTOT.out
            omega)
          go_wp2_with (refine wpList_store_row rfl _ _ _ rfl w.heap.size _ #[.slice q0 n0 k0, .slice q1 n1 k1, .slice a3 n3 k3, .int .u32 (z48 : Int), .int .u32 (z52 : Int), .slice none 0 0] rfl rfl hR8 (by rw [infoI6]; rfl) rfl (i6_all rfl rfl rfl rfl rfl rfl) ?_)
          obtain ⟨fs, hu⟩ := undI6
          refine bodyPost_ret (res_cell3 (p := 4) (u := 5) (v := 6) (ty := 28) (by kernel_rfl) _ _ _ w.heap.size #[.slice q0 n0 k0, .slice q1 n1 k1, .slice a3 n3 k3, .int .u32 (z48 : Int), .int .u32 (z52 : Int), .slice none 0 0] (setRow_heap _ w.heap.size _ _ _ _ hR8) hu (by rw [infoI6]; rfl) rfl) rfl ?_
          exact ⟨⟨_, _, _, _, _, _, _, _, rfl, rfl, rfl, rfl, rfl, rfl, rfl, .inr ⟨by decide, HNO.out⟩⟩, below_setRow B8 (Nat.le_refl _) _⟩
        · have hbigI : ¬ (65536 : Int) < (tot : Int) := by omega
          obtain ⟨x0, x1, x2, x3, x4, x5, x6, x7⟩ := HS.out _ B8
          have hNm := HN.out W8 B8
          go_wp2_with fail
          with_reducible refine hNm.mono ?_
          rintro e W9 ⟨⟨v5, at9, er9, rfl, ⟨q5, n5, k5, rfl⟩, hnm⟩, b9⟩
          have HNM := hidS hnm
          clear hnm
          replace RR := hidS (RR.out.below b9)
          have B9 := btS B8 b9
          have hR9 := (b9.block w.heap.size (by omega)).trans hR8
          have hI9 := (b9.block (w.heap.size + 1) (by omega)).trans hI8
          clear i0 i1 i2 i3 i4 i5 hI8 hR8 hNm x0 x1 x2 x3 x4 x5 x6 x7 b9
          have i0 := blk_cell hI9 (i := 0) rfl
          have i1 := blk_cell hI9 (i := 1) rfl
          have i2 := blk_cell hI9 (i := 2) rfl
          have i3 := blk_cell hI9 (i := 3) rfl
          have i4 := blk_cell hI9 (i := 4) rfl
          have i5 := blk_cell hI9 (i := 5) rfl
          have f5 := blk_frozen hI9 (i := 5)
          have BI9 := B9.setCell (p := ⟨w.heap.size + 1, 5, none⟩) (by show w.heap.size ≤ w.heap.size + 1; omega) (.slice q5 n5 k5)
          have hRx := (keepR (W := W9) (R := w.heap.size) (I := w.heap.size + 1) (i := 5) (v := .slice q5 n5 k5) (by omega)).trans hR9
          go_wp2_with (refine wpList_store_row rfl _ _ _ rfl w.heap.size _ #[.slice q0 n0 k0, .slice q1 n1 k1, .slice a3 n3 k3, .int .u32 (z48 : Int), .int .u32 (z52 : Int), .slice q5 n5 k5] rfl rfl hRx (by rw [infoI6]; rfl) rfl (i6_all rfl rfl rfl rfl rfl rfl) ?_)
          obtain ⟨fs, hu⟩ := undI6
          refine bodyPost_ret (res_cell3 (p := 4) (u := 5) (v := 6) (ty := 28) (by kernel_rfl) _ _ _ w.heap.size #[.slice q0 n0 k0, .slice q1 n1 k1, .slice a3 n3 k3, .int .u32 (z48 : Int), .int .u32 (z52 : Int), .slice q5 n5 k5] (setRow_heap _ w.heap.size _ _ _ _ hRx) hu (by rw [infoI6]; rfl) rfl) rfl ?_
          refine ⟨⟨_, _, _, _, _, _, _, _, rfl, rfl, rfl, rfl, rfl, rfl, rfl, ?_⟩, below_setRow BI9 (Nat.le_refl _) _⟩
          rcases HNM.out with ⟨h9, h9a, IM, m1, m2, m3, ownM⟩ | ⟨h9, hno⟩
          · subst h9 h9a
            refine .inl ⟨rfl, rfl, ⟨IL, IJ, D, z48, z52, IM⟩, ⟨by rw [HP0.out]; exact LF.out.1, LF.out.2.1, LF.out.2.2.1, LF.out.2.2.2.1, LF.out.2.2.2.2, by rw [HP1.out]; exact JF.out.1, JF.out.2.1, JF.out.2.2, by rw [HP2.out]; exact HDD.out, HZ48.out, HZ52.out, HRS.out, ?_, by rw [HP3.out]; exact m1, m2, m3⟩, rfl, rfl, ?_⟩
            · show D.length + z48 + z52 ≤ 65536
              rw [HN3.out]
              have := HTOT.out
              omega
            · have hB : w.heap.size < W0.heap.size := by omega
              have hI : w.heap.size + 1 < W0.heap.size := by omega
              have q := RR.out.set (i := 5) hI (.slice q5 n5 k5)
              have qm := own_setI (i := 5) (u := .slice q5 n5 k5) (own_lowM (B' := W0.heap.size) ownM (by omega)) hI
              have c3 := q.dat
              rw [HN3.out] at c3
              exact ⟨own_lowM (own_rowR q.code hB) (by omega), own_lowM (own_rowR q.jmp hB) (by omega), own_lowM (own_rowR q.dat hB) (by omega), own_lowM (own_rowR qm hB) (by omega)⟩
          · exact .inr ⟨h9, fun I h => hno I.M h.nwf h.nok (by rw [← HP3.out]; exact h.nam)⟩
    · have he2' : (er2 == 0) = false := by rw [beq_eq_false_iff_ne]; exact he2
      have HE2 := hidS he2
      have HNO : Hid (∀ I, ¬ SegR zs L I) := hidS (fun I h => by
        rcases HRJ.out with ⟨h9, _⟩ | ⟨_, hno⟩
        · exact he2 h9
        · exact hno I.J h.jlen (by rw [← HP1.out]; exact h.jmp))
      clear HRJ OW1
      have r0 := blk_cell hRx (i := 0) rfl
      have r1 := blk_cell hRx (i := 1) rfl
      have r2 := blk_cell hRx (i := 2) rfl
      have r3 := blk_cell hRx (i := 3) rfl
      have r4 := blk_cell hRx (i := 4) rfl
      have r5 := blk_cell hRx (i := 5) rfl
      have g0 := blk_frozen hRx (i := 0)
      have g1 := blk_frozen hRx (i := 1)
      have g2 := blk_frozen hRx (i := 2)
      have g3 := blk_frozen hRx (i := 3)
      have g4 := blk_frozen hRx (i := 4)
      have g5 := blk_frozen hRx (i := 5)
      go_wp2_with fail
      have hIx := blk_set (i := 1) (.slice q1 n1 k1) hI2
      have z0 := blk_cell hIx (i := 0) rfl
      have z1 := blk_cell hIx (i := 1) rfl
      have z2 := blk_cell hIx (i := 2) rfl
      have z3 := blk_cell hIx (i := 3) rfl
      have z4 := blk_cell hIx (i := 4) rfl
      have z5 := blk_cell hIx (i := 5) rfl
      clear i0 i1 i2 i3 i4 i5 f1
      generalize W2.setCell ⟨w.heap.size + 1, 1, none⟩ (.slice q1 n1 k1) = W3 at *
      have hfin := set6 hRx (.slice q0 n0 k0) (.slice q1 n1 k1) (.slice none 0 0) (.int .u32 0) (.int .u32 0) (.slice none 0 0)
      have bfin := below6 BI2 (Nat.le_refl _) (R := w.heap.size) (.slice q0 n0 k0) (.slice q1 n1 k1) (.slice none 0 0) (.int .u32 0) (.int .u32 0) (.slice none 0 0)
      have HFI := hidS hfin
      have HBF := hidS bfin
      clear hfin bfin
      go_region
      generalize (((((W3.setCell ⟨w.heap.size, 0, none⟩ (.slice q0 n0 k0)).setCell ⟨w.heap.size, 1, none⟩ (.slice q1 n1 k1)).setCell ⟨w.heap.size, 2, none⟩ (.slice none 0 0)).setCell ⟨w.heap.size, 3, none⟩ (.int .u32 0)).setCell ⟨w.heap.size, 4, none⟩ (.int .u32 0)).setCell ⟨w.heap.size, 5, none⟩ (.slice none 0 0) = W6 at *
      go_wp2_with fail
      obtain ⟨fs, hu⟩ := undI6
      have hres := fun tmps hp => res_cell3 (fn := Tryd.f28) (p := 4) (u := 5) (v := 6) (ty := 28) (by kernel_rfl) tmps Tryd.prog W6.drew w.heap.size _ HFI.out hu (by rw [infoI6]; rfl) hp
      refine bodyPost_ret (hres _ rfl) rfl ?_
      exact ⟨⟨_, _, _, _, _, _, _, _, rfl, rfl, rfl, rfl, rfl, rfl, rfl, .inr ⟨HE2.out, HNO.out⟩⟩, Below.drew HBF.out⟩
  · have he1' : (er1 == 0) = false := by rw [beq_eq_false_iff_ne]; exact he1
    have HE1 := hidS he1
    have HNO : Hid (∀ I, ¬ SegR zs L I) := hidS (fun I h => by
      rcases HRC.out with ⟨h9, _⟩ | ⟨_, hno⟩
      · exact he1 h9
      · exact hno I.L h.ok h.len h.cnt (by rw [← HP0.out]; exact h.code))
    clear HRC
    go_wp2_with (refine wpList_store_row rfl _ _ _ rfl w.heap.size _ #[.slice q0 n0 k0, .slice none 0 0, .slice none 0 0, .int .u32 0, .int .u32 0, .slice none 0 0] rfl rfl hRx (by rw [infoI6]; rfl) rfl (i6_all rfl rfl rfl rfl rfl rfl) ?_)
    obtain ⟨fs, hu⟩ := undI6
    refine bodyPost_ret (res_cell3 (p := 4) (u := 5) (v := 6) (ty := 28) (by kernel_rfl) _ _ _ w.heap.size #[.slice q0 n0 k0, .slice none 0 0, .slice none 0 0, .int .u32 0, .int .u32 0, .slice none 0 0] (setRow_heap _ w.heap.size _ _ _ _ hRx) hu (by rw [infoI6]; rfl) rfl) rfl ?_
    exact ⟨⟨_, _, _, _, _, _, _, _, rfl, rfl, rfl, rfl, rfl, rfl, rfl, .inr ⟨HE1.out, HNO.out⟩⟩, below_setRow BI1 (Nat.le_refl _) _⟩
end Go.Proofs.YtnplimdcfbgpeaaDoor
namespace Go.Proofs.YtnplimdcfbgpeaaDoor
open Go.RowKit Go.WideShapes Go.Sort Go.Lib
set_option maxRecDepth 100000

/-- bytes that are read as an image -/
structure ParR (zs : List Int) (I : Im) : Prop where
  lo : 64 ≤ zs.length
  hi : zs.length ≤ 1048576
  hd : HdOk zs
  sp : SpOk (spL zs) zs.length
  sg : SegR zs (spL zs) I
/-- what Parse answers -/
def PaP (B : Nat) (zs : List Int) (e : Ending) (w' : World) : Prop :=
  (∃ at_ er : Int, e = .returned (.tuple #[.agg #[.slice none 0 0, .slice none 0 0, .slice none 0 0, .int .u32 0, .int .u32 0, .slice none 0 0], .int .i64 at_, .int .i64 er]) ∧ ¬ er = 0 ∧ ∀ I, ¬ ParR zs I) ∨
  (∃ v0 v1 v2 v5 I, e = .returned (.tuple #[.agg #[v0, v1, v2, .int .u32 (I.z : Nat), .int .u32 (I.st : Nat), v5], .int .i64 0, .int .i64 0]) ∧ ParR zs I ∧ ImO B w' I v0 v1 v2 v5)
set_option maxHeartbeats 2000000 in
theorem parse_midT (b off cap : Nat) (zs : List Int) (w : World) (hn : zs.length ≤ 1048576) (h64 : 64 ≤ zs.length) (hcp : zs.length ≤ cap) (hwf : ∀ z ∈ zs, 0 ≤ z ∧ z ≤ 255) (hr : Reads w (some ⟨b, off, none⟩) zs w.heap.size) (hg : Sg w) :
    Calls Tryd.prog 11 #[.slice (some ⟨b, off, none⟩) zs.length cap] w fun e w' => PaP w.heap.size zs e w' ∧ Below w.heap.size w w' := by
  have bR : Below w.heap.size w (w.alloc (.cells #[.slice none 0 0, .slice none 0 0, .slice none 0 0, .int .u32 0, .int .u32 0, .slice none 0 0] 28)) := belS (Below.refl _ _)
  have hR := heap_alloc_last w (.cells #[.slice none 0 0, .slice none 0 0, .slice none 0 0, .int .u32 0, .int .u32 0, .slice none 0 0] 28)
  have h1 := header_told b off cap zs (w.alloc (.cells #[.slice none 0 0, .slice none 0 0, .slice none 0 0, .int .u32 0, .int .u32 0, .slice none 0 0] 28)) hn h64 hcp hwf ((hr.below bR).mono bR.size)
  have HWF := hidS hwf
  have HR := hidS hr
  have HG := hidS hg
  clear hwf hr hg
  go_enter Tryd.func11, Tryd.ntmps11
  go_wp2_with fail
  with_reducible refine h1.mono ?_
  rintro e W1 ⟨⟨at1, er1, rfl, hok, _⟩, b1⟩
  have B1 := btS bR b1
  have hR1 := (b1.block w.heap.size (by simp)).trans hR
  have hs1 := b1.size
  have HOK := hidS hok
  have hsA : (w.alloc (.cells #[.slice none 0 0, .slice none 0 0, .slice none 0 0, .int .u32 0, .int .u32 0, .slice none 0 0] 28)).heap.size = w.heap.size + 1 := by simp
  clear h1 hR b1 hok
  by_cases he1 : er1 = 0
  · subst he1
    have HHD := hidS (HOK.out.1 rfl)
    have hS := spansOf_any (some ⟨b, off, none⟩) cap zs W1 hn hcp HWF.out ((HR.out.below B1).mono B1.size) (HG.out.below B1) (fun a => (atv_range 4 zs a HWF.out).1)
    go_wp2_with fail
    with_reducible refine hS.mono ?_
    rintro e W2 ⟨v2, rfl, own2, b2⟩
    have B2 := btS B1 b2
    have hR2 := (b2.block w.heap.size (by omega)).trans hR1
    have hs2 := b2.size
    obtain ⟨g2, c2, rfl, _⟩ := own_form own2 (by decide)
    have hw32 : IntKind.u32.wrap (zs.length : Int) = (zs.length : Int) := by rw [IntKind.wrap_u32]; omega
    have hF := spansFault_told (some ⟨g2, 0, none⟩) c2 (spL zs) zs.length W2 (spF_len zs 4) (spL_wf zs HWF.out) (by omega) (HG.out.below B2) (own_lowM own2 (Nat.zero_le _))
    clear hS hR1 b2
    go_wp2_with fail
    with_reducible refine hF.mono ?_
    rintro e W3 ⟨⟨at3, er3, rfl, hsp, _⟩, b3⟩
    have HSP := hidS hsp
    clear hsp
    have B3 := btS B2 b3
    have hR3 := (b3.block w.heap.size (by omega)).trans hR2
    have hs3 := b3.size
    have own3 := own_below own2 b3
    clear hF hR2 own2 b3
    by_cases he3 : er3 = 0
    · subst he3
      have HSO := hidS (HSP.out.1 rfl)
      have hSg := readSeg_told b off cap g2 c2 (spL zs) zs W3 hn hcp HWF.out ((HR.out.below B3).mono B3.size) (spF_len zs 4) (spL_wf zs HWF.out) (own_lowM own3 (Nat.zero_le _)) (HG.out.below B3) HSO.out.1
      go_wp2_with fail
      with_reducible refine hSg.mono ?_
      rintro e W4 ⟨⟨v0, v1, v2, v3, v4, v5, at4, er4, rfl, o0, o1, o2, o3, o4, o5, hsg⟩, b4⟩
      have HSG := hidS hsg
      clear hsg
      have B4 := btS B3 b4
      have hR4 := (b4.block w.heap.size (by omega)).trans hR3
      have hA4 := heap_alloc_last W4 (.cells #[.slice none 0 0, .slice none 0 0, .slice none 0 0, .int .u32 0, .int .u32 0, .slice none 0 0] 28)
      have hI5 := setRow_heap (W4.alloc (.cells #[.slice none 0 0, .slice none 0 0, .slice none 0 0, .int .u32 0, .int .u32 0, .slice none 0 0] 28)) W4.heap.size _ #[v0, v1, v2, v3, v4, v5] _ _ hA4
      have b5 : Below W4.heap.size W4 ((W4.alloc (.cells #[.slice none 0 0, .slice none 0 0, .slice none 0 0, .int .u32 0, .int .u32 0, .slice none 0 0] 28)).setRow W4.heap.size #[v0, v1, v2, v3, v4, v5]) := below_setRow (belS (Below.refl _ _)) (Nat.le_refl _) _
      have hs4 := b4.size
      have hR5 := (b5.block w.heap.size (by omega)).trans hR4
      have B5 := btS B4 b5
      have hall := i6_all o0 o1 o2 o3 o4 o5
      have i0 := blk_cell hI5 (i := 0) rfl
      have i1 := blk_cell hI5 (i := 1) rfl
      have i2 := blk_cell hI5 (i := 2) rfl
      have i3 := blk_cell hI5 (i := 3) rfl
      have i4 := blk_cell hI5 (i := 4) rfl
      have i5 := blk_cell hI5 (i := 5) rfl
      have HALL := hidS hall
      clear hSg hR3 own3 b4 hall hI5 o0 o1 o2 o3 o4 o5
      by_cases he4 : er4 = 0
      · subst he4
        go_wp2_with (first | (refine wpList_store_row rfl _ _ _ rfl W4.heap.size _ #[v0, v1, v2, v3, v4, v5] rfl rfl hA4 (by rw [infoI6]; rfl) rfl HALL.out ?_; generalize (W4.alloc (.cells #[.slice none 0 0, .slice none 0 0, .slice none 0 0, .int .u32 0, .int .u32 0, .slice none 0 0] 28)).setRow W4.heap.size #[v0, v1, v2, v3, v4, v5] = W5 at *) | (refine wpList_store_row rfl _ _ _ rfl w.heap.size _ #[v0, v1, v2, v3, v4, v5] rfl rfl hR5 (by rw [infoI6]; rfl) rfl HALL.out ?_))
        obtain ⟨fs, hu⟩ := undI6
        refine bodyPost_ret (res_cell3 (p := 2) (u := 3) (v := 4) (ty := 28) (by kernel_rfl) _ _ _ w.heap.size #[v0, v1, v2, v3, v4, v5] (setRow_heap _ w.heap.size _ _ _ _ hR5) hu (by rw [infoI6]; rfl) rfl) rfl ?_
        obtain ⟨I, y1, y2, y3, y4⟩ : ∃ I, SegR zs (spL zs) I ∧ v3 = .int .u32 (I.z : Nat) ∧ v4 = .int .u32 (I.st : Nat) ∧ ImO W3.heap.size W4 I v0 v1 v2 v5 := by
          rcases HSG.out with ⟨_, _, h⟩ | ⟨h, _⟩
          · exact h
          · exact absurd (by first | exact rfl | trivial) h
        have hlt : w.heap.size < W3.heap.size := by omega
        have y5 := y4.below b5
        clear i0 i1 i2 i3 i4 i5
        subst y2 y3
        refine ⟨.inr ⟨v0, v1, v2, v5, I, rfl, ⟨h64, hn, HHD.out, HSO.out, y1⟩, ?_⟩, below_setRow B5 (Nat.le_refl _) _⟩
        exact ImO.low ⟨own_rowR y5.code hlt, own_rowR y5.jmp hlt, own_rowR y5.dat hlt, own_rowR y5.nam hlt⟩ (by omega)
      · have he4' : (er4 == 0) = false := by rw [beq_eq_false_iff_ne]; exact he4
        have HE4 := hidS he4
        clear he4
        go_wp2_with (first | (refine wpList_store_row rfl _ _ _ rfl W4.heap.size _ #[v0, v1, v2, v3, v4, v5] rfl rfl hA4 (by rw [infoI6]; rfl) rfl HALL.out ?_; generalize (W4.alloc (.cells #[.slice none 0 0, .slice none 0 0, .slice none 0 0, .int .u32 0, .int .u32 0, .slice none 0 0] 28)).setRow W4.heap.size #[v0, v1, v2, v3, v4, v5] = W5 at *) | (refine wpList_store_row rfl _ _ _ rfl w.heap.size _ #[.slice none 0 0, .slice none 0 0, .slice none 0 0, .int .u32 0, .int .u32 0, .slice none 0 0] rfl rfl hR5 (by rw [infoI6]; rfl) rfl (i6_all rfl rfl rfl rfl rfl rfl) ?_))
        obtain ⟨fs, hu⟩ := undI6
        refine bodyPost_ret (res_cell3 (p := 2) (u := 3) (v := 4) (ty := 28) (by kernel_rfl) _ _ _ w.heap.size #[.slice none 0 0, .slice none 0 0, .slice none 0 0, .int .u32 0, .int .u32 0, .slice none 0 0] (setRow_heap _ w.heap.size _ _ _ _ hR5) hu (by rw [infoI6]; rfl) rfl) rfl ?_
        exact ⟨.inl ⟨_, _, rfl, HE4.out, fun I h => by
          rcases HSG.out with ⟨h9, _⟩ | ⟨_, hno⟩
          · exact HE4.out h9
          · exact hno I h.sg⟩, below_setRow B5 (Nat.le_refl _) _⟩
    · have he3' : (er3 == 0) = false := by rw [beq_eq_false_iff_ne]; exact he3
      have HE3 := hidS he3
      clear he3
      go_wp2_with (refine wpList_store_row rfl _ _ _ rfl w.heap.size _ #[.slice none 0 0, .slice none 0 0, .slice none 0 0, .int .u32 0, .int .u32 0, .slice none 0 0] rfl rfl hR3 (by rw [infoI6]; rfl) rfl (i6_all rfl rfl rfl rfl rfl rfl) ?_)
      obtain ⟨fs, hu⟩ := undI6
      refine bodyPost_ret (res_cell3 (p := 2) (u := 3) (v := 4) (ty := 28) (by kernel_rfl) _ _ _ w.heap.size #[.slice none 0 0, .slice none 0 0, .slice none 0 0, .int .u32 0, .int .u32 0, .slice none 0 0] (setRow_heap _ w.heap.size _ _ _ _ hR3) hu (by rw [infoI6]; rfl) rfl) rfl ?_
      exact ⟨.inl ⟨_, _, rfl, HE3.out, fun I h => HE3.out (HSP.out.2 h.sp)⟩, below_setRow B3 (Nat.le_refl _) _⟩
  · have he1' : (er1 == 0) = false := by rw [beq_eq_false_iff_ne]; exact he1
    have HE1 := hidS he1
    clear he1
    go_wp2_with (refine wpList_store_row rfl _ _ _ rfl w.heap.size _ #[.slice none 0 0, .slice none 0 0, .slice none 0 0, .int .u32 0, .int .u32 0, .slice none 0 0] rfl rfl hR1 (by rw [infoI6]; rfl) rfl (i6_all rfl rfl rfl rfl rfl rfl) ?_)
    obtain ⟨fs, hu⟩ := undI6
    refine bodyPost_ret (res_cell3 (p := 2) (u := 3) (v := 4) (ty := 28) (by kernel_rfl) _ _ _ w.heap.size #[.slice none 0 0, .slice none 0 0, .slice none 0 0, .int .u32 0, .int .u32 0, .slice none 0 0] (setRow_heap _ w.heap.size _ _ _ _ hR1) hu (by rw [infoI6]; rfl) rfl) rfl ?_
    exact ⟨.inl ⟨_, _, rfl, HE1.out, fun I h => HE1.out (HOK.out.2 h.hd)⟩, below_setRow B1 (Nat.le_refl _) _⟩
theorem parse_told (ao : Option Addr) (cap : Nat) (zs : List Int) (w : World) (hcp : zs.length ≤ cap) (hwf : ∀ z ∈ zs, 0 ≤ z ∧ z ≤ 255) (hr : Reads w ao zs w.heap.size) (hg : Sg w) :
    Calls Tryd.prog 11 #[.slice ao zs.length cap] w fun e w' => PaP w.heap.size zs e w' ∧ Below w.heap.size w w' := by
  by_cases h1 : zs.length < 64
  · refine (parse_bad ao zs.length cap w zs.length 80 (by decide) (fun W _ => (header_lo ao zs.length cap W h1).mono fun e w' ⟨he, hw⟩ => ⟨he, by rw [hw]; exact Below.refl _ _⟩)).mono ?_
    rintro e w' ⟨rfl, hb⟩
    exact ⟨.inl ⟨_, _, rfl, by decide, fun I h => by have := h.lo; omega⟩, hb⟩
  · by_cases h2 : 1048576 < zs.length
    · refine (parse_bad ao zs.length cap w 1048576 80 (by decide) (fun W _ => (header_hi ao zs.length cap W h2).mono fun e w' ⟨he, hw⟩ => ⟨he, by rw [hw]; exact Below.refl _ _⟩)).mono ?_
      rintro e w' ⟨rfl, hb⟩
      exact ⟨.inl ⟨_, _, rfl, by decide, fun I h => by have := h.hi; omega⟩, hb⟩
    · obtain ⟨b, off, rfl, _⟩ := hr (by omega)
      exact parse_midT b off cap zs w (by omega) (by omega) hcp hwf hr hg
end Go.Proofs.YtnplimdcfbgpeaaDoor
