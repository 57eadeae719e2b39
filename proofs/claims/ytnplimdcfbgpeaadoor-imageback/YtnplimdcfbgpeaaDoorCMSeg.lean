import Derived.Test.YtnplimdcfbgpeaaDoorCMRdE
namespace Go.Proofs.YtnplimdcfbgpeaaDoor
open Go.RowKit Go.WideShapes Go.Sort Go.Lib
set_option maxRecDepth 100000

/-- an image's six cells in a block of their own -/
def i6 (v0 v1 v2 v3 v4 v5 : Value) : Array Value := #[v0, v1, v2, v3, v4, v5]
theorem blk_cell {W : World} {b i : Nat} {cs : Array Value} {t : TypeId} {v : Value} (h : W.heap[b]? = some (.cells cs t)) (hi : cs[i]? = some v) : W.cell? ⟨b, i, none⟩ = some v := by
  unfold World.cell?; simp only [h]; exact hi
theorem blk_frozen {W : World} {b i : Nat} {cs : Array Value} {t : TypeId} (h : W.heap[b]? = some (.cells cs t)) : W.frozen? ⟨b, i, none⟩ = false := by
  unfold World.frozen?; simp only [h]; simp
theorem blk_set {W : World} {b i : Nat} {cs : Array Value} {t : TypeId} (v : Value) (h : W.heap[b]? = some (.cells cs t)) : (W.setCell ⟨b, i, none⟩ v).heap[b]? = some (.cells (cs.setIfInBounds i v) t) := by
  unfold World.setCell
  simp [h, Array.getElem?_modify]
theorem undI6 : ∃ fs, Tryd.prog.underlying 28 = some (.struct fs) := by
  have h : (match Tryd.prog.underlying 28 with | some (.struct _) => true | _ => false) = true := by kernel_rfl
  split at h
  · exact ⟨_, by assumption⟩
  · cases h
theorem infoI6 : (Tryd.prog.info? 28).map (·.size) = some 6 := by kernel_rfl
theorem res_cell3 {fn : Func} {p u v : Tmp} {ty : TypeId} (h : fn.results = #[.cell p ty, .tmp u, .tmp v]) (tmps : Array Value) (P : Program) (W : World) (b : Nat) (cs : Array Value) {fs : Array Field} (hb : W.heap[b]? = some (.cells cs ty)) (hu : P.underlying ty = some (.struct fs)) (hi : (P.info? ty).map (·.size) = some cs.size) (hp : tmps.getD p undef = .pointer (some ⟨b, 0, none⟩)) :
    (results fn tmps).run P W = .ok (.tuple #[.agg cs, tmps.getD u undef, tmps.getD v undef]) W := by
  have := run_loadVar_row (P := P) W b ty ty cs (0, 0) _ hb hu rfl hi
  rw [Array.getD_eq_getD_getElem?] at hp
  simp [results, h, hp, asAddr, this]
theorem keepR {W : World} {R I i : Nat} {v : Value} (h : R ≠ I) : (W.setCell ⟨I, i, none⟩ v).heap[R]? = W.heap[R]? := Below.heap_setCell _ _ _ _ h
theorem i6_all {v0 v1 v2 v3 v4 v5 : Value} (h0 : v0.oneCell' = true) (h1 : v1.oneCell' = true) (h2 : v2.oneCell' = true) (h3 : v3.oneCell' = true) (h4 : v4.oneCell' = true) (h5 : v5.oneCell' = true) : (#[v0, v1, v2, v3, v4, v5] : Array Value).all (·.oneCell') = true :=
  Array.all_eq_true_iff_forall_mem.2 (fun v hv => by simp at hv; rcases hv with rfl | rfl | rfl | rfl | rfl | rfl <;> assumption)
theorem set6 {W : World} {R : Nat} {a0 a1 a2 a3 a4 a5 : Value} {t : TypeId} (h : W.heap[R]? = some (.cells #[a0, a1, a2, a3, a4, a5] t)) (v0 v1 v2 v3 v4 v5 : Value) :
    ((((((W.setCell ⟨R, 0, none⟩ v0).setCell ⟨R, 1, none⟩ v1).setCell ⟨R, 2, none⟩ v2).setCell ⟨R, 3, none⟩ v3).setCell ⟨R, 4, none⟩ v4).setCell ⟨R, 5, none⟩ v5).heap[R]? = some (.cells #[v0, v1, v2, v3, v4, v5] t) := by
  have := blk_set (i := 5) v5 (blk_set (i := 4) v4 (blk_set (i := 3) v3 (blk_set (i := 2) v2 (blk_set (i := 1) v1 (blk_set (i := 0) v0 h)))))
  simpa using this
theorem below6 {B : Nat} {w W : World} {R : Nat} (h : Below B w W) (hR : B ≤ R) (v0 v1 v2 v3 v4 v5 : Value) :
    Below B w ((((((W.setCell ⟨R, 0, none⟩ v0).setCell ⟨R, 1, none⟩ v1).setCell ⟨R, 2, none⟩ v2).setCell ⟨R, 3, none⟩ v3).setCell ⟨R, 4, none⟩ v4).setCell ⟨R, 5, none⟩ v5) :=
  (((((h.setCell (p := ⟨R, 0, none⟩) hR v0).setCell (p := ⟨R, 1, none⟩) hR v1).setCell (p := ⟨R, 2, none⟩) hR v2).setCell (p := ⟨R, 3, none⟩) hR v3).setCell (p := ⟨R, 4, none⟩) hR v4).setCell (p := ⟨R, 5, none⟩) hR v5
def SegPost (e : Ending) : Prop := ∃ v0 v1 v2 v3 v4 v5, ∃ at_ er : Int, e = .returned (.tuple #[.agg #[v0, v1, v2, v3, v4, v5], .int .i64 at_, .int .i64 er]) ∧ v0.oneCell' = true ∧ v1.oneCell' = true ∧ v2.oneCell' = true ∧ v3.oneCell' = true ∧ v4.oneCell' = true ∧ v5.oneCell' = true
set_option maxHeartbeats 4000000 in
theorem readSeg_any (b off cap g c : Nat) (L : List (Nat × Nat)) (zs : List Int) (w : World) (hn : zs.length ≤ 1048576) (hcp : zs.length ≤ cap) (hwf : ∀ z ∈ zs, 0 ≤ z ∧ z ≤ 255) (hr : Reads w (some ⟨b, off, none⟩) zs w.heap.size) (h4 : L.length = 4) (hw : Wfs L) (hown : w.ownsRow 0 47 2 (.slice (some ⟨g, 0, none⟩) 4 c) 4 (sv L)) (hg : Sg w) :
    Calls Tryd.prog 28 #[.slice (some ⟨b, off, none⟩) zs.length cap, .slice (some ⟨g, 0, none⟩) 4 c] w fun e w' => SegPost e ∧ Below w.heap.size w w' := by
  have hgl := (hown.lt g rfl).2
  have hcs : ∀ W, Below w.heap.size w W → ∀ k, k < 4 → W.cell? ⟨g, k * 2, none⟩ = some (.int .u32 (L.getD k (0, 0)).1) ∧ W.cell? ⟨g, k * 2 + 1, none⟩ = some (.int .u32 (L.getD k (0, 0)).2) := fun W hW k hk => by
    obtain ⟨e0, e1⟩ := sv_get L k (by omega)
    have x0 := hown.cells (g := g) rfl _ _ e0
    have x1 := hown.cells (g := g) rfl _ _ e1
    rw [add_plain, Nat.zero_add] at x0 x1
    exact ⟨(hW.cell (p := ⟨g, k * 2, none⟩) hgl).trans x0, (hW.cell (p := ⟨g, k * 2 + 1, none⟩) hgl).trans x1⟩
  have HCS := hidS hcs
  have hwk := fun k (hk : k < 4) => hw _ (getD_memS (L := L) (k := k) (by omega))
  have HC := hidS (fun W (hW : Below w.heap.size w W) => readCode_any b off cap zs (L.getD 0 (0, 0)) W hn hcp hwf (hwk 0 (by decide)) ((hr.below hW).mono hW.size))
  have HJ := hidS (fun W (hW : Below w.heap.size w W) => readJumps_any b off cap zs (L.getD 1 (0, 0)) W hn hcp hwf (hwk 1 (by decide)) ((hr.below hW).mono hW.size))
  have HD := hidS (fun W (hW : Below w.heap.size w W) => bytesOf_any b off cap zs (L.getD 2 (0, 0)) W hn hcp (hwk 2 (by decide)) ((hr.below hW).mono hW.size))
  have HN := hidS (fun W (hW : Below w.heap.size w W) => readNames_any b off cap zs (L.getD 3 (0, 0)) W hn hcp hwf (hwk 3 (by decide)) ((hr.below hW).mono hW.size))
  have HWd := hidS (fun W (hW : Below w.heap.size w W) (at_ : Int) (t0 : -9223372036854775808 ≤ at_) (t1 : at_ ≤ 9223372036854775807) => wordAt_any (some ⟨b, off, none⟩) cap zs at_ W (by omega) hcp hwf ((hr.below hW).mono hW.size) t0 t1)
  have HG := hidS hg
  have hcl := cutV_len zs (L.getD 2 (0, 0))
  have hrg48 := atv_range 4 zs 48 hwf
  have hrg52 := atv_range 4 zs 52 hwf
  have HR48 := hidS hrg48
  have HR52 := hidS hrg52
  obtain ⟨p0, hp0⟩ : ∃ p0, L.getD 0 (0, 0) = p0 := ⟨_, rfl⟩
  obtain ⟨p1, hp1⟩ : ∃ p1, L.getD 1 (0, 0) = p1 := ⟨_, rfl⟩
  obtain ⟨p2, hp2⟩ : ∃ p2, L.getD 2 (0, 0) = p2 := ⟨_, rfl⟩
  obtain ⟨p3, hp3⟩ : ∃ p3, L.getD 3 (0, 0) = p3 := ⟨_, rfl⟩
  have hcs0 : ∀ W, Below w.heap.size w W → W.cell? ⟨g, 0, none⟩ = some (.int .u32 p0.1) ∧ W.cell? ⟨g, 1, none⟩ = some (.int .u32 p0.2) ∧ W.cell? ⟨g, 2, none⟩ = some (.int .u32 p1.1) ∧ W.cell? ⟨g, 3, none⟩ = some (.int .u32 p1.2) ∧ W.cell? ⟨g, 4, none⟩ = some (.int .u32 p2.1) ∧ W.cell? ⟨g, 5, none⟩ = some (.int .u32 p2.2) ∧ W.cell? ⟨g, 6, none⟩ = some (.int .u32 p3.1) ∧ W.cell? ⟨g, 7, none⟩ = some (.int .u32 p3.2) := fun W hW => by
    obtain ⟨a0, a1⟩ := HCS.out W hW 0 (by decide)
    obtain ⟨a2, a3⟩ := HCS.out W hW 1 (by decide)
    obtain ⟨a4, a5⟩ := HCS.out W hW 2 (by decide)
    obtain ⟨a6, a7⟩ := HCS.out W hW 3 (by decide)
    rw [hp0] at a0 a1; rw [hp1] at a2 a3; rw [hp2] at a4 a5; rw [hp3] at a6 a7
    exact ⟨a0, a1, a2, a3, a4, a5, a6, a7⟩
  rw [hp0] at HC; rw [hp1] at HJ; rw [hp2] at HD hcl; rw [hp3] at HN
  have HS := hidS hcs0
  clear hcs hcs0 hwk hwf hr hown hw hg HCS hp0 hp1 hp2 hp3 hrg48 hrg52
  obtain ⟨W0, hW0⟩ : ∃ W0, (w.alloc (.cells #[.slice none 0 0, .slice none 0 0, .slice none 0 0, .int .u32 0, .int .u32 0, .slice none 0 0] 28)).alloc (.cells #[.slice none 0 0, .slice none 0 0, .slice none 0 0, .int .u32 0, .int .u32 0, .slice none 0 0] 28) = W0 := ⟨_, rfl⟩
  have hsz0 : W0.heap.size = w.heap.size + 2 := by rw [← hW0]; simp
  have bW0 : Below w.heap.size w W0 := by rw [← hW0]; exact belS (belS (Below.refl _ _))
  have hR0 : W0.heap[w.heap.size]? = some (.cells #[.slice none 0 0, .slice none 0 0, .slice none 0 0, .int .u32 0, .int .u32 0, .slice none 0 0] 28) := by
    rw [← hW0, Below.heap_alloc _ _ _ (by simp)]; exact heap_alloc_last w _
  have hI0 : W0.heap[w.heap.size + 1]? = some (.cells #[.slice none 0 0, .slice none 0 0, .slice none 0 0, .int .u32 0, .int .u32 0, .slice none 0 0] 28) := by
    have := heap_alloc_last (w.alloc (.cells #[.slice none 0 0, .slice none 0 0, .slice none 0 0, .int .u32 0, .int .u32 0, .slice none 0 0] 28)) (.cells #[.slice none 0 0, .slice none 0 0, .slice none 0 0, .int .u32 0, .int .u32 0, .slice none 0 0] 28)
    rw [hW0] at this
    simpa using this
  obtain ⟨a0, a1, a2, a3, a4, a5, a6, a7⟩ := HS.out W0 bW0
  go_enter Tryd.func28, Tryd.ntmps28
  go_wp2_with fail
  with_reducible refine (HC.out W0 bW0).mono ?_
  rintro e W1 ⟨⟨v0, at1, er1, rfl, q0, n0, k0, rfl⟩, b1⟩
  have B1 := btS bW0 b1
  have hR1 := (b1.block w.heap.size (by omega)).trans hR0
  have hI1 := (b1.block (w.heap.size + 1) (by omega)).trans hI0
  have hs1 := b1.size
  clear a0 a1 a2 a3 a4 a5 a6 a7 hR0 hI0 b1 bW0 hW0
  obtain ⟨a0, a1, a2, a3, a4, a5, a6, a7⟩ := HS.out W1 B1
  have i0 := blk_cell hI1 (i := 0) rfl
  have i1 := blk_cell hI1 (i := 1) rfl
  have i2 := blk_cell hI1 (i := 2) rfl
  have i3 := blk_cell hI1 (i := 3) rfl
  have i4 := blk_cell hI1 (i := 4) rfl
  have i5 := blk_cell hI1 (i := 5) rfl
  have f0 := blk_frozen hI1 (i := 0)
  have BI1 := B1.setCell (p := ⟨w.heap.size + 1, 0, none⟩) (by show w.heap.size ≤ w.heap.size + 1; omega) (.slice q0 n0 k0)
  have hRx := (keepR (W := W1) (R := w.heap.size) (I := w.heap.size + 1) (i := 0) (v := .slice q0 n0 k0) (by omega)).trans hR1
  by_cases he1 : er1 = 0
  · subst he1
    have hIx := blk_set (i := 0) (.slice q0 n0 k0) hI1
    have hsx : (W1.setCell ⟨w.heap.size + 1, 0, none⟩ (.slice q0 n0 k0)).heap.size = W1.heap.size := by rw [World.size_setCell]
    have hJ := HJ.out _ BI1
    obtain ⟨x0, x1, x2, x3, x4, x5, x6, x7⟩ := HS.out _ BI1
    go_wp2_with fail
    with_reducible refine hJ.mono ?_
    rintro e W2 ⟨⟨v1, er2, rfl, q1, n1, k1, rfl⟩, b2⟩
    have B2 := btS BI1 b2
    have hR2 := (b2.block w.heap.size (by omega)).trans hRx
    have hI2 := (b2.block (w.heap.size + 1) (by omega)).trans hIx
    have hs2 := b2.size
    clear i0 i1 i2 i3 i4 i5 f0 a0 a1 a2 a3 a4 a5 a6 a7 x0 x1 x2 x3 x4 x5 x6 x7 hJ b2 hRx hIx hR1 hI1
    simp only [List.setIfInBounds_toArray, List.set_cons_zero] at hI2
    have i0 := blk_cell hI2 (i := 0) rfl
    have i1 := blk_cell hI2 (i := 1) rfl
    have i2 := blk_cell hI2 (i := 2) rfl
    have i3 := blk_cell hI2 (i := 3) rfl
    have i4 := blk_cell hI2 (i := 4) rfl
    have i5 := blk_cell hI2 (i := 5) rfl
    have f1 := blk_frozen hI2 (i := 1)
    have BI2 := B2.setCell (p := ⟨w.heap.size + 1, 1, none⟩) (by show w.heap.size ≤ w.heap.size + 1; omega) (.slice q1 n1 k1)
    have hRx := (keepR (W := W2) (R := w.heap.size) (I := w.heap.size + 1) (i := 1) (v := .slice q1 n1 k1) (by omega)).trans hR2
    obtain ⟨_, y0, y1, y2, y3⟩ := HG.out.below BI2
    by_cases he2 : er2 = 0
    · subst he2
      have hIx := blk_set (i := 1) (.slice q1 n1 k1) hI2
      have hsx2 : (W2.setCell ⟨w.heap.size + 1, 1, none⟩ (.slice q1 n1 k1)).heap.size = W2.heap.size := by rw [World.size_setCell]
      have hD := HD.out _ BI2
      obtain ⟨x0, x1, x2, x3, x4, x5, x6, x7⟩ := HS.out _ BI2
      go_wp2_with fail
      with_reducible refine hD.mono ?_
      rintro e W3 ⟨a3, k3, rfl, _, _, _, b3⟩
      have B3 := btS BI2 b3
      have hR3 := (b3.block w.heap.size (by omega)).trans hRx
      have hI3 := (b3.block (w.heap.size + 1) (by omega)).trans hIx
      have hs3 := b3.size
      clear i0 i1 i2 i3 i4 i5 f1 x0 x1 x2 x3 x4 x5 x6 x7 hD b3 hRx hIx hR2 hI2 y0 y1 y2 y3 B1 B2 BI1
      simp only [List.setIfInBounds_toArray, List.set_cons_succ, List.set_cons_zero] at hI3
      generalize (cutV zs p2).length = n3 at *
      have i0 := blk_cell hI3 (i := 0) rfl
      have i1 := blk_cell hI3 (i := 1) rfl
      have i2 := blk_cell hI3 (i := 2) rfl
      have i3 := blk_cell hI3 (i := 3) rfl
      have i4 := blk_cell hI3 (i := 4) rfl
      have i5 := blk_cell hI3 (i := 5) rfl
      have f2 := blk_frozen hI3 (i := 2)
      have BI3 := B3.setCell (p := ⟨w.heap.size + 1, 2, none⟩) (by show w.heap.size ≤ w.heap.size + 1; omega) (.slice a3 n3 k3)
      obtain ⟨z48, hz48⟩ : ∃ z48 : Nat, atv 4 zs 48 = z48 := ⟨(atv 4 zs 48).toNat, by have := HR48.out; omega⟩
      obtain ⟨z52, hz52⟩ : ∃ z52 : Nat, atv 4 zs 52 = z52 := ⟨(atv 4 zs 52).toNat, by have := HR52.out; omega⟩
      have hWd := HWd.out _ BI3 48 (by decide) (by decide)
      rw [hz48] at hWd
      have hb48 : z48 < 4294967296 := by have := HR48.out; rw [hz48] at this; omega
      have hb52 : z52 < 4294967296 := by have := HR52.out; rw [hz52] at this; omega
      have HB48 := hidS hb48
      have HB52 := hidS hb52
      have HZ52 := hidS hz52
      have hI4 := blk_set (i := 2) (.slice a3 n3 k3) hI3
      have hR4 := (keepR (W := W3) (R := w.heap.size) (I := w.heap.size + 1) (i := 2) (v := .slice a3 n3 k3) (by omega)).trans hR3
      have hs4 : (W3.setCell ⟨w.heap.size + 1, 2, none⟩ (.slice a3 n3 k3)).heap.size = W3.heap.size := by rw [World.size_setCell]
      simp only [List.setIfInBounds_toArray, List.set_cons_succ, List.set_cons_zero] at hI4
      clear hz48 hz52 hb48 hb52
      go_wp2_with fail
      with_reducible refine hWd.mono ?_
      rintro e wq ⟨rfl, hq⟩
      subst wq
      clear i0 i1 i2 i3 i4 i5 f2 hI3 hR3 hWd
      generalize W3.setCell ⟨w.heap.size + 1, 2, none⟩ (.slice a3 n3 k3) = W4 at *
      have i3 := blk_cell hI4 (i := 3) rfl
      have f3 := blk_frozen hI4 (i := 3)
      have BI4 := BI3.setCell (p := ⟨w.heap.size + 1, 3, none⟩) (by show w.heap.size ≤ w.heap.size + 1; omega) (.int .u32 (z48 : Int))
      have hWd := HWd.out _ BI4 52 (by decide) (by decide)
      rw [HZ52.out] at hWd
      have hI5 := blk_set (i := 3) (.int .u32 (z48 : Int)) hI4
      have hR5 := (keepR (W := W4) (R := w.heap.size) (I := w.heap.size + 1) (i := 3) (v := .int .u32 (z48 : Int)) (by omega)).trans hR4
      have hs5 : (W4.setCell ⟨w.heap.size + 1, 3, none⟩ (.int .u32 (z48 : Int))).heap.size = W4.heap.size := by rw [World.size_setCell]
      simp only [List.setIfInBounds_toArray, List.set_cons_succ, List.set_cons_zero] at hI5
      go_wp2_with fail
      with_reducible refine hWd.mono ?_
      rintro e wq ⟨rfl, hq⟩
      subst wq
      clear i3 f3 hI4 hR4 hWd BI3
      generalize W4.setCell ⟨w.heap.size + 1, 3, none⟩ (.int .u32 (z48 : Int)) = W5 at *
      have i4 := blk_cell hI5 (i := 4) rfl
      have f4 := blk_frozen hI5 (i := 4)
      have BI5 := BI4.setCell (p := ⟨w.heap.size + 1, 4, none⟩) (by show w.heap.size ≤ w.heap.size + 1; omega) (.int .u32 (z52 : Int))
      have hI6 := blk_set (i := 4) (.int .u32 (z52 : Int)) hI5
      have hR6 := (keepR (W := W5) (R := w.heap.size) (I := w.heap.size + 1) (i := 4) (v := .int .u32 (z52 : Int)) (by omega)).trans hR5
      have hs6 : (W5.setCell ⟨w.heap.size + 1, 4, none⟩ (.int .u32 (z52 : Int))).heap.size = W5.heap.size := by rw [World.size_setCell]
      simp only [List.setIfInBounds_toArray, List.set_cons_succ, List.set_cons_zero] at hI6
      have hSt := stackMayBe_any z52 (W5.setCell ⟨w.heap.size + 1, 4, none⟩ (.int .u32 (z52 : Int)))
      go_wp2_with fail
      with_reducible refine hSt.mono ?_
      rintro e W7 ⟨⟨r, rfl⟩, b7⟩
      have B7 := btS BI5 b7
      have hR7 := (b7.block w.heap.size (by omega)).trans hR6
      have hI7 := (b7.block (w.heap.size + 1) (by omega)).trans hI6
      have hs7 := b7.size
      clear i4 f4 hI5 hI6 hR5 hR6 hSt BI4 BI5 b7
      have i0 := blk_cell hI7 (i := 0) rfl
      have i1 := blk_cell hI7 (i := 1) rfl
      have i2 := blk_cell hI7 (i := 2) rfl
      have i3 := blk_cell hI7 (i := 3) rfl
      have i4 := blk_cell hI7 (i := 4) rfl
      have i5 := blk_cell hI7 (i := 5) rfl
      cases r
      · go_wp2_with (refine wpList_store_row rfl _ _ _ rfl w.heap.size _ #[.slice q0 n0 k0, .slice q1 n1 k1, .slice a3 n3 k3, .int .u32 (z48 : Int), .int .u32 (z52 : Int), .slice none 0 0] rfl rfl hR7 (by rw [infoI6]; rfl) rfl (i6_all rfl rfl rfl rfl rfl rfl) ?_)
        obtain ⟨fs, hu⟩ := undI6
        refine bodyPost_ret (res_cell3 (p := 4) (u := 5) (v := 6) (ty := 28) (by kernel_rfl) _ _ _ w.heap.size #[.slice q0 n0 k0, .slice q1 n1 k1, .slice a3 n3 k3, .int .u32 (z48 : Int), .int .u32 (z52 : Int), .slice none 0 0] (setRow_heap _ w.heap.size _ _ _ _ hR7) hu (by rw [infoI6]; rfl) rfl) rfl ?_
        exact ⟨⟨_, _, _, _, _, _, _, _, rfl, rfl, rfl, rfl, rfl, rfl, rfl⟩, below_setRow B7 (Nat.le_refl _) _⟩
      · have hRm := room_any (.slice q0 n0 k0) (.slice q1 n1 k1) (.slice none 0 0) a3 n3 k3 z48 z52 W7 rfl rfl rfl (by omega) HB48.out HB52.out
        go_wp2_with fail
        with_reducible refine hRm.mono ?_
        rintro e W8 ⟨rfl, b8⟩
        have B8 := btS B7 b8
        have hR8 := (b8.block w.heap.size (by omega)).trans hR7
        have hI8 := (b8.block (w.heap.size + 1) (by omega)).trans hI7
        have hs8 := b8.size
        clear i0 i1 i2 i3 i4 i5 hI7 hR7 hRm B7 b8
        have i0 := blk_cell hI8 (i := 0) rfl
        have i1 := blk_cell hI8 (i := 1) rfl
        have i2 := blk_cell hI8 (i := 2) rfl
        have i3 := blk_cell hI8 (i := 3) rfl
        have i4 := blk_cell hI8 (i := 4) rfl
        have i5 := blk_cell hI8 (i := 5) rfl
        obtain ⟨tot, htot⟩ : ∃ tot : Nat, (n3 : Int) + (z48 : Int) + (z52 : Int) = tot := ⟨n3 + z48 + z52, by push_cast; rfl⟩
        rw [htot]
        clear htot
        by_cases hbig : 65536 < tot
        · have hbigI : (65536 : Int) < (tot : Int) := by omega
          go_wp2_with (refine wpList_store_row rfl _ _ _ rfl w.heap.size _ #[.slice q0 n0 k0, .slice q1 n1 k1, .slice a3 n3 k3, .int .u32 (z48 : Int), .int .u32 (z52 : Int), .slice none 0 0] rfl rfl hR8 (by rw [infoI6]; rfl) rfl (i6_all rfl rfl rfl rfl rfl rfl) ?_)
          obtain ⟨fs, hu⟩ := undI6
          refine bodyPost_ret (res_cell3 (p := 4) (u := 5) (v := 6) (ty := 28) (by kernel_rfl) _ _ _ w.heap.size #[.slice q0 n0 k0, .slice q1 n1 k1, .slice a3 n3 k3, .int .u32 (z48 : Int), .int .u32 (z52 : Int), .slice none 0 0] (setRow_heap _ w.heap.size _ _ _ _ hR8) hu (by rw [infoI6]; rfl) rfl) rfl ?_
          exact ⟨⟨_, _, _, _, _, _, _, _, rfl, rfl, rfl, rfl, rfl, rfl, rfl⟩, below_setRow B8 (Nat.le_refl _) _⟩
        · have hbigI : ¬ (65536 : Int) < (tot : Int) := by omega
          obtain ⟨x0, x1, x2, x3, x4, x5, x6, x7⟩ := HS.out _ B8
          have hNm := HN.out W8 B8
          go_wp2_with fail
          with_reducible refine hNm.mono ?_
          rintro e W9 ⟨⟨v5, at9, er9, rfl, q5, n5, k5, rfl⟩, b9⟩
          have B9 := btS B8 b9
          have hR9 := (b9.block w.heap.size (by omega)).trans hR8
          have hI9 := (b9.block (w.heap.size + 1) (by omega)).trans hI8
          clear i0 i1 i2 i3 i4 i5 hI8 hR8 hNm x0 x1 x2 x3 x4 x5 x6 x7 b9
          have i0 := blk_cell hI9 (i := 0) rfl
          have i1 := blk_cell hI9 (i := 1) rfl
          have i2 := blk_cell hI9 (i := 2) rfl
          have i3 := blk_cell hI9 (i := 3) rfl
          have i4 := blk_cell hI9 (i := 4) rfl
          have i5 := blk_cell hI9 (i := 5) rfl
          have f5 := blk_frozen hI9 (i := 5)
          have BI9 := B9.setCell (p := ⟨w.heap.size + 1, 5, none⟩) (by show w.heap.size ≤ w.heap.size + 1; omega) (.slice q5 n5 k5)
          have hRx := (keepR (W := W9) (R := w.heap.size) (I := w.heap.size + 1) (i := 5) (v := .slice q5 n5 k5) (by omega)).trans hR9
          go_wp2_with (refine wpList_store_row rfl _ _ _ rfl w.heap.size _ #[.slice q0 n0 k0, .slice q1 n1 k1, .slice a3 n3 k3, .int .u32 (z48 : Int), .int .u32 (z52 : Int), .slice q5 n5 k5] rfl rfl hRx (by rw [infoI6]; rfl) rfl (i6_all rfl rfl rfl rfl rfl rfl) ?_)
          obtain ⟨fs, hu⟩ := undI6
          refine bodyPost_ret (res_cell3 (p := 4) (u := 5) (v := 6) (ty := 28) (by kernel_rfl) _ _ _ w.heap.size #[.slice q0 n0 k0, .slice q1 n1 k1, .slice a3 n3 k3, .int .u32 (z48 : Int), .int .u32 (z52 : Int), .slice q5 n5 k5] (setRow_heap _ w.heap.size _ _ _ _ hRx) hu (by rw [infoI6]; rfl) rfl) rfl ?_
          exact ⟨⟨_, _, _, _, _, _, _, _, rfl, rfl, rfl, rfl, rfl, rfl, rfl⟩, below_setRow BI9 (Nat.le_refl _) _⟩
    · have he2' : (er2 == 0) = false := by rw [beq_eq_false_iff_ne]; exact he2
      have r0 := blk_cell hRx (i := 0) rfl
      have r1 := blk_cell hRx (i := 1) rfl
      have r2 := blk_cell hRx (i := 2) rfl
      have r3 := blk_cell hRx (i := 3) rfl
      have r4 := blk_cell hRx (i := 4) rfl
      have r5 := blk_cell hRx (i := 5) rfl
      have g0 := blk_frozen hRx (i := 0)
      have g1 := blk_frozen hRx (i := 1)
      have g2 := blk_frozen hRx (i := 2)
      have g3 := blk_frozen hRx (i := 3)
      have g4 := blk_frozen hRx (i := 4)
      have g5 := blk_frozen hRx (i := 5)
      go_wp2_with fail
      have hIx := blk_set (i := 1) (.slice q1 n1 k1) hI2
      have z0 := blk_cell hIx (i := 0) rfl
      have z1 := blk_cell hIx (i := 1) rfl
      have z2 := blk_cell hIx (i := 2) rfl
      have z3 := blk_cell hIx (i := 3) rfl
      have z4 := blk_cell hIx (i := 4) rfl
      have z5 := blk_cell hIx (i := 5) rfl
      clear i0 i1 i2 i3 i4 i5 f1
      generalize W2.setCell ⟨w.heap.size + 1, 1, none⟩ (.slice q1 n1 k1) = W3 at *
      have hfin := set6 hRx (.slice q0 n0 k0) (.slice q1 n1 k1) (.slice none 0 0) (.int .u32 0) (.int .u32 0) (.slice none 0 0)
      have bfin := below6 BI2 (Nat.le_refl _) (R := w.heap.size) (.slice q0 n0 k0) (.slice q1 n1 k1) (.slice none 0 0) (.int .u32 0) (.int .u32 0) (.slice none 0 0)
      have HFI := hidS hfin
      have HBF := hidS bfin
      clear hfin bfin
      go_region
      generalize (((((W3.setCell ⟨w.heap.size, 0, none⟩ (.slice q0 n0 k0)).setCell ⟨w.heap.size, 1, none⟩ (.slice q1 n1 k1)).setCell ⟨w.heap.size, 2, none⟩ (.slice none 0 0)).setCell ⟨w.heap.size, 3, none⟩ (.int .u32 0)).setCell ⟨w.heap.size, 4, none⟩ (.int .u32 0)).setCell ⟨w.heap.size, 5, none⟩ (.slice none 0 0) = W6 at *
      go_wp2_with fail
      obtain ⟨fs, hu⟩ := undI6
      have hres := fun tmps hp => res_cell3 (fn := Tryd.f28) (p := 4) (u := 5) (v := 6) (ty := 28) (by kernel_rfl) tmps Tryd.prog W6.drew w.heap.size _ HFI.out hu (by rw [infoI6]; rfl) hp
      refine bodyPost_ret (hres _ rfl) rfl ?_
      exact ⟨⟨_, _, _, _, _, _, _, _, rfl, rfl, rfl, rfl, rfl, rfl, rfl⟩, Below.drew HBF.out⟩
  · have he1' : (er1 == 0) = false := by rw [beq_eq_false_iff_ne]; exact he1
    go_wp2_with (refine wpList_store_row rfl _ _ _ rfl w.heap.size _ #[.slice q0 n0 k0, .slice none 0 0, .slice none 0 0, .int .u32 0, .int .u32 0, .slice none 0 0] rfl rfl hRx (by rw [infoI6]; rfl) rfl (i6_all rfl rfl rfl rfl rfl rfl) ?_)
    obtain ⟨fs, hu⟩ := undI6
    refine bodyPost_ret (res_cell3 (p := 4) (u := 5) (v := 6) (ty := 28) (by kernel_rfl) _ _ _ w.heap.size #[.slice q0 n0 k0, .slice none 0 0, .slice none 0 0, .int .u32 0, .int .u32 0, .slice none 0 0] (setRow_heap _ w.heap.size _ _ _ _ hRx) hu (by rw [infoI6]; rfl) rfl) rfl ?_
    exact ⟨⟨_, _, _, _, _, _, _, _, rfl, rfl, rfl, rfl, rfl, rfl, rfl⟩, below_setRow BI1 (Nat.le_refl _) _⟩
end Go.Proofs.YtnplimdcfbgpeaaDoor
namespace Go.Proofs.YtnplimdcfbgpeaaDoor
open Go.RowKit Go.WideShapes Go.Sort Go.Lib
set_option maxRecDepth 100000

set_option maxHeartbeats 1000000 in
theorem header_lo (ao : Option Addr) (n cap : Nat) (w : World) (h : n < 64) :
    Calls Tryd.prog 25 #[.slice ao n cap] w fun e w' => e = .returned (.tuple #[.int .i64 n, .int .i64 80]) ∧ w' = w := by
  have hL := lenF_lo ao n cap w h
  clear h
  go_enter Tryd.func25, Tryd.ntmps25
  go_wp2_with fail
  with_reducible refine hL.mono ?_
  rintro e wq ⟨rfl, hq⟩
  subst wq
  go_wp2_with fail
  refine bodyPost_ret (results_tmp2 rfl _ _ _) rfl ?_
  exact ⟨rfl, rfl⟩
set_option maxHeartbeats 1000000 in
theorem header_hi (ao : Option Addr) (n cap : Nat) (w : World) (h : 1048576 < n) :
    Calls Tryd.prog 25 #[.slice ao n cap] w fun e w' => e = .returned (.tuple #[.int .i64 1048576, .int .i64 80]) ∧ w' = w := by
  have hL := lenF_hi ao n cap w h
  clear h
  go_enter Tryd.func25, Tryd.ntmps25
  go_wp2_with fail
  with_reducible refine hL.mono ?_
  rintro e wq ⟨rfl, hq⟩
  subst wq
  go_wp2_with fail
  refine bodyPost_ret (results_tmp2 rfl _ _ _) rfl ?_
  exact ⟨rfl, rfl⟩
def ParPost (zs : List Int) (e : Ending) : Prop := ∃ v0 v1 v2 v3 v4 v5, ∃ at_ er : Int, e = .returned (.tuple #[.agg #[v0, v1, v2, v3, v4, v5], .int .i64 at_, .int .i64 er]) ∧ (#[v0, v1, v2, v3, v4, v5] : Array Value).all (·.oneCell') = true ∧ (er = 0 → 64 ≤ zs.length ∧ zs.length ≤ 1048576 ∧ atv 4 zs 8 = sumV zs)
set_option maxHeartbeats 2000000 in
/-- where the header is at fault already -/
theorem parse_bad (ao : Option Addr) (n cap : Nat) (w : World) (at_ er : Int) (her : ¬ er = 0) (hH : ∀ W, Below w.heap.size w W → Calls Tryd.prog 25 #[.slice ao n cap] W fun e w' => e = .returned (.tuple #[.int .i64 at_, .int .i64 er]) ∧ Below W.heap.size W w') :
    Calls Tryd.prog 11 #[.slice ao n cap] w fun e w' => e = .returned (.tuple #[.agg #[.slice none 0 0, .slice none 0 0, .slice none 0 0, .int .u32 0, .int .u32 0, .slice none 0 0], .int .i64 at_, .int .i64 er]) ∧ Below w.heap.size w w' := by
  have her' : (er == 0) = false := by rw [beq_eq_false_iff_ne]; exact her
  have bR : Below w.heap.size w (w.alloc (.cells #[.slice none 0 0, .slice none 0 0, .slice none 0 0, .int .u32 0, .int .u32 0, .slice none 0 0] 28)) := belS (Below.refl _ _)
  have h1 := hH _ bR
  have hR := heap_alloc_last w (.cells #[.slice none 0 0, .slice none 0 0, .slice none 0 0, .int .u32 0, .int .u32 0, .slice none 0 0] 28)
  clear hH
  go_enter Tryd.func11, Tryd.ntmps11
  go_wp2_with fail
  with_reducible refine h1.mono ?_
  rintro e W1 ⟨rfl, b1⟩
  have B1 := btS bR b1
  have hR1 := (b1.block w.heap.size (by simp)).trans hR
  clear h1 hR b1
  go_wp2_with (refine wpList_store_row rfl _ _ _ rfl w.heap.size _ #[.slice none 0 0, .slice none 0 0, .slice none 0 0, .int .u32 0, .int .u32 0, .slice none 0 0] rfl rfl hR1 (by rw [infoI6]; rfl) rfl (i6_all rfl rfl rfl rfl rfl rfl) ?_)
  obtain ⟨fs, hu⟩ := undI6
  refine bodyPost_ret (res_cell3 (p := 2) (u := 3) (v := 4) (ty := 28) (by kernel_rfl) _ _ _ w.heap.size #[.slice none 0 0, .slice none 0 0, .slice none 0 0, .int .u32 0, .int .u32 0, .slice none 0 0] (setRow_heap _ w.heap.size _ _ _ _ hR1) hu (by rw [infoI6]; rfl) rfl) rfl ?_
  exact ⟨rfl, below_setRow B1 (Nat.le_refl _) _⟩
set_option maxHeartbeats 2000000 in
theorem parse_mid (b off cap : Nat) (zs : List Int) (w : World) (hn : zs.length ≤ 1048576) (h64 : 64 ≤ zs.length) (hcp : zs.length ≤ cap) (hwf : ∀ z ∈ zs, 0 ≤ z ∧ z ≤ 255) (hr : Reads w (some ⟨b, off, none⟩) zs w.heap.size) (hg : Sg w) :
    Calls Tryd.prog 11 #[.slice (some ⟨b, off, none⟩) zs.length cap] w fun e w' => ParPost zs e ∧ Below w.heap.size w w' := by
  have bR : Below w.heap.size w (w.alloc (.cells #[.slice none 0 0, .slice none 0 0, .slice none 0 0, .int .u32 0, .int .u32 0, .slice none 0 0] 28)) := belS (Below.refl _ _)
  have hR := heap_alloc_last w (.cells #[.slice none 0 0, .slice none 0 0, .slice none 0 0, .int .u32 0, .int .u32 0, .slice none 0 0] 28)
  have h1 := header_any b off cap zs (w.alloc (.cells #[.slice none 0 0, .slice none 0 0, .slice none 0 0, .int .u32 0, .int .u32 0, .slice none 0 0] 28)) hn h64 hcp hwf ((hr.below bR).mono bR.size)
  have HWF := hidS hwf
  have HR := hidS hr
  have HG := hidS hg
  clear hwf hr hg
  go_enter Tryd.func11, Tryd.ntmps11
  go_wp2_with fail
  with_reducible refine h1.mono ?_
  rintro e W1 ⟨⟨at1, er1, rfl, hok⟩, b1⟩
  have B1 := btS bR b1
  have hR1 := (b1.block w.heap.size (by simp)).trans hR
  have hs1 := b1.size
  have HOK := hidS hok
  have hsA : (w.alloc (.cells #[.slice none 0 0, .slice none 0 0, .slice none 0 0, .int .u32 0, .int .u32 0, .slice none 0 0] 28)).heap.size = w.heap.size + 1 := by simp
  clear h1 hR b1 hok
  by_cases he1 : er1 = 0
  · subst he1
    have hOK2 := hidS (HOK.out rfl)
    have hS := spansOf_any (some ⟨b, off, none⟩) cap zs W1 hn hcp HWF.out ((HR.out.below B1).mono B1.size) (HG.out.below B1) (fun a => (atv_range 4 zs a HWF.out).1)
    go_wp2_with fail
    with_reducible refine hS.mono ?_
    rintro e W2 ⟨v2, rfl, own2, b2⟩
    have B2 := btS B1 b2
    have hR2 := (b2.block w.heap.size (by omega)).trans hR1
    have hs2 := b2.size
    obtain ⟨g2, c2, rfl, _⟩ := own_form own2 (by decide)
    have hw32 : IntKind.u32.wrap (zs.length : Int) = (zs.length : Int) := by rw [IntKind.wrap_u32]; omega
    have hF := spansFault_any (some ⟨g2, 0, none⟩) c2 (spL zs) zs.length W2 (spF_len zs 4) (spL_wf zs HWF.out) (by omega) (HG.out.below B2) (own_lowM own2 (Nat.zero_le _))
    clear hS hR1 b2
    go_wp2_with fail
    with_reducible refine hF.mono ?_
    rintro e W3 ⟨⟨at3, er3, rfl⟩, b3⟩
    have B3 := btS B2 b3
    have hR3 := (b3.block w.heap.size (by omega)).trans hR2
    have hs3 := b3.size
    have own3 := own_below own2 b3
    clear hF hR2 own2 b3
    by_cases he3 : er3 = 0
    · subst he3
      have hSg := readSeg_any b off cap g2 c2 (spL zs) zs W3 hn hcp HWF.out ((HR.out.below B3).mono B3.size) (spF_len zs 4) (spL_wf zs HWF.out) (own_lowM own3 (Nat.zero_le _)) (HG.out.below B3)
      go_wp2_with fail
      with_reducible refine hSg.mono ?_
      rintro e W4 ⟨⟨v0, v1, v2, v3, v4, v5, at4, er4, rfl, o0, o1, o2, o3, o4, o5⟩, b4⟩
      have B4 := btS B3 b4
      have hR4 := (b4.block w.heap.size (by omega)).trans hR3
      have hA4 := heap_alloc_last W4 (.cells #[.slice none 0 0, .slice none 0 0, .slice none 0 0, .int .u32 0, .int .u32 0, .slice none 0 0] 28)
      have hI5 := setRow_heap (W4.alloc (.cells #[.slice none 0 0, .slice none 0 0, .slice none 0 0, .int .u32 0, .int .u32 0, .slice none 0 0] 28)) W4.heap.size _ #[v0, v1, v2, v3, v4, v5] _ _ hA4
      have b5 : Below W4.heap.size W4 ((W4.alloc (.cells #[.slice none 0 0, .slice none 0 0, .slice none 0 0, .int .u32 0, .int .u32 0, .slice none 0 0] 28)).setRow W4.heap.size #[v0, v1, v2, v3, v4, v5]) := below_setRow (belS (Below.refl _ _)) (Nat.le_refl _) _
      have hs4 := b4.size
      have hR5 := (b5.block w.heap.size (by omega)).trans hR4
      have B5 := btS B4 b5
      have hall := i6_all o0 o1 o2 o3 o4 o5
      have i0 := blk_cell hI5 (i := 0) rfl
      have i1 := blk_cell hI5 (i := 1) rfl
      have i2 := blk_cell hI5 (i := 2) rfl
      have i3 := blk_cell hI5 (i := 3) rfl
      have i4 := blk_cell hI5 (i := 4) rfl
      have i5 := blk_cell hI5 (i := 5) rfl
      have HALL := hidS hall
      clear hSg hR3 own3 b4 hall hI5 o0 o1 o2 o3 o4 o5
      by_cases he4 : er4 = 0
      · subst he4
        go_wp2_with (first | (refine wpList_store_row rfl _ _ _ rfl W4.heap.size _ #[v0, v1, v2, v3, v4, v5] rfl rfl hA4 (by rw [infoI6]; rfl) rfl HALL.out ?_; generalize (W4.alloc (.cells #[.slice none 0 0, .slice none 0 0, .slice none 0 0, .int .u32 0, .int .u32 0, .slice none 0 0] 28)).setRow W4.heap.size #[v0, v1, v2, v3, v4, v5] = W5 at *) | (refine wpList_store_row rfl _ _ _ rfl w.heap.size _ #[v0, v1, v2, v3, v4, v5] rfl rfl hR5 (by rw [infoI6]; rfl) rfl HALL.out ?_))
        obtain ⟨fs, hu⟩ := undI6
        refine bodyPost_ret (res_cell3 (p := 2) (u := 3) (v := 4) (ty := 28) (by kernel_rfl) _ _ _ w.heap.size #[v0, v1, v2, v3, v4, v5] (setRow_heap _ w.heap.size _ _ _ _ hR5) hu (by rw [infoI6]; rfl) rfl) rfl ?_
        exact ⟨⟨_, _, _, _, _, _, _, _, rfl, HALL.out, fun _ => ⟨h64, hn, hOK2.out⟩⟩, below_setRow B5 (Nat.le_refl _) _⟩
      · have he4' : (er4 == 0) = false := by rw [beq_eq_false_iff_ne]; exact he4
        have HE4 := hidS he4
        clear he4
        go_wp2_with (first | (refine wpList_store_row rfl _ _ _ rfl W4.heap.size _ #[v0, v1, v2, v3, v4, v5] rfl rfl hA4 (by rw [infoI6]; rfl) rfl HALL.out ?_; generalize (W4.alloc (.cells #[.slice none 0 0, .slice none 0 0, .slice none 0 0, .int .u32 0, .int .u32 0, .slice none 0 0] 28)).setRow W4.heap.size #[v0, v1, v2, v3, v4, v5] = W5 at *) | (refine wpList_store_row rfl _ _ _ rfl w.heap.size _ #[.slice none 0 0, .slice none 0 0, .slice none 0 0, .int .u32 0, .int .u32 0, .slice none 0 0] rfl rfl hR5 (by rw [infoI6]; rfl) rfl (i6_all rfl rfl rfl rfl rfl rfl) ?_))
        obtain ⟨fs, hu⟩ := undI6
        refine bodyPost_ret (res_cell3 (p := 2) (u := 3) (v := 4) (ty := 28) (by kernel_rfl) _ _ _ w.heap.size #[.slice none 0 0, .slice none 0 0, .slice none 0 0, .int .u32 0, .int .u32 0, .slice none 0 0] (setRow_heap _ w.heap.size _ _ _ _ hR5) hu (by rw [infoI6]; rfl) rfl) rfl ?_
        exact ⟨⟨_, _, _, _, _, _, _, _, rfl, i6_all rfl rfl rfl rfl rfl rfl, fun h => absurd h HE4.out⟩, below_setRow B5 (Nat.le_refl _) _⟩
    · have he3' : (er3 == 0) = false := by rw [beq_eq_false_iff_ne]; exact he3
      have HE3 := hidS he3
      clear he3
      go_wp2_with (refine wpList_store_row rfl _ _ _ rfl w.heap.size _ #[.slice none 0 0, .slice none 0 0, .slice none 0 0, .int .u32 0, .int .u32 0, .slice none 0 0] rfl rfl hR3 (by rw [infoI6]; rfl) rfl (i6_all rfl rfl rfl rfl rfl rfl) ?_)
      obtain ⟨fs, hu⟩ := undI6
      refine bodyPost_ret (res_cell3 (p := 2) (u := 3) (v := 4) (ty := 28) (by kernel_rfl) _ _ _ w.heap.size #[.slice none 0 0, .slice none 0 0, .slice none 0 0, .int .u32 0, .int .u32 0, .slice none 0 0] (setRow_heap _ w.heap.size _ _ _ _ hR3) hu (by rw [infoI6]; rfl) rfl) rfl ?_
      exact ⟨⟨_, _, _, _, _, _, _, _, rfl, i6_all rfl rfl rfl rfl rfl rfl, fun h => absurd h HE3.out⟩, below_setRow B3 (Nat.le_refl _) _⟩
  · have he1' : (er1 == 0) = false := by rw [beq_eq_false_iff_ne]; exact he1
    have HE1 := hidS he1
    clear he1
    go_wp2_with (refine wpList_store_row rfl _ _ _ rfl w.heap.size _ #[.slice none 0 0, .slice none 0 0, .slice none 0 0, .int .u32 0, .int .u32 0, .slice none 0 0] rfl rfl hR1 (by rw [infoI6]; rfl) rfl (i6_all rfl rfl rfl rfl rfl rfl) ?_)
    obtain ⟨fs, hu⟩ := undI6
    refine bodyPost_ret (res_cell3 (p := 2) (u := 3) (v := 4) (ty := 28) (by kernel_rfl) _ _ _ w.heap.size #[.slice none 0 0, .slice none 0 0, .slice none 0 0, .int .u32 0, .int .u32 0, .slice none 0 0] (setRow_heap _ w.heap.size _ _ _ _ hR1) hu (by rw [infoI6]; rfl) rfl) rfl ?_
    exact ⟨⟨_, _, _, _, _, _, _, _, rfl, i6_all rfl rfl rfl rfl rfl rfl, fun h => absurd h HE1.out⟩, below_setRow B1 (Nat.le_refl _) _⟩
end Go.Proofs.YtnplimdcfbgpeaaDoor
