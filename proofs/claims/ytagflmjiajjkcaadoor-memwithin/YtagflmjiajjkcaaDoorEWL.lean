import Derived.Test.YtagflmjiajjkcaaDoorEWt
namespace Go.Proofs.YtagflmjiajjkcaaDoor
open Go.RowKit Go.WideShapes
set_option maxRecDepth 100000

/-- a step's cells from a place on -/
structure StpAt (w : World) (b o : Nat) (s : Stp) : Prop where
  c0 : w.cell? ⟨b, o, none⟩ = some (.int .u8 s.d)
  c1 : w.cell? ⟨b, o + 1, none⟩ = some (.int .u8 s.a)
  c2 : w.cell? ⟨b, o + 2, none⟩ = some (.int .u8 s.b)
  c3 : w.cell? ⟨b, o + 3, none⟩ = some (.int .u32 s.at_)
  c4 : w.cell? ⟨b, o + 4, none⟩ = some (.int .u32 s.v)
  c5 : w.cell? ⟨b, o + 5, none⟩ = some (.int .i64 s.n)
  c6 : w.cell? ⟨b, o + 6, none⟩ = some (.bool s.on)
  c7 : w.cell? ⟨b, o + 7, none⟩ = some (.slice s.da s.dz.length s.dc)
theorem StpAt.below {B : Nat} {w w' : World} {b o : Nat} {s : Stp} (h : StpAt w b o s) (hb : Below B w w') (hl : b < B) : StpAt w' b o s :=
  ⟨(hb.cell (p := ⟨b, o, none⟩) hl).trans h.c0, (hb.cell (p := ⟨b, o + 1, none⟩) hl).trans h.c1, (hb.cell (p := ⟨b, o + 2, none⟩) hl).trans h.c2, (hb.cell (p := ⟨b, o + 3, none⟩) hl).trans h.c3,
   (hb.cell (p := ⟨b, o + 4, none⟩) hl).trans h.c4, (hb.cell (p := ⟨b, o + 5, none⟩) hl).trans h.c5, (hb.cell (p := ⟨b, o + 6, none⟩) hl).trans h.c6, (hb.cell (p := ⟨b, o + 7, none⟩) hl).trans h.c7⟩
/-- a script that is read -/
def StpsR (w : World) (so : Option Addr) (L : List Stp) (B : Nat) : Prop := ∀ j (hj : j < L.length), ∃ b off, so = some ⟨b, off, none⟩ ∧ b < B ∧ StpAt w b (off + j * 8) L[j] ∧ Reads w L[j].da L[j].dz B
theorem StpsR.below {w w' : World} {so : Option Addr} {L : List Stp} {B : Nat} (h : StpsR w so L B) (hb : Below B w w') : StpsR w' so L B := fun j hj => by
  obtain ⟨b, off, e, hl, h1, h2⟩ := h j hj
  exact ⟨b, off, e, hl, h1.below hb hl, h2.below hb⟩
theorem own_cw {w : World} {B e sz n g c : Nat} {xs : List Value} (h : w.ownsRow B e sz (.slice (some ⟨g, 0, none⟩) n c) n xs) (i : Nat) (v : Value) (hv : xs[i]? = some v) : w.cell? ⟨g, i, none⟩ = some v := by
  have := h.cells (g := g) rfl i v hv
  have hadd : (⟨g, 0, none⟩ : Addr).add i = ⟨g, 0 + i, none⟩ := by unfold Addr.add; split <;> simp_all
  rw [hadd, Nat.zero_add] at this; exact this
theorem tvv_get (ts : List (Int × Bool)) (j : Nat) (h : j < ts.length) : (tvv ts)[j * 2]? = some (.int .u32 ts[j].1) ∧ (tvv ts)[j * 2 + 1]? = some (.bool ts[j].2) := by
  induction ts generalizing j with
  | nil => simp at h
  | cons t ts ih =>
    have e : tvv (t :: ts) = .int .u32 t.1 :: .bool t.2 :: tvv ts := rfl
    rw [e]
    cases j with
    | zero => exact ⟨rfl, rfl⟩
    | succ j =>
      have := ih j (by simpa using h)
      rw [show (j + 1) * 2 = j * 2 + 1 + 1 by omega]
      simpa using this
theorem pat_take (bs bs' : List Int) (ts : List (Int × Bool)) (j : Nat) (h : j < ts.length) : pat bs' bs (ts.take (j + 1)) = if ts[j].2 then (pat bs' bs (ts.take j)).set ts[j].1.toNat (bs'.getD ts[j].1.toNat 0) else pat bs' bs (ts.take j) := by
  rw [List.take_add_one, List.getElem?_eq_getElem h, Option.toList_some, pat_append]
  rfl
theorem bv_set (L : List Int) (p : Nat) (v : Int) : (bv L).set p (.int .u8 v) = bv (L.set p v) := by simp [bv, List.map_set]
set_option maxHeartbeats 4000000 in
theorem memwithin_any (b : Nat) (ao so : Option Addr) (cap sc : Nat) (zs : List Int) (L : List Stp) (w : World) (hT : Tab w) (h1 : 1 < w.heap.size) (hb : b ≤ 255) (hwf : ∀ z ∈ zs, 0 ≤ z ∧ z ≤ 255) (hr : Reads w ao zs w.heap.size)
    (hL : StpsR w so L w.heap.size) (hok : ∀ s ∈ L, StpOk s) (hn : L.length ≤ maxLen) :
    Calls Tryd.prog 6 #[.int .u8 b, .slice ao zs.length cap, .slice so L.length sc] w fun e w' => e = .returned (.bool true) ∧ Below w.heap.size w w' := by
  have hMd : Calls Tryd.prog 9 #[.int .u8 b, .slice ao zs.length cap] w fun e w' => ∃ a bs, e = .returned (.pointer (some ⟨a, 0, none⟩)) ∧ Hid ((∃ ts, SegL w.heap.size false w' a bs ts) ∧ Below w.heap.size w w') := (made_any b ao cap zs w hb hwf hr).mono fun e w' ⟨a, bs, he, h, h2⟩ => ⟨a, bs, he, h.segl, h2⟩
  have hAw : Hid (∀ a bs W, (∃ ts, SegL w.heap.size false W a bs ts) → Below w.heap.size w W → Calls Tryd.prog 8 #[] W fun e w' => e = .returned (.bool true) ∧ Hid ((∃ ts, SegL w.heap.size false w' a bs ts) ∧ Below w.heap.size w w')) := fun a bs W ⟨ts, hS⟩ hbl =>
    (awake_any W (hT.below hbl h1) (by have := hbl.size; omega)).mono fun e w' ⟨he, h⟩ => ⟨he, ⟨ts, hS.below h⟩, hbl.trans (h.mono hbl.size)⟩
  have hBy : Hid (∀ a bs W, (∃ ts, SegL w.heap.size false W a bs ts) → Below w.heap.size w W → Calls Tryd.prog 21 #[.pointer (some ⟨a, 0, none⟩)] W fun e w' => ∃ g c, e = .returned (.slice (some ⟨g, 0, none⟩) bs.length c) ∧ Hid ((∃ ts, SegL w.heap.size false w' a bs ts) ∧ Below w.heap.size w w')) := fun a bs W ⟨ts, hS⟩ hbl =>
    (bytes_l _ a false bs ts W hS).mono fun e w' ⟨g, c, he, _, q1, q2⟩ => ⟨g, c, he, ⟨ts, q1⟩, hbl.trans (q2.mono hbl.size)⟩
  have HL := hidS hL
  have HOK := hidS hok
  have HN := hidS hn
  clear hT h1 hb hwf hr hL hok hn
  go_enter Tryd.func6, Tryd.ntmps6
  go_wp2_with (first
    | (go_at_call 9; with_reducible refine hMd.mono ?_; rintro e w1 ⟨a, bs0, rfl, HQ1⟩)
    | (go_at_call 8; with_reducible refine (hAw.out _ _ _ HQ1.out.1 HQ1.out.2).mono ?_; rintro e w2 ⟨rfl, HQ2⟩)
    | (go_at_call 21; with_reducible refine (hBy.out _ _ _ HQ2.out.1 HQ2.out.2).mono ?_; rintro e w3 ⟨g3, c3, rfl, HQ3⟩)
    | fail)
  clear hMd hAw hBy HQ1 HQ2
  obtain ⟨⟨ts3, hS3⟩, hB3⟩ := HQ3.out
  have HS3 := hidS hS3
  have HB3 := hidS hB3
  have hpb := hS3.len.bd
  clear hS3 hB3
  go_loopw [30] (fun i wr => ∃ (k : Nat) (lg : Bool) (bs : List Int) (ts : List (Int × Bool)), k ≤ L.length ∧ i = .int .i64 k ∧ bs.length = bs0.length ∧ SegL w.heap.size lg wr a bs ts ∧ Below w.heap.size w wr)
    (fun i _ => L.length - (intOf i).toNat)
  case atStart => exact ⟨0, false, bs0, ts3, Nat.zero_le _, rfl, rfl, HS3.out, HB3.out⟩
  case round =>
    obtain ⟨k, lg, bs, ts, hk, rfl, hlen, hS, hbl⟩ := hrel
    have HS := hidS hS
    have HBL := hidS hbl
    clear hS hbl
    by_cases hlt : k < L.length
    · have hltI : (k : Int) < (L.length : Int) := by omega
      have hnI : (L.length : Int) ≤ 9223372036854775807 := by have := HN.out; unfold maxLen at this; omega
      obtain ⟨b1, off, rfl, hb1, hat, hda⟩ := (HL.out.below HBL.out) k hlt
      have HDA := hidS hda
      have HSO := hidS (HOK.out _ (List.getElem_mem hlt))
      clear hda
      generalize L[k] = s at *
      obtain ⟨e0, e1, e2, e3, e4, e5, e6, e7⟩ := hat
      obtain ⟨W0, hW0⟩ : ∃ W0, W0 = wr.alloc (.cells #[.int .u8 s.d, .int .u8 s.a, .int .u8 s.b, .int .u32 s.at_, .int .u32 s.v, .int .i64 s.n, .bool s.on, .slice s.da s.dz.length s.dc] 54) := ⟨_, rfl⟩
      have hA0 : Below wr.heap.size wr W0 := by rw [hW0]; exact (Below.refl _ _).alloc (Nat.le_refl _) _
      have hz0 : W0.heap.size = wr.heap.size + 1 := by rw [hW0]; simp
      have hobj : W0.heap[wr.heap.size]? = some (.cells #[.int .u8 s.d, .int .u8 s.a, .int .u8 s.b, .int .u32 s.at_, .int .u32 s.v, .int .i64 s.n, .bool s.on, .slice s.da s.dz.length s.dc] 54) := by rw [hW0]; exact heap_alloc_new wr _
      have hBw : Below w.heap.size w W0 := HBL.out.trans (hA0.mono HBL.out.size)
      have hBs := HBL.out.size
      have hnew : ∀ (g : Nat) (W : World), wr.heap.size < g → g < W.heap.size → Below w.heap.size w W → ∀ k, W.heap.size ≤ k → (fun k => w.heap.size ≤ k ∧ k ≠ wr.heap.size ∧ k ≠ g) k := fun g W h1 h2 h3 k hk => ⟨by have := h3.size; omega, by omega, by omega⟩
      have hBy : Hid (Calls Tryd.prog 21 #[.pointer (some ⟨a, 0, none⟩)] W0 fun e w' => ∃ g c, e = .returned (.slice (some ⟨g, 0, none⟩) bs0.length c) ∧ Hid (SegF (fun k => w.heap.size ≤ k ∧ k ≠ wr.heap.size ∧ k ≠ g) lg w' a bs ts ∧ w'.ownsRow 0 5 1 (.slice (some ⟨g, 0, none⟩) bs0.length c) bs0.length (bv bs) ∧ w'.heap[wr.heap.size]? = some (.cells #[.int .u8 s.d, .int .u8 s.a, .int .u8 s.b, .int .u32 s.at_, .int .u32 s.v, .int .i64 s.n, .bool s.on, .slice s.da s.dz.length s.dc] 54) ∧ Below w.heap.size w w' ∧ wr.heap.size < g ∧ g < w'.heap.size)) := by
        have hS0 : SegL w.heap.size lg wr a bs ts := HS.out
        have := bytes_lf (fun k => w.heap.size ≤ k ∧ k ≠ wr.heap.size) a lg bs ts W0 (SegF.less hA0 (fun k hk hF => ⟨hF, by omega⟩) hS0)
        rw [hlen] at this
        refine this.mono fun e w' ⟨g, c, he, q1, q2, q3⟩ => ⟨g, c, he, ?_⟩
        have hg := q1.lt g rfl
        refine ⟨?_, own_base q1 (Nat.zero_le _), (q3.block _ (by omega)).trans hobj, hBw.trans (q3.mono hBw.size), by omega, hg.2⟩
        have q4 := SegF.less (G := (fun k => w.heap.size ≤ k ∧ k ≠ wr.heap.size ∧ k ≠ g)) (Below.refl W0.heap.size W0) (fun k hk hF => ⟨hF.1, hF.2, by omega⟩) (SegF.less hA0 (F := fun k => w.heap.size ≤ k) (G := fun k => w.heap.size ≤ k ∧ k ≠ wr.heap.size) (fun k hk hF => ⟨hF, by omega⟩) hS0)
        exact SegF.below q3 q4
      have hLg : Hid (∀ g c W, SegF (fun k => w.heap.size ≤ k ∧ k ≠ wr.heap.size ∧ k ≠ g) lg W a bs ts ∧ W.ownsRow 0 5 1 (.slice (some ⟨g, 0, none⟩) bs0.length c) bs0.length (bv bs) ∧ W.heap[wr.heap.size]? = some (.cells #[.int .u8 s.d, .int .u8 s.a, .int .u8 s.b, .int .u32 s.at_, .int .u32 s.v, .int .i64 s.n, .bool s.on, .slice s.da s.dz.length s.dc] 54) ∧ Below w.heap.size w W ∧ wr.heap.size < g ∧ g < W.heap.size → Calls Tryd.prog 12 #[.pointer (some ⟨a, 0, none⟩), .bool true] W fun e w' => e = .returned (.tuple #[]) ∧ (w'.cell? ⟨wr.heap.size, 0, none⟩ = some (.int .u8 s.d) ∧ w'.cell? ⟨wr.heap.size, 1, none⟩ = some (.int .u8 s.a) ∧ w'.cell? ⟨wr.heap.size, 2, none⟩ = some (.int .u8 s.b) ∧ w'.cell? ⟨wr.heap.size, 3, none⟩ = some (.int .u32 s.at_) ∧ w'.cell? ⟨wr.heap.size, 4, none⟩ = some (.int .u32 s.v) ∧ w'.cell? ⟨wr.heap.size, 5, none⟩ = some (.int .i64 s.n) ∧ w'.cell? ⟨wr.heap.size, 6, none⟩ = some (.bool s.on) ∧ w'.cell? ⟨wr.heap.size, 7, none⟩ = some (.slice s.da s.dz.length s.dc)) ∧ Hid (SegF (fun k => w.heap.size ≤ k ∧ k ≠ wr.heap.size ∧ k ≠ g) true w' a bs [] ∧ w'.ownsRow 0 5 1 (.slice (some ⟨g, 0, none⟩) bs0.length c) bs0.length (bv bs) ∧ w'.heap[wr.heap.size]? = some (.cells #[.int .u8 s.d, .int .u8 s.a, .int .u8 s.b, .int .u32 s.at_, .int .u32 s.v, .int .i64 s.n, .bool s.on, .slice s.da s.dz.length s.dc] 54) ∧ Below w.heap.size w w' ∧ wr.heap.size < g ∧ g < w'.heap.size)) := fun g c W ⟨q1, q2, q3, q4, q5, q6⟩ =>
        (log_lf (fun k => w.heap.size ≤ k ∧ k ≠ wr.heap.size ∧ k ≠ g) a lg true bs ts W q1 (hnew g W q5 q6 q4)).mono fun e w' ⟨he, p1, p2⟩ => by
          have hob := (p2.block _ (by omega) (fun h => h.2.1 rfl)).trans q3
          exact ⟨he, ⟨(obj_cell hob 0).trans rfl, (obj_cell hob 1).trans rfl, (obj_cell hob 2).trans rfl, (obj_cell hob 3).trans rfl, (obj_cell hob 4).trans rfl, (obj_cell hob 5).trans rfl, (obj_cell hob 6).trans rfl, (obj_cell hob 7).trans rfl⟩, p1, p2.own q2 (fun k e h => h.2.2 (by simpa [Value.ownBlock] using e.symm)), hob, q4.trans (p2.below q4.size (fun i h => h.1)), q5, Nat.lt_of_lt_of_le q6 p2.size⟩
      have hTr : Hid (∀ g c W, SegF (fun k => w.heap.size ≤ k ∧ k ≠ wr.heap.size ∧ k ≠ g) true W a bs [] ∧ W.ownsRow 0 5 1 (.slice (some ⟨g, 0, none⟩) bs0.length c) bs0.length (bv bs) ∧ W.heap[wr.heap.size]? = some (.cells #[.int .u8 s.d, .int .u8 s.a, .int .u8 s.b, .int .u32 s.at_, .int .u32 s.v, .int .i64 s.n, .bool s.on, .slice s.da s.dz.length s.dc] 54) ∧ Below w.heap.size w W ∧ wr.heap.size < g ∧ g < W.heap.size → Calls Tryd.prog 27 #[.pointer (some ⟨a, 0, none⟩), .agg #[.int .u8 s.d, .int .u8 s.a, .int .u8 s.b, .int .u32 s.at_, .int .u32 s.v, .int .i64 s.n, .bool s.on, .slice s.da s.dz.length s.dc]] W fun e w' => e = .returned (.tuple #[]) ∧ ∃ bs' ts', Hid (SegF (fun k => w.heap.size ≤ k ∧ k ≠ wr.heap.size ∧ k ≠ g) true w' a bs' ts' ∧ w'.ownsRow 0 5 1 (.slice (some ⟨g, 0, none⟩) bs0.length c) bs0.length (bv bs) ∧ w'.heap[wr.heap.size]? = some (.cells #[.int .u8 s.d, .int .u8 s.a, .int .u8 s.b, .int .u32 s.at_, .int .u32 s.v, .int .i64 s.n, .bool s.on, .slice s.da s.dz.length s.dc] 54) ∧ Below w.heap.size w w' ∧ wr.heap.size < g ∧ g < w'.heap.size ∧ Good bs bs' ts')) := fun g c W ⟨q1, q2, q3, q4, q5, q6⟩ => by
        have hda := HDA.out.below (hA0.mono hBs)
        have hda2 : Reads W s.da s.dz w.heap.size := fun hl => by
          obtain ⟨q, o, e, hq, hc⟩ := HDA.out hl
          refine ⟨q, o, e, hq, fun j hj => ?_⟩
          rw [← hc j hj]
          exact (q4.cell (p := ⟨q, o + j, none⟩) hq).trans (HBL.out.cell (p := ⟨q, o + j, none⟩) hq).symm
        refine (tried_any (fun k => w.heap.size ≤ k ∧ k ≠ wr.heap.size ∧ k ≠ g) a bs s W HSO.out q1 (hnew g W q5 q6 q4) (hda2.mono q4.size) (fun b o hl e hF => ?_)).mono fun e w' ⟨he, bs', ts', p1, p3, p2⟩ => ⟨he, bs', ts', p1, p2.own q2 (fun k e h => h.2.2 (by simpa [Value.ownBlock] using e.symm)), (p2.block _ (by omega) (fun h => h.2.1 rfl)).trans q3, q4.trans (p2.below q4.size (fun i h => h.1)), q5, Nat.lt_of_lt_of_le q6 p2.size, p3⟩
        obtain ⟨q, o', e', hq, _⟩ := HDA.out hl
        rw [e'] at e
        simp only [Option.some.injEq, Addr.mk.injEq] at e
        have := hF.1
        omega
      have hTc : Hid (∀ g c bs' ts' W, SegF (fun k => w.heap.size ≤ k ∧ k ≠ wr.heap.size ∧ k ≠ g) true W a bs' ts' ∧ W.ownsRow 0 5 1 (.slice (some ⟨g, 0, none⟩) bs0.length c) bs0.length (bv bs) ∧ W.heap[wr.heap.size]? = some (.cells #[.int .u8 s.d, .int .u8 s.a, .int .u8 s.b, .int .u32 s.at_, .int .u32 s.v, .int .i64 s.n, .bool s.on, .slice s.da s.dz.length s.dc] 54) ∧ Below w.heap.size w W ∧ wr.heap.size < g ∧ g < W.heap.size ∧ Good bs bs' ts' → Calls Tryd.prog 15 #[.pointer (some ⟨a, 0, none⟩)] W fun e w' => ∃ to tc, e = .returned (.slice to ts'.length tc) ∧ Hid ((SegF (fun k => w.heap.size ≤ k ∧ k ≠ wr.heap.size ∧ k ≠ g) true w' a bs' [] ∧ w'.ownsRow 0 5 1 (.slice (some ⟨g, 0, none⟩) bs0.length c) bs0.length (bv bs) ∧ w'.heap[wr.heap.size]? = some (.cells #[.int .u8 s.d, .int .u8 s.a, .int .u8 s.b, .int .u32 s.at_, .int .u32 s.v, .int .i64 s.n, .bool s.on, .slice s.da s.dz.length s.dc] 54) ∧ Below w.heap.size w w' ∧ wr.heap.size < g ∧ g < w'.heap.size ∧ Good bs bs' ts') ∧ w'.ownsRow 0 34 2 (.slice to ts'.length tc) ts'.length (tvv ts') ∧ (Value.slice to ts'.length tc).ownBlock ≠ some g)) := fun g c bs' ts' W ⟨q1, q2, q3, q4, q5, q6, q7⟩ =>
        (touched_lf (fun k => w.heap.size ≤ k ∧ k ≠ wr.heap.size ∧ k ≠ g) a true bs' ts' W q1 (hnew g W q5 q6 q4)).mono fun e w' ⟨tv, he, p1, p2, p3, p4⟩ => by
          obtain ⟨to, tc, rfl⟩ := own_slice p3
          exact ⟨to, tc, he, ⟨p1, p2.own q2 (fun k e h => h.2.2 (by simpa [Value.ownBlock] using e.symm)), (p2.block _ (by omega) (fun h => h.2.1 rfl)).trans q3, q4.trans (p2.below q4.size (fun i h => h.1)), q5, Nat.lt_of_lt_of_le q6 p2.size, q7⟩, p3, fun e => (p4 g e).2.2 rfl⟩
      have hBz : Hid (∀ g c bs' ts' to tc W, ((SegF (fun k => w.heap.size ≤ k ∧ k ≠ wr.heap.size ∧ k ≠ g) true W a bs' [] ∧ W.ownsRow 0 5 1 (.slice (some ⟨g, 0, none⟩) bs0.length c) bs0.length (bv bs) ∧ W.heap[wr.heap.size]? = some (.cells #[.int .u8 s.d, .int .u8 s.a, .int .u8 s.b, .int .u32 s.at_, .int .u32 s.v, .int .i64 s.n, .bool s.on, .slice s.da s.dz.length s.dc] 54) ∧ Below w.heap.size w W ∧ wr.heap.size < g ∧ g < W.heap.size ∧ Good bs bs' ts') ∧ W.ownsRow 0 34 2 (.slice to ts'.length tc) ts'.length (tvv ts') ∧ (Value.slice to ts'.length tc).ownBlock ≠ some g) → Calls Tryd.prog 21 #[.pointer (some ⟨a, 0, none⟩)] W fun e w' => ∃ g2 c2, e = .returned (.slice (some ⟨g2, 0, none⟩) bs0.length c2) ∧ Hid (((SegF (fun k => w.heap.size ≤ k ∧ k ≠ wr.heap.size ∧ k ≠ g) true w' a bs' [] ∧ w'.ownsRow 0 5 1 (.slice (some ⟨g, 0, none⟩) bs0.length c) bs0.length (bv bs) ∧ w'.heap[wr.heap.size]? = some (.cells #[.int .u8 s.d, .int .u8 s.a, .int .u8 s.b, .int .u32 s.at_, .int .u32 s.v, .int .i64 s.n, .bool s.on, .slice s.da s.dz.length s.dc] 54) ∧ Below w.heap.size w w' ∧ wr.heap.size < g ∧ g < w'.heap.size ∧ Good bs bs' ts') ∧ w'.ownsRow 0 34 2 (.slice to ts'.length tc) ts'.length (tvv ts') ∧ (Value.slice to ts'.length tc).ownBlock ≠ some g) ∧ w'.ownsRow 0 5 1 (.slice (some ⟨g2, 0, none⟩) bs0.length c2) bs0.length (bv bs') ∧ g < g2)) := fun g c bs' ts' to tc W ⟨⟨q1, q2, q3, q4, q5, q6, q7⟩, q8, q9⟩ => by
        have := bytes_lf (fun k => w.heap.size ≤ k ∧ k ≠ wr.heap.size ∧ k ≠ g) a true bs' [] W q1
        rw [q7.1.trans hlen] at this
        refine this.mono fun e w' ⟨g2, c2, he, p1, p2, p3⟩ => ⟨g2, c2, he, ⟨⟨p2, (Kp.ofBelow (S := fun _ => False) p3).own q2 (fun _ _ h => h), (p3.block _ (by omega)).trans q3, q4.trans (p3.mono q4.size), q5, Nat.lt_of_lt_of_le q6 p3.size, q7⟩, (Kp.ofBelow (S := fun _ => False) p3).own q8 (fun _ _ h => h), q9⟩, own_base p1 (Nat.zero_le _), ?_⟩
        have := (p1.lt g2 rfl).1
        omega
      rw [hW0] at hBy
      have HA0 := hidS hA0
      clear hA0 hz0 hobj hBw hnew
      go_wp2_with (first
        | (go_at_call 21; with_reducible refine (hBz.out _ _ _ _ _ _ _ HQ7.out).mono ?_; rintro e w8 ⟨g2, c2, rfl, HQ8⟩)
        | (go_at_call 21; with_reducible refine hBy.out.mono ?_; rintro e w4 ⟨g, c, rfl, HQ4⟩)
        | (go_at_call 12; with_reducible refine (hLg.out _ _ _ HQ4.out).mono ?_; rintro e w5 ⟨rfl, ⟨y0, y1, y2, y3, y4, y5, y6, y7⟩, HQ5⟩)
        | (go_at_call 27; with_reducible refine (hTr.out _ _ _ HQ5.out).mono ?_; rintro e w6 ⟨rfl, bs', ts', HQ6⟩)
        | (go_at_call 15; with_reducible refine (hTc.out _ _ _ _ _ HQ6.out).mono ?_; rintro e w7 ⟨to, tc, rfl, HQ7⟩)
        | fail)
      obtain ⟨⟨⟨qS, qR, _, qB, qg1, qg2, qG⟩, qL, qN⟩, qA, qgg⟩ := HQ8.out
      have HSG := hidS qS
      have HBW := hidS qB
      have HG := hidS qG
      have HLR := hidS qL
      have HNE := hidS qN
      have HAF := hidS qA
      have hgB : w.heap.size ≤ g := by omega
      have hpos : 0 < bs0.length := by omega
      have hblen : bs.length = bs0.length := hlen
      have HR0 := hidS qR
      clear qS qB qG qL qN qA qR HQ8 HQ7 HQ6 HQ5 HQ4 hBy hLg hTr hTc hBz y0 y1 y2 y3 y4 y5 y6 y7 e0 e1 e2 e3 e4 e5 e6 e7
      go_loopw [57] (fun i wv => ∃ (j : Nat), j ≤ ts'.length ∧ i = .int .i64 j ∧ Kp (fun k => k = g) w8 wv ∧ wv.ownsRow 0 5 1 (.slice (some ⟨g, 0, none⟩) bs0.length c) bs0.length (bv (pat bs' bs (ts'.take j))))
        (fun i _ => ts'.length - (intOf i).toNat)
      case atStart => exact ⟨0, Nat.zero_le _, rfl, Kp.refl _ _, HR0.out⟩
      case round =>
        obtain ⟨j, hj, rfl, hKp, hrow⟩ := hrel
        have HKP := hidS hKp
        have HROW := hidS hrow
        clear hKp hrow
        by_cases hlt2 : j < ts'.length
        · have hltJ : (j : Int) < (ts'.length : Int) := by omega
          obtain ⟨gl, cl, hto, _⟩ := own_form HLR.out (by omega)
          simp only [Value.slice.injEq, true_and] at hto
          obtain ⟨rfl, rfl⟩ := hto
          obtain ⟨t0, t1⟩ := tvv_get ts' j hlt2
          have hlg : gl ≠ g := fun e => HNE.out (by rw [e]; rfl)
          have hll := (HLR.out.lt gl rfl).2
          have d0 := (HKP.out.cell (p := ⟨gl, j * 2, none⟩) hll hlg).trans (own_cw HLR.out _ _ t0)
          have d1 := (HKP.out.cell (p := ⟨gl, j * 2 + 1, none⟩) hll hlg).trans (own_cw HLR.out _ _ t1)
          obtain ⟨hp0, hp1⟩ := HG.out.2.1 _ (List.getElem_mem hlt2)
          have hpt := pat_take bs bs' ts' j hlt2
          rw [hblen] at hp1
          have htl : ts'.length ≤ 9223372036854775807 := by
            rcases HLR.out.2 with ⟨e, _⟩ | ⟨g', cap', cur, e, _, _, hnc, hcm, _⟩
            · simp at e
            · unfold maxLen at hcm; omega
          generalize ts'[j] = t at *
          obtain ⟨tp, tb⟩ := t
          simp only at hp0 hp1 hpt d0 d1
          obtain ⟨p, rfl⟩ := Int.eq_ofNat_of_zero_le hp0
          rw [Int.toNat_natCast] at hpt
          have hpn : p < bs0.length := by omega
          have hgl2 := (HROW.out.lt g rfl).2
          have hg2l := (HAF.out.lt g2 rfl).2
          have hbl' : bs'.length = bs0.length := HG.out.1.trans hblen
          have hb0 := own_get HROW.out (i := p) (by rw [pat_len]; omega)
          have ha0 := (HKP.out.cell (p := ⟨g2, p, none⟩) hg2l (fun e => by simp only at e; omega)).trans (own_get HAF.out (i := p) (by omega))
          have hf0 := HROW.out.frozenAt p
          have lt : ∀ {b i : Nat} {v : Value}, wr.cell? ⟨b, i, none⟩ = some v → ∀ o, (wr.alloc o).cell? ⟨b, i, none⟩ = some v := fun {b i v} h o => by
            rw [World.cell?_of_block (w := wr) (a := ⟨b, i, none⟩) (Below.heap_alloc _ _ _ (World.block_lt_of_cell? wr _ h))]; exact h
          have hb1 := lt hb0
          have ha1 := lt ha0
          have HPT := hidS hpt
          have hpI : (p : Int) < (bs0.length : Int) := by omega
          generalize (pat bs' bs (ts'.take j)).getD p 0 = z at hb0 hb1
          generalize hy : bs'.getD p 0 = y at *
          clear t0 t1 hpt lt hp0 hp1
          cases tb with
          | true =>
            go_wp2_with fail
            go_region
            all_goals
              go_wp2_with fail
              go_roundw
              case rel =>
                have k2 : Kp (fun _ => False) (wr.setCell ⟨g, p, none⟩ (.int .u8 y)) ((wr.setCell ⟨g, p, none⟩ (.int .u8 y)).alloc (.cells #[.int .u32 p, .bool true] 34)).drew := (Kp.alloc (S := fun _ => False) _ _).trans ⟨rfl, rfl, rfl, Nat.le_refl _, fun _ _ _ => rfl⟩ (fun _ _ h => h)
                refine ⟨j + 1, by omega, by go_num, HKP.out.trans ((Kp.setCell (S := fun k => k = g) wr ⟨g, p, none⟩ (.int .u8 y) rfl).trans k2 (fun _ _ h => h.elim)) (fun _ _ h => h), ?_⟩
                have st := (HROW.out.stored p (.int .u8 y)).1
                rw [bv_set] at st
                rw [HPT.out]
                exact k2.own st (fun _ _ h => h)
              case measure => simp [intOf]; omega
          | false =>
            go_wp2_with fail
            go_roundw
            case rel => exact ⟨j + 1, by omega, by go_num, HKP.out.trans (Kp.alloc (S := fun k => k = g) _ _) (fun _ _ h => h), by rw [HPT.out]; exact (Kp.alloc (S := fun _ => False) wr _).own HROW.out (fun _ _ h => h)⟩
            case measure => simp [intOf]; omega
        · obtain rfl : j = ts'.length := by omega
          have hend : pat bs' bs (ts'.take ts'.length) = bs' := by rw [List.take_length]; exact good_pat HG.out
          have hbl' : bs'.length = bs0.length := HG.out.1.trans hblen
          have hrow2 := HROW.out
          rw [hend] at hrow2
          have haf := HKP.out.own HAF.out (fun k e h => by simp only [Value.ownBlock, Option.some.injEq] at e; omega)
          have hSB : Calls Tryd.prog 26 #[.slice (some ⟨g, 0, none⟩) bs0.length c, .slice (some ⟨g2, 0, none⟩) bs0.length c2] wr fun e w' => e = .returned (.bool true) ∧ Hid (∃ m, w' = wr.drewN m) := by
            have := same_any (some ⟨g, 0, none⟩) (some ⟨g2, 0, none⟩) c c2 bs' bs' wr (by omega) (reads_own hrow2 (by simp)) (reads_own haf (by simp))
            rw [hbl', decide_eq_true rfl] at this
            exact this
          have hltJ : ¬ (ts'.length : Int) < (ts'.length : Int) := by omega
          clear hrow2 haf hend
          go_wp2_with (first
            | (go_at_call 26; with_reducible refine hSB.mono ?_; rintro e w9 ⟨rfl, HQ9⟩)
            | fail)
          go_roundw
          case rel =>
            obtain ⟨m, hm⟩ := HQ9.out
            have hk9 : Below wr.heap.size wr w9 := by rw [hm]; exact below_drewN (Below.refl _ _) m
            have hB9 := (HBW.out.trans (HKP.out.below HBW.out.size (fun i e => by omega)))
            exact ⟨k + 1, true, bs', [], by omega, by go_num, hbl', SegF.mono (fun k h => h.1) (SegF.below hk9 (SegF.kept HKP.out (fun k hF e => hF.2.2 e) HSG.out)), hB9.trans (hk9.mono hB9.size)⟩
          case measure => simp [intOf]; omega
    · obtain rfl : k = L.length := by omega
      have hltJ : ¬ (L.length : Int) < (L.length : Int) := by omega
      go_wp2_with fail
      go_ret
      exact ⟨rfl, HBL.out⟩
end Go.Proofs.YtagflmjiajjkcaaDoor
