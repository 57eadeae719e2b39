import Derived.Test.YtnplimdcfbgpeaaDoorCOEm
import Derived.Deep.AppendLies
namespace Go.Proofs.YtnplimdcfbgpeaaDoor
open Go.RowKit Go.WideShapes Go.Sort Go.Lib
set_option maxRecDepth 100000

/-- bytes that are read, in a block that is not g -/
def Prt (g n : Nat) (w : World) (ao : Option Addr) (zs : List Int) : Prop := 0 < zs.length → ∃ b o, ao = some ⟨b, o, none⟩ ∧ b < n ∧ b ≠ g ∧ ∀ j, j < zs.length → w.cell? ⟨b, o + j, none⟩ = some (.int .u8 (zs.getD j 0))
theorem Prt.kept {g n : Nat} {a b : World} {ao : Option Addr} {zs : List Int} (h : Prt g n a ao zs) (hk : Kg g a b) (hn : n ≤ a.heap.size) : Prt g n b ao zs := by
  intro hl
  obtain ⟨k, o, e, h1, h2, hc⟩ := h hl
  exact ⟨k, o, e, h1, h2, fun j hj => (hk.cell (p := ⟨k, o + j, none⟩) (by show k < _; omega) h2).trans (hc j hj)⟩
/-- a row of one's own as bytes that are read -/
theorem Prt.ofOwn {g n : Nat} {w : World} {B : Nat} {ao : Option Addr} {c : Nat} {zs : List Int} (h : w.ownsRow B 5 1 (.slice ao zs.length c) zs.length (bv zs)) (hg : g < B) (hn : w.heap.size ≤ n) : Prt g n w ao zs := by
  intro hl
  obtain ⟨k, rfl⟩ := own_posM h hl
  have h1 := h.lt k rfl
  refine ⟨k, 0, rfl, by omega, by omega, fun j hj => ?_⟩
  exact own_cell h hj
theorem Prt.ofReads {g n : Nat} {w : World} {B : Nat} {ao : Option Addr} {zs : List Int} (h : Reads w ao zs B) (hg : B ≤ g) (hn : B ≤ n) : Prt g n w ao zs := by
  intro hl
  obtain ⟨k, o, e, h1, hc⟩ := h hl
  exact ⟨k, o, e, by omega, by omega, hc⟩
/-- appending bytes that are read -/
theorem wpList_append_rd {P : Program} {w : World} {ops : Array Oper} {rest : List Oper} {o : Oper} {a : Act} {Q : Exit → Act → World → Prop} (hgd : o.guard = none) (s x : Operand) (t : TypeId)
    (ho : o.op = .call { callee := .builtin .append, args := #[s, x], argTypes := #[t, t] })
    (base : Nat) (i : TypeInfo) (ht : P.underlying t = some (.slice 5)) (hi : P.info? 5 = some i) (hz : i.zero = some (.int .u8 0))
    (hsize : i.size = 1) (hby : i.bytes = 1)
    (g c n : Nat) (xs : List Value) (hs : a.eval s = .slice (some ⟨g, 0, none⟩) n c) (hown : w.ownsRow base 5 1 (.slice (some ⟨g, 0, none⟩) n c) n xs)
    (ao : Option Addr) (zs : List Int) (m c2 : Nat) (hm : zs.length = m) (hx : a.eval x = .slice ao m c2) (gx nx : Nat) (hr : Prt gx nx w ao zs)
    (hbytes : n + zs.length ≤ 140737488355328) (hbase : base ≤ w.heap.size)
    (h : ∀ v' w', w'.ownsRow base 5 1 v' (n + m) (xs ++ bv zs) → w.grownBy w' (some g) → (v'.ownBlock = some g ∨ v'.ownBlock = some w.heap.size) → wpList P ops Q rest (a.put o.dst v') w') : wpList P ops Q (o :: rest) a w := by
  subst hm
  cases ao with
  | none =>
    have hz0 : zs.length = 0 := by
      by_cases hp : 0 < zs.length
      · obtain ⟨b, o, e, _⟩ := hr hp
        cases e
      · omega
    have hnil : zs = [] := List.eq_nil_of_length_eq_zero hz0
    subst hnil
    have hcap : n ≤ c := by
      obtain ⟨_, c', e, h2⟩ := own_cap2 hown
      simp only [Value.slice.injEq, true_and] at e
      omega
    refine wpList_append_nones hgd s x t ho 5 i (.int .u8 0) ht hi hz ⟨g, 0, none⟩ n c c2 hs hx hcap ?_
    exact h _ w (by simpa [bv] using hown) (World.grownBy.refl _ _) (.inl rfl)
  | some ad =>
    have hsrc : ∀ j u, (bv zs)[j]? = some u → w.cell? (ad.add j) = some u := fun j u hj => by
      have hj2 : j < zs.length := by
        have := (List.getElem?_eq_some_iff.1 hj).1
        rwa [bv_len] at this
      obtain ⟨b, o, e, _, _, hc⟩ := hr (by omega)
      cases e
      rw [add_plain, hc j hj2]
      rw [← hj]
      simp [bv, List.getD_eq_getElem?_getD, hj2]
    obtain ⟨v', w', hrun, h2, h3, _, h5⟩ := run_append_own_at (P := P) w base t o.type 5 i (.int .u8 0) 1 1 ht hi hz hsize hby rfl (by decide) _ n xs hown ad zs.length c2 (bv zs) (by rw [bv_len]; omega) hsrc (bv_one1 _) (by unfold maxLen; omega) (by omega) hbase
    refine wpList_plain hgd fun _ hK => ?_
    unfold Oper.wp execOp
    simp only [ho, resolve, invoke, builtin, Sem.run_bind, Sem.run_pure, Result.andThen_ok, List.map_toArray, List.map_cons, List.map_nil, hs, hx, hrun]
    refine hK _ _ (h v' w' h2 h3 ?_)
    rcases h5 with h5 | h5
    · exact .inl h5
    · exact .inr h5
theorem copy_mark {w : World} {B g : Nat} (h : w.ownsRow B 5 1 (.slice (some ⟨g, 0, none⟩) 64 64) 64 (bv (List.replicate 64 0))) :
    ∃ w', (∀ ty, (Builtin.copy_ #[24, 9] ty #[.slice (some ⟨g, 0, none⟩) 64 64, .string ⟨#[80, 69, 78, 33]⟩]).run Tryd.prog w = .ok (goInt 4) w') ∧ w'.ownsRow B 5 1 (.slice (some ⟨g, 0, none⟩) 64 64) 64 (bv hd0) ∧ Below B w w' := by
  rcases h.2 with ⟨he, _⟩ | ⟨g', cap, cur, he, hgb, hgc, hnc, hcm, hcs, htk⟩
  · cases he
  cases he
  have hc64 : cur.toList = bv (List.replicate 64 0) := by
    have : cur.toList.length = 64 := by rw [Array.length_toList]; omega
    rw [← htk, List.take_of_length_le (by omega)]
  refine ⟨w.setRow g (cur.toList.take 0 ++ byteCells (ByteArray.mk #[80, 69, 78, 33]).data.toList ++ cur.toList.drop (0 + 4)).toArray, fun ty => ?_, ?_, ?_⟩
  · exact run_copy_row_string (P := Tryd.prog) w 24 9 ty 5 g 0 64 64 ⟨#[80, 69, 78, 33]⟩ cur 5 Tryd.underlying24 Tryd.sz5 (by simpa using hgc) (by decide) (by show 0 + 4 ≤ _; omega)
  · have e0 : (cur.toList.take 0 ++ byteCells (ByteArray.mk #[80, 69, 78, 33]).data.toList ++ cur.toList.drop (0 + 4)) = bv hd0 := by
      rw [hc64]; rfl
    rw [e0]
    refine ⟨rfl, .inr ⟨g, 64, _, rfl, hgb, setRow_heap w g _ _ 5 _ (by simpa using hgc), by omega, by omega, ?_, ?_⟩⟩
    · rfl
    · rfl
  · exact below_setRow (Below.refl _ _) hgb _
/-- what Encode answers -/
def EnQ (B : Nat) (I : Im) (e : Ending) (w' : World) : Prop :=
  (ckI I = 0 ∧ ∃ v, e = .returned (.tuple #[v, .int .i64 0]) ∧ w'.ownsRow B 5 1 v (encA I).length (bv (encA I))) ∨ (¬ ckI I = 0 ∧ e = .returned (.tuple #[.slice none 0 0, .int .i64 (ckI I : Nat)]))
/-- sizes that a machine can hold -/
structure ImB (I : Im) : Prop where
  l : I.L.length ≤ 9223372036854775807
  j : I.J.length ≤ 9223372036854775807
  d : I.D.length ≤ 9223372036854775807
  m : I.M.length ≤ 9223372036854775807
theorem icheck_I (I : Im) (ac aj ad an : Option Addr) (cc cj cd cn : Nat) (w : World) (hw : ImW I) (hb : ImB I) (hr : ImR w w.heap.size I ac aj ad an cd cn) :
    Calls Tryd.prog 7 #[imV ac I.L.length cc aj I.J.length cj ad I.D.length cd I.z I.st an I.M.length cn] w fun e w' => e = .returned (.int .i64 (ckI I : Nat)) ∧ Below w.heap.size w w' :=
  icheck_any ac aj ad an cc I.J.length cj I.D.length cd I.z I.st cn I.L I.M w hb.l hb.j hb.d hb.m hw.wfc hw.z32 hw.st32 hr.ncap hr.code hr.nam
set_option maxHeartbeats 2000000 in
theorem encode_bad (I : Im) (ac aj ad an : Option Addr) (cc cj cd cn : Nat) (w : World) (hw : ImW I) (hb : ImB I) (hr : ImR w w.heap.size I ac aj ad an cd cn) (hk : ¬ ckI I = 0) :
    Calls Tryd.prog 8 #[imV ac I.L.length cc aj I.J.length cj ad I.D.length cd I.z I.st an I.M.length cn] w fun e w' => EnQ w.heap.size I e w' ∧ Below w.heap.size w w' := by
  have b1 : Below w.heap.size w (w.alloc (.cells (imC ac I.L.length cc aj I.J.length cj ad I.D.length cd I.z I.st an I.M.length cn) 28)) := belS (Below.refl _ _)
  have hC := icheck_I I ac aj ad an cc cj cd cn _ hw hb ((hr.below b1).mono b1.size)
  have HK := hidS hk
  have HE : Hid (∀ w', EnQ w.heap.size I (.returned (.tuple #[.slice none 0 0, .int .i64 (ckI I : Nat)])) w') := hidS (fun w' => .inr ⟨hk, rfl⟩)
  generalize ckI I = x at *
  have hxI : ((x : Int) == 0) = false := by rw [beq_eq_false_iff_ne]; omega
  have hxI2 : ¬ (x : Int) = 0 := by omega
  clear hk hr hw
  go_enter Tryd.func8, Tryd.ntmps8
  go_wp2_with (go_at_call 7; with_reducible refine hC.mono ?_; rintro e w2 ⟨rfl, b2⟩)
  refine bodyPost_ret (results_tmp2 rfl _ _ _) rfl ?_
  exact ⟨HE.out _, btS b1 b2⟩
end Go.Proofs.YtnplimdcfbgpeaaDoor
namespace Go.Proofs.YtnplimdcfbgpeaaDoor
open Go.RowKit Go.WideShapes Go.Sort Go.Lib
set_option maxRecDepth 100000

theorem made64 : bv (List.replicate 64 0) = (madeCells (Value.int .u8 0).cells (64 * 1)).toList := by kernel_rfl
theorem wth_hd (x : Int) (p : Nat) (zs : List Int) (h : zs.length = 64) (hp : p + 4 ≤ 64) : (wth 4 zs p x).length = 64 := by rw [wth_len _ _ _ _ (by omega), h]
set_option maxHeartbeats 4000000 in
theorem encode_good (I : Im) (ac aj ad an : Option Addr) (cc cj cd cn : Nat) (w : World) (hb : ImB I) (hr : ImR w w.heap.size I ac aj ad an cd cn) (hk : ImK I) (hg : Sg w) :
    Calls Tryd.prog 8 #[imV ac I.L.length cc aj I.J.length cj ad I.D.length cd I.z I.st an I.M.length cn] w fun e w' => EnQ w.heap.size I e w' ∧ Below w.heap.size w w' := by
  obtain ⟨i0, hi, hz0, hz1, hz2⟩ := info_parts Tryd.infoB
  have b1 : Below w.heap.size w (w.alloc (.cells (imC ac I.L.length cc aj I.J.length cj ad I.D.length cd I.z I.st an I.M.length cn) 28)) := belS (Below.refl _ _)
  have hC := icheck_I I ac aj ad an cc cj cd cn _ hk.w hb ((hr.below b1).mono b1.size)
  have hlast := heap_alloc_last w (.cells (imC ac I.L.length cc aj I.J.length cj ad I.D.length cd I.z I.st an I.M.length cn) 28)
  have hck : ckI I = 0 := (ckI_0 hk.w).2 hk
  rw [hck] at hC
  have hsA : (w.alloc (.cells (imC ac I.L.length cc aj I.J.length cj ad I.D.length cd I.z I.st an I.M.length cn) 28)).heap.size = w.heap.size + 1 := by simp
  have HK := hidS hk
  have HR := hidS hr
  have HG := hidS hg
  have hLn : I.L.length ≤ 16384 := hk.len
  have hzn : I.z < 4294967296 := hk.w.z32
  have hsn : I.st < 4294967296 := hk.w.st32
  have HCK := hidS hck
  clear hr hk hg hck
  go_enter Tryd.func8, Tryd.ntmps8
  go_wp2_with fail
  with_reducible refine hC.mono ?_
  rintro e w2 ⟨rfl, b2⟩
  obtain ⟨w3, hmk, own3, g3⟩ := run_make_full (P := Tryd.prog) w2 w2.heap.size 24 5 i0 (.int .u8 0) 1 Tryd.underlying24 hi hz0 hz1 .i64 .i64 64 (by rw [hz2]; decide) (by decide) (Nat.le_refl _)
  replace hmk : (Instr.makeSlice 24 (.int .i64 64) (.int .i64 64)).run Tryd.prog w2 = .ok (.slice (some ⟨w2.heap.size, 0, none⟩) 64 64) w3 := hmk
  obtain ⟨w4, hcp, own4, b4⟩ := copy_mark (w := w3) (B := w2.heap.size) (g := w2.heap.size) (by rw [made64]; exact own3)
  have B2 := btS b1 b2
  have hs2 := b2.size
  have B3 : Below w2.heap.size w2 w3 := (Below.refl _ _).grown g3 (Nat.le_refl _) (fun k e => by simp at e)
  have B4 : Below w2.heap.size w2 w4 := B3.trans b4
  have HX : Hid (∀ W, Below w2.heap.size w2 W → ∀ i, W.cell? ⟨w.heap.size, i, none⟩ = (imC ac I.L.length cc aj I.J.length cj ad I.D.length cd I.z I.st an I.M.length cn)[i]?) := hidS (fun W hW i => obj_cell ((hW.block _ (by omega)).trans ((b2.block _ (by omega)).trans hlast)) i)
  obtain ⟨g, hgg⟩ : ∃ g, w2.heap.size = g := ⟨_, rfl⟩
  have c0 := HX.out w4 B4 0
  simp only [List.getElem?_toArray, List.getElem?_cons_zero] at c0
  have hL1 := layWord_any g g 64 4 hd0 1 w4 (by rw [hd0_len]; decide) (by decide) (by decide) (by rw [hd0_len, ← hgg]; exact own4)
  rw [hd0_len] at hL1
  replace hL1 : Calls Tryd.prog 22 #[.slice (some ⟨g, 0, none⟩) 64 64, .int .i64 4, .int .u32 1] w4 fun e w' => e = .returned (.tuple #[]) ∧ w'.ownsRow g 5 1 (.slice (some ⟨g, 0, none⟩) 64 64) 64 (bv (wth 4 hd0 4 1)) ∧ Below g w4 w' ∧ Kg g w4 w' := hL1
  rw [hgg] at hmk hcp
  clear hC own3 own4 g3 hlast c0
  go_wp2_with fail
  with_reducible refine hL1.mono ?_
  rintro e w5 ⟨rfl, own5, b5, _⟩
  have B5 : Below w2.heap.size w2 w5 := B4.trans (by rw [hgg]; exact b5)
  have c0 := HX.out w5 B5 0
  simp only [List.getElem?_toArray, List.getElem?_cons_zero] at c0
  have l1 := wth_hd 1 4 hd0 hd0_len (by decide)
  have hL2 := layWord_any g g 64 12 (wth 4 hd0 4 1) I.L.length w5 (by omega) (by omega) (by omega) (by rw [l1]; exact own5)
  rw [l1] at hL2
  replace hL2 : Calls Tryd.prog 22 #[.slice (some ⟨g, 0, none⟩) 64 64, .int .i64 12, .int .u32 (I.L.length : Int)] w5 fun e w' => e = .returned (.tuple #[]) ∧ w'.ownsRow g 5 1 (.slice (some ⟨g, 0, none⟩) 64 64) 64 (bv (wth 4 (wth 4 hd0 4 1) 12 I.L.length)) ∧ Below g w5 w' ∧ Kg g w5 w' := hL2
  have hLw : IntKind.u32.wrap (I.L.length : Int) = (I.L.length : Int) := by rw [IntKind.wrap_u32]; omega
  clear hL1 own5 hmk hcp
  go_wp2_with fail
  with_reducible refine hL2.mono ?_
  rintro e w6 ⟨rfl, own6, b6, _⟩
  have B6 : Below w2.heap.size w2 w6 := B5.trans (by rw [hgg]; exact b6)
  have l2 := wth_hd I.L.length 12 _ l1 (by decide)
  have hL3 := layWord_any g g 64 48 (wth 4 (wth 4 hd0 4 1) 12 I.L.length) I.z w6 (by omega) (by omega) (by omega) (by rw [l2]; exact own6)
  rw [l2] at hL3
  replace hL3 : Calls Tryd.prog 22 #[.slice (some ⟨g, 0, none⟩) 64 64, .int .i64 48, .int .u32 (I.z : Int)] w6 fun e w' => e = .returned (.tuple #[]) ∧ w'.ownsRow g 5 1 (.slice (some ⟨g, 0, none⟩) 64 64) 64 (bv (wth 4 (wth 4 (wth 4 hd0 4 1) 12 I.L.length) 48 I.z)) ∧ Below g w6 w' ∧ Kg g w6 w' := hL3
  have c3 := HX.out w6 B6 3
  simp only [List.getElem?_toArray, List.getElem?_cons_zero, List.getElem?_cons_succ] at c3
  clear hL2 own6 c0
  go_wp2_with fail
  with_reducible refine hL3.mono ?_
  rintro e w7 ⟨rfl, own7, b7, _⟩
  have B7 : Below w2.heap.size w2 w7 := B6.trans (by rw [hgg]; exact b7)
  have l3 := wth_hd I.z 48 _ l2 (by decide)
  have hL4 := layWord_any g g 64 52 (wth 4 (wth 4 (wth 4 hd0 4 1) 12 I.L.length) 48 I.z) I.st w7 (by omega) (by omega) (by omega) (by rw [l3]; exact own7)
  rw [l3] at hL4
  replace hL4 : Calls Tryd.prog 22 #[.slice (some ⟨g, 0, none⟩) 64 64, .int .i64 52, .int .u32 (I.st : Int)] w7 fun e w' => e = .returned (.tuple #[]) ∧ w'.ownsRow g 5 1 (.slice (some ⟨g, 0, none⟩) 64 64) 64 (bv (hdI I)) ∧ Below g w7 w' ∧ Kg g w7 w' := hL4
  have c4 := HX.out w7 B7 4
  simp only [List.getElem?_toArray, List.getElem?_cons_zero, List.getElem?_cons_succ] at c4
  clear hL3 own7 c3
  go_wp2_with fail
  with_reducible refine hL4.mono ?_
  rintro e w8 ⟨rfl, own8, b8, _⟩
  have B8 : Below w2.heap.size w2 w8 := B7.trans (by rw [hgg]; exact b8)
  have BW8 := btS B2 B8
  have hP := parts_any I ac aj ad an cc cj cd cn w8 HK.out ((HR.out.below BW8).mono BW8.size)
  have cs := HX.out w8 B8
  have y0 := cs 0
  have y1 := cs 1
  have y2 := cs 2
  have y3 := cs 3
  have y4 := cs 4
  have y5 := cs 5
  simp only [List.getElem?_toArray, List.getElem?_cons_zero, List.getElem?_cons_succ] at y0 y1 y2 y3 y4 y5
  clear hL4 c4 cs
  go_wp2_with fail
  with_reducible refine hP.mono ?_
  rintro e w9 ⟨v0, v1, v3, rfl, o0, o1, o3, b9⟩
  clear hP y0 y1 y2 y3 y4 y5
  obtain ⟨a0, q0, rfl, _⟩ := own_cap2 o0
  obtain ⟨a1, q1, rfl, _⟩ := own_cap2 o1
  obtain ⟨a3, q3, rfl, _⟩ := own_cap2 o3
  have hA9 := heap_alloc_last w9 (.cells #[.slice none 0 0, .slice none 0 0, .slice none 0 0, .slice none 0 0] 62)
  obtain ⟨WP, hWP⟩ : ∃ WP, (w9.alloc (.cells #[.slice none 0 0, .slice none 0 0, .slice none 0 0, .slice none 0 0] 62)).setRow w9.heap.size #[.slice a0 (encF I.L).length q0, .slice a1 (jmB I.J).length q1, .slice ad I.D.length cd, .slice a3 (nmB I.M).length q3] = WP := ⟨_, rfl⟩
  have b10 : Below w9.heap.size w9 WP := by rw [← hWP]; exact below_setRow (belS (Below.refl _ _)) (Nat.le_refl _) _
  have hPb : WP.heap[w9.heap.size]? = some (.cells #[.slice a0 (encF I.L).length q0, .slice a1 (jmB I.J).length q1, .slice ad I.D.length cd, .slice a3 (nmB I.M).length q3] 62) := by rw [← hWP]; exact setRow_heap _ w9.heap.size _ _ _ _ hA9
  have hsP : w9.heap.size < WP.heap.size := (Array.getElem?_eq_some_iff.1 hPb).1
  have HWP := hidS hWP
  have hg8 : g < w8.heap.size := (own8.lt g rfl).2
  have b89 := b9.size
  have b8P := btS b9 b10
  have P0 := Prt.ofOwn (g := g) (n := WP.heap.size) (own_below o0 b10) hg8 (Nat.le_refl _)
  have P1 := Prt.ofOwn (g := g) (n := WP.heap.size) (own_below o1 b10) hg8 (Nat.le_refl _)
  have P3 := Prt.ofOwn (g := g) (n := WP.heap.size) (own_below o3 b10) hg8 (Nat.le_refl _)
  have P2 : Prt g WP.heap.size WP ad I.D := Prt.ofReads (B := w.heap.size) (HR.out.dat.below (btS BW8 b8P)) (by omega) (by omega)
  have ownP := own_below own8 b8P
  have BP : Below w2.heap.size w2 WP := btS B8 b8P
  have HP : Hid (∃ (A : Nat → Option Addr) (C : Nat → Nat), ∀ k, k < 4 → WP.cell? ⟨w9.heap.size, k, none⟩ = some (.slice (A k) (prt I k).length (C k)) ∧ Prt g WP.heap.size WP (A k) (prt I k)) := hidS (by
    refine ⟨fun | 0 => a0 | 1 => a1 | 2 => ad | _ => a3, fun | 0 => q0 | 1 => q1 | 2 => cd | _ => q3, fun k hk => ?_⟩
    rcases (show k = 0 ∨ k = 1 ∨ k = 2 ∨ k = 3 by omega) with rfl | rfl | rfl | rfl
    · exact ⟨obj_cell hPb 0, P0⟩
    · exact ⟨obj_cell hPb 1, P1⟩
    · exact ⟨obj_cell hPb 2, P2⟩
    · exact ⟨obj_cell hPb 3, P3⟩)
  obtain ⟨_, s0, s1, s2, s3⟩ := HG.out.below (btS B2 BP)
  clear o0 o1 o3 own8 P0 P1 P2 P3 hPb hWP
  go_wp2_with (refine wpList_store_row rfl _ _ _ rfl w9.heap.size _ #[.slice a0 (encF I.L).length q0, .slice a1 (jmB I.J).length q1, .slice ad I.D.length cd, .slice a3 (nmB I.M).length q3] rfl rfl hA9 (by rw [infoA4]; rfl) rfl (Array.all_eq_true_iff_forall_mem.2 (fun v hv => by simp at hv; rcases hv with rfl | rfl | rfl | rfl <;> rfl)) ?_; rw [HWP.out])
  obtain ⟨A, C, hAC⟩ := HP.out
  have HAC := hidS hAC
  have h64 : (hdI I).length = 64 := hdI_len I
  have HSP := hidS hsP
  have HBP := hidS BP
  have HOP : Hid (WP.ownsRow g 5 1 (.slice (some ⟨g, 0, none⟩) 64 64) (enS I 0).length (bv (enS I 0))) := hidS (by show WP.ownsRow g 5 1 _ (hdI I).length (bv (hdI I)); rw [h64]; exact ownP)
  clear hA9 hAC HP ownP s0 s1 s2 s3
  have hgp : ¬ w9.heap.size = g := by omega
  go_loopw [5, 36] (fun v i wr => ∃ k : Nat, k ≤ 4 ∧ i = .int .i64 k ∧ ∃ gb c, v = .slice (some ⟨gb, 0, none⟩) (enS I k).length c ∧ wr.ownsRow g 5 1 (.slice (some ⟨gb, 0, none⟩) (enS I k).length c) (enS I k).length (bv (enS I k)) ∧ (gb = g ∨ WP.heap.size ≤ gb) ∧ Kg g WP wr ∧ Below w2.heap.size w2 wr) (fun _ i _ => 4 - (intOf i).toNat)
  case atStart => exact ⟨0, by omega, rfl, g, 64, by show _ = Value.slice _ (hdI I).length 64; rw [h64], by
    have := HOP.out
    show WP.ownsRow g 5 1 (.slice (some ⟨g, 0, none⟩) (hdI I).length 64) (hdI I).length (bv (hdI I))
    rw [h64]
    have h2 : WP.ownsRow g 5 1 (.slice (some ⟨g, 0, none⟩) 64 64) (hdI I).length (bv (hdI I)) := this
    rwa [h64] at h2, .inl rfl, Kg.refl _ _, HBP.out⟩
  case round =>
    obtain ⟨k, hk, rfl, gb, c, rfl, hown, hgb, hkg, hbw⟩ := hrel
    have hle : (enS I k).length ≤ 215424 := by rw [enS_len I k hk]; exact off_le HK.out k hk
    have h6 : 64 ≤ (enS I k).length := by rw [enS_len I k hk]; exact off_64 I k
    have HGB := hidS hgb
    have HKG := hidS hkg
    have HBW := hidS hbw
    have hsB := hbw.size
    by_cases hlt : k < 4
    · have hltI : (k : Int) < 4 := by omega
      have hix := index_pl wr k hlt
      have hpk : pA k ≤ 40 := by unfold pA; omega
      obtain ⟨hce, hpr⟩ := HAC.out k hlt
      have HPR := hidS hpr
      have HS : Hid (enS I (k + 1) = wth 4 (wth 4 (enS I k) (pA k) (enS I k).length) (pA k + 4) (prt I k).length ++ prt I k) := hidS rfl
      have hpl : (prt I k).length ≤ 81920 := by
        obtain ⟨p0, p1, p2, p3⟩ := prt_le HK.out
        rcases (show k = 0 ∨ k = 1 ∨ k = 2 ∨ k = 3 by omega) with rfl | rfl | rfl | rfl <;> omega
      obtain ⟨zs, hzs⟩ : ∃ zs, enS I k = zs := ⟨_, rfl⟩
      obtain ⟨pz, hpz⟩ : ∃ pz, prt I k = pz := ⟨_, rfl⟩
      rw [hzs] at hown hle h6 HS ⊢
      rw [hpz] at hce HPR HS hpl
      obtain ⟨pk, hpkk⟩ : ∃ pk, pA k = pk := ⟨_, rfl⟩
      rw [hpkk] at hix hpk HS
      clear hzs hpz hpkk hpr hkg hgb hbw
      have hL1 := layWord_any g gb c pk zs zs.length wr (by omega) (by omega) (by omega) hown
      obtain ⟨n, hn⟩ : ∃ n, zs.length = n := ⟨_, rfl⟩
      have HN := hidS hn
      rw [hn] at hL1 hle h6 ⊢
      have hnw : IntKind.u32.wrap (n : Int) = (n : Int) := by rw [IntKind.wrap_u32]; omega
      clear hown hn
      go_wp2_with fail
      with_reducible refine hL1.mono ?_
      rintro e wA ⟨rfl, ownA, bA, kA⟩
      have KA := HKG.out.later kA HGB.out
      have BA : Below w2.heap.size w2 wA := HBW.out.trans (by rw [hgg]; exact bA)
      have ceA : wA.cell? ⟨w9.heap.size, k, none⟩ = some (.slice (A k) pz.length (C k)) := (KA.cell (p := ⟨w9.heap.size, k, none⟩) HSP.out hgp).trans hce
      have hlA : (wth 4 zs pk (n : Int)).length = n := by rw [wth_len _ _ _ _ (by rw [HN.out]; omega), HN.out]
      have hL2 := layWord_any g gb c (pk + 4) (wth 4 zs pk (n : Int)) pz.length wA (by omega) (by omega) (by omega) (by rw [hlA]; exact ownA)
      rw [hlA] at hL2
      obtain ⟨m, hm⟩ : ∃ m, pz.length = m := ⟨_, rfl⟩
      have HM := hidS hm
      rw [hm] at hL2 ceA hpl
      have hmw : IntKind.u32.wrap (m : Int) = (m : Int) := by rw [IntKind.wrap_u32]; omega
      have hp4 : (((pk + 4 : Nat)) : Int) = (pk : Int) + 4 := by push_cast; rfl
      rw [hp4] at hL2
      clear hL1 ownA hm hce
      go_wp2_with fail
      with_reducible refine hL2.mono ?_
      rintro e wB ⟨rfl, ownB, bB, kB⟩
      have KB := KA.later kB HGB.out
      have BB : Below w2.heap.size w2 wB := BA.trans (by rw [hgg]; exact bB)
      have ceB : wB.cell? ⟨w9.heap.size, k, none⟩ = some (.slice (A k) m (C k)) := (kB.cell (p := ⟨w9.heap.size, k, none⟩) (by show w9.heap.size < _; have := KA.size; have := HSP.out; omega) (by show ¬ w9.heap.size = gb; have := HGB.out; have := HSP.out; omega)).trans ceA
      have hprB : Prt g WP.heap.size wB (A k) pz := (HPR.out.kept KB (Nat.le_refl _))
      have hgB : g ≤ wB.heap.size := by have := KB.size; have := HSP.out; omega
      have HPB := hidS hprB
      have hml : n + m ≤ 140737488355328 := by omega
      clear hL2 ceA kB kA bA bB hprB
      go_wp2_with (at_builtin; refine wpList_append_rd rfl _ _ 24 rfl g i0 Tryd.underlying24 hi hz0 hz1 hz2 gb c n _ rfl ownB (A k) pz m (C k) HM.out rfl g WP.heap.size HPB.out (by rw [HM.out]; exact hml) hgB ?_)
      intro v' w' own' g' hob
      have KC : Kg g WP w' := KB.later ⟨g'.size, fun j hj hne => g'.block j hj (fun e => hne (by simpa using e))⟩ HGB.out
      have hsB2 := KB.size
      have BC : Below w2.heap.size w2 w' := BB.trans ⟨g'.os, g'.tape, g'.output, g'.size, fun j hj => g'.block j (by have := BB.size; omega) (fun e => by
        have e2 : j = gb := by simpa using e
        have := HGB.out
        have := HSP.out
        omega)⟩
      have HOW : Hid (∃ gb' c', v' = .slice (some ⟨gb', 0, none⟩) (enS I (k + 1)).length c' ∧ w'.ownsRow g 5 1 (.slice (some ⟨gb', 0, none⟩) (enS I (k + 1)).length c') (enS I (k + 1)).length (bv (enS I (k + 1))) ∧ (gb' = g ∨ WP.heap.size ≤ gb')) := hidS (by
        have e1 : (enS I (k + 1)).length = n + m := by rw [HS.out, List.length_append, wth_len _ _ _ _ (by rw [wth_len _ _ _ _ (by rw [HN.out]; omega), HN.out]; omega), wth_len _ _ _ _ (by rw [HN.out]; omega), HN.out, HM.out]
        have e2 : bv (enS I (k + 1)) = bv (wth 4 (wth 4 zs pk (n : Int)) (pk + 4) (m : Int)) ++ bv pz := by rw [HS.out, bv_append, HN.out, HM.out]
        rw [e1, e2]
        obtain ⟨gb', c', rfl, _⟩ := own_form own' (by omega)
        refine ⟨gb', c', rfl, own', ?_⟩
        rcases hob with hob | hob
        · have : gb' = gb := by simpa [Value.ownBlock] using hob
          rw [this]; exact HGB.out
        · have : gb' = wB.heap.size := by simpa [Value.ownBlock] using hob
          right; omega)
      clear own' g' hob ownB ceB
      go_wp2_with fail
      go_roundw
      case rel =>
        obtain ⟨gb', c', e1, e2, e3⟩ := HOW.out
        exact ⟨k + 1, by omega, by go_num, gb', c', e1, e2, e3, KC, BC⟩
      case measure => simp [intOf]; omega
    · obtain rfl : k = 4 := by omega
      have hgc : enS I 4 = enS I 4 := rfl
      have HAW : Hid (wth 4 (enS I 4) 8 (sumV (enS I 4)) = encA I) := hidS rfl
      have hwfE := enS_wf HK.out 4
      have hWB : Below w.heap.size w wr := btS B2 HBW.out
      obtain ⟨zs, hzs⟩ : ∃ zs, enS I 4 = zs := ⟨_, rfl⟩
      rw [hzs] at hown hle h6 HAW hwfE ⊢
      clear hgc hzs hkg hgb hbw
      obtain ⟨ar, cr, her, hrd⟩ := own_reads hown
      simp only [Value.slice.injEq, true_and] at her
      obtain ⟨rfl, rfl⟩ := her
      have hS := sumOf_any (some ⟨gb, 0, none⟩) c zs wr (by omega) h6 hwfE hrd
      have hrng := sumV_range zs
      have HOWN := hidS hown
      clear hrd hown hwfE
      obtain ⟨n, hn⟩ : ∃ n, zs.length = n := ⟨_, rfl⟩
      have HN := hidS hn
      rw [hn] at hS hle h6 ⊢
      clear hn
      go_wp2_with fail
      with_reducible refine hS.mono ?_
      rintro e wS ⟨rfl, bS⟩
      have hL := layWord_any g gb c 8 zs (sumV zs) wS (by rw [HN.out]; omega) hrng.1 hrng.2 (own_below HOWN.out bS)
      rw [HN.out] at hL
      replace hL : Calls Tryd.prog 22 #[.slice (some ⟨gb, 0, none⟩) n c, .int .i64 8, .int .u32 (sumV zs)] wS fun e w' => e = .returned (.tuple #[]) ∧ w'.ownsRow g 5 1 (.slice (some ⟨gb, 0, none⟩) n c) n (bv (wth 4 zs 8 (sumV zs))) ∧ Below g wS w' ∧ Kg gb wS w' := hL
      rw [HAW.out] at hL
      have BS : Below w2.heap.size w2 wS := btS HBW.out bS
      have hEL : (encA I).length = n := by rw [← HAW.out, wth_len _ _ _ _ (by rw [HN.out]; omega), HN.out]
      have HEL := hidS hEL
      generalize sumV zs = sv9 at *
      clear hS hEL HAW
      go_wp2_with fail
      with_reducible refine hL.mono ?_
      rintro e wT ⟨rfl, ownT, bT, _⟩
      have BT : Below w2.heap.size w2 wT := BS.trans (by rw [hgg]; exact bT)
      have HOT := hidS ownT
      clear hL ownT
      go_wp2_with fail
      refine bodyPost_ret (results_tmp2 rfl _ _ _) rfl ?_
      refine ⟨.inl ⟨HCK.out, _, rfl, ?_⟩, btS B2 BT⟩
      rw [HEL.out]
      exact own_lowM HOT.out (by omega)
end Go.Proofs.YtnplimdcfbgpeaaDoor
