import Derived.Test.YtdpghhkimnifjaaZCo
namespace Go.Proofs.Ytdpghhkimnifjaa
open Go.RowKit Go.WideShapes Go.Shelf
set_option maxRecDepth 100000
attribute [local go_sem] Oper.semAt_some

theorem boxed_stepz {A B : World} {row : Option Nat} {b t : Nat} {v : Value} (h : Boxed A b t v) (hg : A.grownBy B row) (hr : ∀ r, row = some r → ∃ o : Obj, A.heap[r]? = some o ∧ o.isCells = false) : Boxed B b t v :=
  h.kept hg (fun e => by
    obtain ⟨o, ho, hc⟩ := hr b e.symm
    have h' : A.heap[b]? = some (.cells #[v] t (0, 0)) := h
    rw [h'] at ho
    cases ho
    cases hc)
theorem heap_set_neZ {W : World} {b D : Nat} {v : Value} (h : D ≠ b) : (W.setCell ⟨b, 0, none⟩ v).heap[D]? = W.heap[D]? := Below.heap_setCell _ _ _ _ h
set_option maxHeartbeats 8000000 in
theorem covers_law (ao : Option Addr) (cap a e : Nat) (L : List (Nat × Nat)) (w : World) (hn : L.length * 8 ≤ 140737488355328) (hcap : L.length ≤ cap) (ha : a < 4294967296) (he : e < 4294967296) (hwf : Wfc L) (hr : CRd w ao L w.heap.size) :
    Calls Try.prog 4 #[.slice ao L.length cap, .int .u32 (a : Int), .int .u32 (e : Int)] w fun x w' => x = .returned (.bool true) ∧ Below w.heap.size w w' := by
  have HA := dhid (fun w' => (callsIn_wide (n := 8)).2 (zawake_any w'))
  have HR := dhid hr
  have HRW := dhid (fun W (hW : Below w.heap.size w W) => (callsIn_wide (n := 8)).2 (frow_any ao cap a e L W hn hcap ha he ((hr.below hW).mono hW.size)))
  clear hr
  refine (callsIn_wide (n := 9)).1 ?_
  refine callsIn_of_wp_marks Try.func4 rfl trivial ?_ rfl
  simp only [Try.ntmps4, List.size_toArray, List.length_cons, List.length_nil, Nat.reduceAdd, Nat.reduceSub, Array.replicate_succ, Array.replicate_zero, List.push_toArray, List.append_toArray, List.nil_append, List.cons_append]
  gi_wp2_with fail
  refine ⟨trivial, ?_⟩
  refine (HA.out _).mono ?_
  rintro x w1 ⟨rfl, hb1⟩
  have qe : Boxed w1 w.heap.size 23 (.int .u32 (e : Int)) := (hb1.block w.heap.size (by simp; omega)).trans ((Below.heap_alloc _ _ _ (by simp)).trans (heap_alloc_new w (.cells #[.int .u32 (e : Int)] 23)))
  have qr : Boxed w1 (w.heap.size + 1) 4 (.bool false) := (hb1.block (w.heap.size + 1) (by simp)).trans (zheap2 w _ _)
  have B1 := dhid (((bel1 w (.cells #[.int .u32 (e : Int)] 23)).alloc (by simp) (.cells #[.bool false] 4)).trans (hb1.mono (by simp; omega)))
  have ce := qe.cell
  clear HA hb1
  gi_wp2_with fail
  refine ⟨trivial, ?_⟩
  refine (HRW.out _ B1.out).mono ?_
  rintro x w2 ⟨v, rfl, hS⟩
  have hb2 := hS.bl
  have B2 := dhid (B1.out.trans (hb2.mono B1.out.size))
  obtain ⟨k1, k2, so, sc, rfl, hsc, hk1, hk2, hsr, hl1, hl2⟩ := hS.ex
  have HNC := nilcmpZ k1 k2 w2
  have he2 := boxed_belz qe hb2
  have hr2 := boxed_belz qr hb2
  have ce2 := he2.cell
  have cr2 := hr2.cell
  have fr2 := hr2.frozen
  clear HRW ce qe qr hb2 hS
  by_cases hl : a < e ∧ e ≤ L.length
  · have hS : rwS L a e = (L.drop a).take (e - a) := if_pos hl
    have d1 : ¬ (e : Int) ≤ (a : Int) := by omega
    have d2 : (e : Int) ≤ (L.length : Int) := by omega
    gi_wp2_with fail
    simp only [show decide (e ≤ a) = false from decide_eq_false (by omega), show decide (L.length < e) = false from decide_eq_false (by omega), Bool.or_false]
    obtain ⟨S, hSq⟩ : ∃ S, S = (L.drop a).take (e - a) := ⟨_, rfl⟩
    have hSl : S.length = e - a := by rw [hSq, List.length_take, List.length_drop]; omega
    have HWS := dhid (show Wfc S by rw [hSq]; exact wfc_takeZ (wfc_drop hwf a) _)
    have HSG := dhid (show ∀ j, j < S.length → S.getD j (0, 0) = L.getD (a + j) (0, 0) from fun j hj => by rw [hSq, List.getD_eq_getElem?_getD, List.getElem?_take_of_lt (by omega), List.getElem?_drop, List.getD_eq_getElem?_getD])
    rw [hS, ← hSq] at hsc hk2 hsr
    have HSL := dhid hSl
    obtain ⟨W0, hW0⟩ : ∃ W0, (w2.alloc (Obj.cells #[.int .u32 (a : Int)] 23)).alloc (Obj.cells #[.int .i64 0] 3) = W0 := ⟨_, rfl⟩
    have hb20 : Below w2.heap.size w2 W0 := by rw [← hW0]; exact (bel1 _ _).alloc (by simp) _
    have hN : Boxed W0 w2.heap.size 23 (.int .u32 (a : Int)) := by rw [← hW0]; exact (Boxed.new w2 23 (.int .u32 (a : Int))).alloc _
    have hC : Boxed W0 (w2.heap.size + 1) 3 (.int .i64 0) := by rw [← hW0]; exact zheap2 _ _ _
    have hsz : W0.heap.size = w2.heap.size + 2 := by rw [← hW0]; simp
    have hwz : w.heap.size + 1 < w2.heap.size := hr2.lt
    have hW0' := hW0
    rw [hW0]
    clear hW0 hW0' hS hSl ce2 cr2 fr2 HNC hSq
    have HSZ := dhid hsz
    clear hsz
    refine range_outer (F := Fence.wide) rfl (by decide) (gf := 32) (lb := #[.pointer (some ⟨k1, 0, none⟩), .pointer (some ⟨k2, 0, none⟩)]) rfl trivial (enters_of Try.func32 (by kernel_rfl) rfl)
      (ths_own (9 - 1) (by decide) k1 k2 w2.heap.size so sc a S W0 hsc (by rw [HSL.out]; omega) HWS.out (boxed_belz hk1 hb20) (boxed_belz hk2 hb20) (hsr.below hb20) hb20.size) Kz_t (Kz_b (w := W0)) (Below.refl _ _) (fun _ => rfl)
      (fun pre W => (Boxed W w2.heap.size 23 (.int .u32 ((a + lnS pre : Nat) : Int)) ∧ Boxed W (w2.heap.size + 1) 3 (.int .i64 (pre.length : Int)) ∧ Boxed W w.heap.size 23 (.int .u32 (e : Int)) ∧ Boxed W (w.heap.size + 1) 4 (.bool false)) ∧ Below w.heap.size w W ∧ w2.heap.size + 2 ≤ W.heap.size) (fun _ _ _ => False)
      (OwnFrom.and (Own.from (fun t A B row h hg hr => ⟨boxed_stepz h.1 hg hr, boxed_stepz h.2.1 hg hr, boxed_stepz h.2.2.1 hg hr, boxed_stepz h.2.2.2 hg hr⟩) _) (OwnFrom.and (ownFrom_below (Nat.le_refl _) (by have := B2.out.size; have := hb20.size; omega)) (fun _ _ _ _ h hg _ => Nat.le_trans h hg.size))) (fun c t A B row h => h.elim)
      ⟨⟨hN, hC, boxed_belz he2 hb20, boxed_belz hr2 hb20⟩, B2.out.trans (hb20.mono B2.out.size), by have := HSZ.out; omega⟩
      (fun x a' W => ∃ R, w2.heap.size + 2 ≤ R ∧ W.heap[R]? = some (.cells (fzA x) 30) ∧ a' = { tmps := #[.slice ao L.length cap, .int .u32 (a : Int), .int .u32 (e : Int), undef, undef, .pointer (some ⟨w.heap.size, 0, none⟩), .pointer (some ⟨w.heap.size + 1, 0, none⟩), Value.func (.func 32) #[] #[.pointer (some ⟨k1, 0, none⟩), .pointer (some ⟨k2, 0, none⟩)], .pointer (some ⟨w2.heap.size, 0, none⟩), .pointer (some ⟨w2.heap.size + 1, 0, none⟩), .pointer (some ⟨R, 0, none⟩), .bool true, .bool false, .slice ao L.length cap, .int .u32 (a : Int), .int .u32 (e : Int), Value.func (.func 32) #[] #[.pointer (some ⟨k1, 0, none⟩), .pointer (some ⟨k2, 0, none⟩)], Value.func (.func 32) #[] #[.pointer (some ⟨k1, 0, none⟩), .pointer (some ⟨k2, 0, none⟩)], .bool false, .int .u32 (a : Int), .int .u32 (e : Int), .bool false, .bool false, .int .u32 (e : Int), .int .u64 (e : Int), .slice ao L.length cap, .int .i64 (L.length : Int), .int .u64 (L.length : Int), .bool false, .bool false, undef, undef, .int .u32 (a : Int), Value.func (.func 32) #[] #[.pointer (some ⟨k1, 0, none⟩), .pointer (some ⟨k2, 0, none⟩)], .agg (fzA x), undef, undef, undef, undef, undef, undef, undef, undef, undef, undef, undef, undef, undef, undef, undef, undef, undef, undef, undef, undef, undef, undef, undef, undef, undef, undef, undef, undef, undef, undef, undef, undef, undef, undef, undef, undef, undef, undef, undef, undef, undef, undef, undef, undef], defers := [] })
      (fun x a' => Own.from (fun t A B row h hg hr => by
        obtain ⟨R, h1, h2, h3⟩ := h
        exact ⟨R, h1, row_stepz h2 hg hr, h3⟩) _)
      ?assign ?body ?done ?stop
    case assign =>
      intro l pre x W K hI hK
      conv => arg 6; simp [encZ]
      obtain ⟨⟨i1, i2, i3, i4⟩, iB, iz⟩ := hI
      have hk := KpSetRow (S := fun i => i = W.heap.size) (W.alloc (.cells #[.int .u32 0, .int .u32 0, .int .u8 0, .int .u8 0, .int .u32 0, .int .u32 0] 30)) W.heap.size (fzA x) rfl
      have hb : Below W.heap.size W ((W.alloc (.cells #[.int .u32 0, .int .u32 0, .int .u8 0, .int .u8 0, .int .u32 0, .int .u32 0] 30)).setRow W.heap.size (fzA x)) := (bel1 _ _).trans (hk.below (by simp) (fun i e => by omega))
      have HK := dhid (fun a' ha => hK a' ((W.alloc (.cells #[.int .u32 0, .int .u32 0, .int .u8 0, .int .u8 0, .int .u32 0, .int .u32 0] 30)).setRow W.heap.size (fzA x)) (Upon.of_below hb) ⟨Fr.of hb, fun hc => hc.below (hb.mono (by omega))⟩
        ⟨⟨boxed_belz i1 hb, boxed_belz i2 hb, boxed_belz i3 hb, boxed_belz i4 hb⟩, iB.trans (hb.mono iB.size), Nat.le_trans iz hb.size⟩ ⟨W.heap.size, iz, setRow_heap _ _ _ _ _ _ (heap_alloc_new W _), ha⟩)
      clear hK hk hb
      gi_wp2_with (refine wpListIn_store_rowZ rfl _ _ _ rfl W.heap.size (fzA fz0) (fzA x) rfl rfl (heap_alloc_new W _) (by rw [sizeFz]; rfl) rfl (by simp [fzA, Value.oneCell']) ?_)
      exact HK.out _ rfl
    case body =>
      rintro l pre x a' W hl hrec ⟨⟨i1, i2, i3, i4⟩, iB, iz⟩ ⟨R, hR1, hR2, rfl⟩ hlen hp
      obtain ⟨p1, p2, p3, p4⟩ := thS_pre _ _ _ _ _ HWS.out hp
      rw [HSL.out] at p3
      obtain ⟨x0, x1, x2, x3, x4, x5⟩ := x
      simp only at p1 p2 p3
      subst p1
      obtain ⟨f0, f1, -, -, -, -⟩ := fz_cells hR2
      simp only at f0 f1
      have c1 := i1.cell
      have c2 := i2.cell
      have c3 := i3.cell
      have hz1 := i1.frozen
      have hz2 := i2.frozen
      have g1 : ¬ (x1 : Int) < 1 := by omega
      have hlS := dhid (lnS_app pre ⟨a + lnS pre, x1, x2, x3, x4, x5⟩)
      have HII := dhid (And.intro i1 (And.intro i2 (And.intro i3 i4)))
      generalize hnx : a + lnS pre = nx at *
      have g2 : (nx : Int) + (x1 : Int) ≤ (e : Int) := by omega
      have g3 : (nx : Int) + (x1 : Int) < 4294967296 := by omega
      have HNX := dhid hnx
      have v0 : IntKind.u64.wrap (e : Int) = (e : Int) := by rw [IntKind.wrap_u64]; omega
      have v1 : IntKind.u64.wrap (nx : Int) = (nx : Int) := by rw [IntKind.wrap_u64]; omega
      have v2 : IntKind.u64.wrap (x1 : Int) = (x1 : Int) := by rw [IntKind.wrap_u64]; omega
      have v3 : IntKind.u64.wrap ((nx : Int) + (x1 : Int)) = (nx : Int) + (x1 : Int) := by rw [IntKind.wrap_u64]; omega
      have v4 : IntKind.u32.wrap ((nx : Int) + (x1 : Int)) = (nx : Int) + (x1 : Int) := by rw [IntKind.wrap_u32]; omega
      have hpl := dhid p4
      have HN := dhid (And.intro hn (And.intro ha (And.intro he hlen)))
      have g4 : ¬ (e : Int) < (nx : Int) + (x1 : Int) := by omega
      clear p2 p3 p4 hnx i1 i2 i3 i4 hn ha he hlen hp hrec g3 hl
      have hne : w2.heap.size + 1 ≠ w2.heap.size := by omega
      gi_wp2_with fail
      rw [show wrap64 ((pre.length : Int) + 1) = (pre.length : Int) + 1 by have := HN.out.2.2.2; unfold wrap64; omega]
      obtain ⟨j1, j2, j3, j4⟩ := HII.out
      have hS1 := Below.setCell (Below.refl w2.heap.size W) (p := ⟨w2.heap.size, 0, none⟩) (Nat.le_refl _) (.int .u32 ((nx : Int) + (x1 : Int)))
      have hS2 := hS1.setCell (p := ⟨w2.heap.size + 1, 0, none⟩) (by show w2.heap.size ≤ w2.heap.size + 1; omega) (.int .i64 ((pre.length : Int) + 1))
      refine ⟨(Upon.setCell _ _ _).trans (Upon.setCell _ _ _), ⟨⟨by simp [World.setCell], fun i cs t fr q1 q2 => ?_⟩, fun hc => hc.below hS2⟩, ⟨?_, ?_, (j3.other (by omega) _).other (by omega) _, (j4.other (by omega) _).other (by omega) _⟩, iB.trans (hS2.mono (by omega)), Nat.le_trans iz hS2.size⟩
      · have h1 : i ≠ w2.heap.size + 1 := by have := HSZ.out; omega
        have h2 : i ≠ w2.heap.size := by have := HSZ.out; omega
        exact (heap_set_neZ h1).trans ((heap_set_neZ h2).trans q2)
      · have := (j1.set (.int .u32 ((nx : Int) + (x1 : Int)))).other hne.symm (.int .i64 ((pre.length : Int) + 1))
        rw [hlS.out, show (a : Int) + ((lnS pre + x1 : Nat) : Int) = (nx : Int) + (x1 : Int) by rw [← HNX.out]; push_cast; omega]
        exact this
      · have := (j2.other hne (.int .u32 ((nx : Int) + (x1 : Int)))).set (.int .i64 ((pre.length : Int) + 1))
        rw [List.length_append]
        exact this
    case done =>
      rintro D ys W hD rfl ⟨⟨i1, i2, i3, i4⟩, iB, iz⟩ hK
      obtain ⟨e1, e2, e3⟩ := thS_end S.length S a HWS.out (Nat.le_refl _)
      change lnS (thsV S a) ≤ _ at e1
      change lnS (thsV S a) < _ → ¬ erV (S.getD (lnS (thsV S a)) (0, 0)).1 (S.getD (lnS (thsV S a)) (0, 0)).2 = 0 at e2
      change (thsV S a).length ≤ lnS (thsV S a) at e3
      rw [HSL.out] at e1
      generalize lnS (thsV S a) = p at *
      generalize (thsV S a).length = m at *
      have c1 := i1.cell
      have c2 := i2.cell
      have c3 := i3.cell
      have cr := i4.cell
      have fr := i4.frozen
      have vS : IntKind.u32.wrap ((e : Int) - (a : Int)) = (e : Int) - (a : Int) := by rw [IntKind.wrap_u32]; omega
      have vM : (m : Int) ≤ (e : Int) - (a : Int) := by omega
      by_cases hps : p < e - a
      · have hl2 : p < S.length := by rw [HSL.out]; exact hps
        have hE := e2 hl2
        rw [HSG.out p hl2] at hE
        obtain ⟨b, off, rfl, hbl, hc⟩ := HR.out (by omega)
        have y0 := (iB.cell (p := ⟨b, off + (a + p) * 2, none⟩) hbl).trans (hc (a + p) (by omega)).1
        have y1 := (iB.cell (p := ⟨b, off + (a + p) * 2 + 1, none⟩) hbl).trans (hc (a + p) (by omega)).2
        obtain ⟨hop, harg⟩ := hwf.at (show a + p < L.length by omega)
        generalize L.getD (a + p) (0, 0) = pp at y0 y1 hE hop harg
        obtain ⟨op, arg⟩ := pp
        simp only at y0 y1 hE hop harg
        have HCK := dhid (fun W => (callsIn_wide (n := 8)).2 (fcheck_any op arg W hop))
        have hd : ((erV op arg : Int) == 0) = false := by rw [beq_eq_false_iff_ne]; omega
        have hd' : ¬ (erV op arg : Int) = 0 := by omega
        have HBX := dhid (fun Z (hb : Below W.heap.size W Z) => And.intro (boxed_belz i2 hb) (And.intro (boxed_belz i3 hb) (And.intro (boxed_belz i4 hb) (And.intro (iB.trans (hb.mono iB.size)) ((hb.block D (Array.getElem?_eq_some_iff.1 hK).1).trans hK)))))
        generalize hq : a + p = q at *
        have g1 : (q : Int) < (e : Int) := by omega
        have g2 : (q : Int) < (L.length : Int) := by omega
        have HQ := dhid hq
        clear i1 i2 i3 i4 iB iz hK e1 e2 e3 hc hq hE
        gi_wp2_with (refine ⟨trivial, ?_⟩; gi_at_call 16; refine (HCK.out _).mono ?_; rintro en w3 ⟨rfl, hb3⟩
                     have c2' := (HBX.out w3 hb3).1.cell
                     have c3' := (HBX.out w3 hb3).2.1.cell
                     have cr' := (HBX.out w3 hb3).2.2.1.cell
                     have fr' := (HBX.out w3 hb3).2.2.1.frozen
                     have HX3 := dhid (HBX.out w3 hb3).2.2
                     clear HCK HBX)
        obtain ⟨hrb, hBB, hKK⟩ := HX3.out
        have hK' := (KeepsOthers.setCell w3 ⟨w.heap.size + 1, 0, none⟩ (.bool true)).same D _ hKK rfl
        refine ⟨by simp, .inl ⟨_, _, rfl, run_takeDeferred hK', ?_⟩⟩
        have hc5 := (boxed_stepz (hrb.set (.bool true)) (grownBy_putObj' _ D (.deferred none)) (fun r e => by cases e; exact ⟨_, hK', rfl⟩)).cell
        refine ⟨.bool true, ?_, rfl, (hBB.setCell (p := ⟨w.heap.size + 1, 0, none⟩) (by show w.heap.size ≤ w.heap.size + 1; omega) _).trans (belowK_b (w := w) (Nat.le_refl _) _ D _ _ (by have := B2.out.size; have := hb20.size; omega) hK' rfl rfl)⟩
        simp [results, Try.f4, go_sem, hc5]
      · have g1 : ¬ ((a + p : Nat) : Int) < (e : Int) := by omega
        have HI := dhid (And.intro i4 (And.intro iB (And.intro iz hK)))
        generalize hq : a + p = q at *
        clear i1 i2 i3 i4 iB iz hK e1 e2 e3 hq
        gi_wp2_with fail
        refine ⟨trivial, ?_⟩
        gi_wp2_with fail
        obtain ⟨hrb, hBB, hzz, hKK⟩ := HI.out
        have hK' := (KeepsOthers.setCell W ⟨w.heap.size + 1, 0, none⟩ (.bool true)).same D _ hKK rfl
        refine ⟨by simp, .inl ⟨_, _, rfl, run_takeDeferred hK', ?_⟩⟩
        have hc5 := (boxed_stepz (hrb.set (.bool true)) (grownBy_putObj' _ D (.deferred none)) (fun r e => by cases e; exact ⟨_, hK', rfl⟩)).cell
        refine ⟨.bool true, ?_, rfl, (hBB.setCell (p := ⟨w.heap.size + 1, 0, none⟩) (by show w.heap.size ≤ w.heap.size + 1; omega) _).trans (belowK_b (w := w) (Nat.le_refl _) _ D _ _ (by have := B2.out.size; have := hb20.size; omega) hK' rfl rfl)⟩
        simp [results, Try.f4, go_sem, hc5]
    case stop =>
      intro D c pre W _ _ h
      exact h.elim
  · have hS : rwS L a e = [] := if_neg hl
    by_cases hae : e ≤ a
    · have d1 : (e : Int) ≤ (a : Int) := by omega
      gi_wp2_with fail
      rw [hS] at hsc hk2 hsr
      refine range_outer (F := Fence.wide) rfl (by decide) (gf := 32) (lb := #[.pointer (some ⟨k1, 0, none⟩), .pointer (some ⟨k2, 0, none⟩)]) rfl trivial (enters_of Try.func32 (by kernel_rfl) rfl)
        (ths_own (9 - 1) (by decide) k1 k2 w2.heap.size so sc a [] w2 hsc (by simp; omega) (fun p hp => by cases hp) hk1 hk2 hsr (Nat.le_refl _)) Kz_t (Kz_b (w := w2)) (Below.refl _ _) (fun _ => rfl)
        (fun _ W => Boxed W (w.heap.size + 1) 4 (.bool false) ∧ Below w.heap.size w W) (fun _ _ _ => False)
        (OwnFrom.and (Own.from (fun t A B row h hg hr => boxed_stepz h hg hr) _) (ownFrom_below (Nat.le_refl _) B2.out.size)) (fun c t A B row h => h.elim) ⟨hr2, B2.out⟩ (fun _ _ _ => True) (fun x a' t A B row _ _ _ => trivial)
        ?assign ?body ?done ?stop
      case assign =>
        intro l pre x W K hI hK
        conv => arg 6; simp [encZ]
        gi_wp2
        exact hK _ _ (Upon.refl _ _) ⟨⟨Nat.le_refl _, fun _ _ _ _ _ h => h⟩, id⟩ hI trivial
      case body =>
        intro l pre x a' W _ _ _ _ _ hp
        have := List.IsPrefix.length_le hp
        simp [thsV, thS] at this
      case done =>
        rintro D xs W hD - ⟨hrb, hBB⟩ hK
        have cr := hrb.cell
        have fr := hrb.frozen
        gi_wp2
        have hK' := (KeepsOthers.setCell W ⟨w.heap.size + 1, 0, none⟩ (.bool true)).same D _ hK rfl
        refine ⟨by simp, .inl ⟨_, _, rfl, run_takeDeferred hK', ?_⟩⟩
        have hc5 := (boxed_stepz (hrb.set (.bool true)) (grownBy_putObj' _ D (.deferred none)) (fun r e => by cases e; exact ⟨_, hK', rfl⟩)).cell
        refine ⟨.bool true, ?_, rfl, (hBB.setCell (p := ⟨w.heap.size + 1, 0, none⟩) (by show w.heap.size ≤ w.heap.size + 1; omega) _).trans (belowK_b (w := w) (Nat.le_refl _) _ D _ _ (by have := B2.out.size; omega) hK' rfl rfl)⟩
        simp [results, Try.f4, go_sem, hc5]
      case stop =>
        intro D c pre W _ _ h
        exact h.elim
    · have d1 : ¬ (e : Int) ≤ (a : Int) := by omega
      have d2 : ¬ (e : Int) ≤ (L.length : Int) := by omega
      gi_wp2_with fail
      rw [hS] at hsc hk2 hsr
      refine range_outer (F := Fence.wide) rfl (by decide) (gf := 32) (lb := #[.pointer (some ⟨k1, 0, none⟩), .pointer (some ⟨k2, 0, none⟩)]) rfl trivial (enters_of Try.func32 (by kernel_rfl) rfl)
        (ths_own (9 - 1) (by decide) k1 k2 w2.heap.size so sc a [] w2 hsc (by simp; omega) (fun p hp => by cases hp) hk1 hk2 hsr (Nat.le_refl _)) Kz_t (Kz_b (w := w2)) (Below.refl _ _) (fun _ => rfl)
        (fun _ W => Boxed W (w.heap.size + 1) 4 (.bool false) ∧ Below w.heap.size w W) (fun _ _ _ => False)
        (OwnFrom.and (Own.from (fun t A B row h hg hr => boxed_stepz h hg hr) _) (ownFrom_below (Nat.le_refl _) B2.out.size)) (fun c t A B row h => h.elim) ⟨hr2, B2.out⟩ (fun _ _ _ => True) (fun x a' t A B row _ _ _ => trivial)
        ?assign ?body ?done ?stop
      case assign =>
        intro l pre x W K hI hK
        conv => arg 6; simp [encZ]
        gi_wp2
        exact hK _ _ (Upon.refl _ _) ⟨⟨Nat.le_refl _, fun _ _ _ _ _ h => h⟩, id⟩ hI trivial
      case body =>
        intro l pre x a' W _ _ _ _ _ hp
        have := List.IsPrefix.length_le hp
        simp [thsV, thS] at this
      case done =>
        rintro D xs W hD - ⟨hrb, hBB⟩ hK
        have cr := hrb.cell
        have fr := hrb.frozen
        gi_wp2
        have hK' := (KeepsOthers.setCell W ⟨w.heap.size + 1, 0, none⟩ (.bool true)).same D _ hK rfl
        refine ⟨by simp, .inl ⟨_, _, rfl, run_takeDeferred hK', ?_⟩⟩
        have hc5 := (boxed_stepz (hrb.set (.bool true)) (grownBy_putObj' _ D (.deferred none)) (fun r e => by cases e; exact ⟨_, hK', rfl⟩)).cell
        refine ⟨.bool true, ?_, rfl, (hBB.setCell (p := ⟨w.heap.size + 1, 0, none⟩) (by show w.heap.size ≤ w.heap.size + 1; omega) _).trans (belowK_b (w := w) (Nat.le_refl _) _ D _ _ (by have := B2.out.size; omega) hK' rfl rfl)⟩
        simp [results, Try.f4, go_sem, hc5]
      case stop =>
        intro D c pre W _ _ h
        exact h.elim
end Go.Proofs.Ytdpghhkimnifjaa
