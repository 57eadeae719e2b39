import Derived.Test.YtgbpfejodpplbaaGreatDoorCFHq
import Derived.Test.YtgbpfejodpplbaaGreatDoorCFWy
import Derived.Sort.LoopGhostIn
import Derived.Scope
namespace Go.Proofs.YtgbpfejodpplbaaGreatDoor
open Go.RowKit Go.WideShapes Go.Shelf
set_option maxRecDepth 100000

set_option maxHeartbeats 1000000 in
/-- container/heap.Push -/
theorem hpush_any {B kw g cap : Nat} {Wt : List Nat} (x : Nat) (w : World) (hl : Wt.length < 1000000) (hB : B ≤ w.heap.size) (ho : HpO Wt) (h : HpW w B kw g cap Wt) :
    Calls Tryz.prog 86 #[ifW kw, .iface 25 (.int .u32 x)] w fun e w' => (∃ v, e = .returned v) ∧ ∃ g' cap' Wt', Wt'.Perm (x :: Wt) ∧ HpO Wt' ∧ HpW w' B kw g' cap' Wt' ∧ (g' = g ∨ w.heap.size ≤ g') ∧ Kp (fun k => k = g ∨ k = kw) w w' := by
  have HP := push_any x w (Nat.le_of_lt hl) hB h
  have hmp := meth_push w kw
  have HU : Hid (∀ (W : World) (g' cap' : Nat), HpW W B kw g' cap' (Wt ++ [x]) → (method 322 158 (.pointer (some ⟨kw, 0, none⟩)) "Len").run Tryz.prog W = .ok (81, .slice (some ⟨g', 0, none⟩) (Wt.length + 1) cap') W ∧ Calls Tryz.prog 81 #[.slice (some ⟨g', 0, none⟩) (Wt.length + 1) cap'] W (fun e w' => e = .returned (.int .i64 (Wt.length + 1 : Nat)) ∧ w' = W) ∧ Calls Tryz.prog 104 #[ifW kw, .int .i64 (Wt.length : Nat)] W (fun e w' => (∃ v, e = .returned v) ∧ ∃ Wt', Wt'.Perm (Wt ++ [x]) ∧ HpO Wt' ∧ HpW w' B kw g' cap' Wt' ∧ Kp (fun k => k = g') W w' ∧ w'.heap.size = W.heap.size)) := hidS (fun W g' cap' hW => by
    have c0 := hW.bx.cell
    rw [List.length_append, List.length_singleton] at c0
    exact ⟨meth_len c0, wlen_any _ _ _ _, up_any (Wt ++ [x]) Wt.length W (by simp; omega) (by simp) (UpI.ofPush ho x) hW⟩)
  have hI : ((Wt.length + 1 : Nat) : Int) - 1 = (Wt.length : Int) := by omega
  have hlk : w.heap.size = w.heap.size := rfl
  clear h hB ho
  generalize hm : Wt.length = m at *
  clear hm
  go_enter Tryz.func86, Tryz.ntmps86
  go_wp2_with (first
    | (go_at_call 146; with_reducible refine HP.mono ?_; rintro e w1 ⟨⟨v1, rfl⟩, g1, cap1, h1, hg1, hk1⟩; obtain ⟨hm1, hl1, hu1⟩ := HU.out w1 g1 cap1 h1)
    | (go_at_call 81; with_reducible refine hl1.mono ?_; rintro e w2 ⟨rfl, hw2⟩; subst hw2)
    | (go_at_call 104; with_reducible refine hu1.mono ?_; rintro e w3 ⟨⟨v3, rfl⟩, W3, hp3, ho3, h3, hk3, hz3⟩))
  refine bodyPost_end (results_none rfl _ _ _) rfl ⟨⟨_, rfl⟩, g1, cap1, W3, hp3.trans (List.perm_append_singleton x Wt), ho3, h3, hg1, hk1.trans hk3 (fun i hi e => ?_)⟩
  rcases hg1 with q | q
  · exact .inl (e.trans q)
  · omega
set_option maxHeartbeats 1000000 in
/-- container/heap.Pop -/
theorem hpop_any {B kw g cap : Nat} {Wt : List Nat} (w : World) (h0 : 0 < Wt.length) (hl : Wt.length ≤ 1000000) (ho : HpO Wt) (h : HpW w B kw g cap Wt) :
    Calls Tryz.prog 82 #[ifW kw] w fun e w' => ∃ x Wt', e = .returned (.iface 25 (.int .u32 (x : Nat))) ∧ (x :: Wt').Perm Wt ∧ (∀ y ∈ Wt', x ≤ y) ∧ HpO Wt' ∧ HpW w' B kw g cap Wt' ∧ Kp (fun k => k = g ∨ k = kw) w w' ∧ w'.heap.size = w.heap.size := by
  obtain ⟨n, hn⟩ : ∃ n, Wt.length = n + 1 := ⟨Wt.length - 1, by omega⟩
  have c0 := h.bx.cell
  have hm1 := meth_len c0
  have hm2 := meth_swap c0
  have HLn := wlen_any (some ⟨g, 0, none⟩) Wt.length cap w
  have HSw : Calls Tryz.prog 147 #[.slice (some ⟨g, 0, none⟩) Wt.length cap, .int .i64 0, .int .i64 n] w fun e w' => (∃ v, e = .returned v) ∧ HpW w' B kw g cap (swp Wt 0 n) ∧ Kp (fun k => k = g) w w' ∧ w'.heap.size = w.heap.size := swap_any 0 n w (by omega) (by omega) h
  have HDn : Hid (∀ (W : World), HpW W B kw g cap (swp Wt 0 n) → Calls Tryz.prog 101 #[ifW kw, .int .i64 0, .int .i64 n] W (fun e w' => (∃ v, e = .returned v) ∧ ∃ Wt', Wt'.Perm Wt ∧ ((∀ i, 0 < i → i < n → Wt'.getD ((i - 1) / 2) 0 ≤ Wt'.getD i 0) ∧ Wt'.getD n 0 = Wt.getD 0 0) ∧ HpW w' B kw g cap Wt' ∧ Kp (fun k => k = g) W w' ∧ w'.heap.size = W.heap.size)) := hidS (fun W hW => by
    have hlen : (swp Wt 0 n).length = Wt.length := by simp [swp]
    have hgt := swp_get (W := Wt) (a := 0) (b := n) (by omega) (by omega)
    have hdn : DnI (swp Wt 0 n) 0 n := ⟨fun i h1 h2 h3 => by
      rw [hgt, hgt, if_neg (by omega), if_neg h3, if_neg (by omega), if_neg (by omega)]
      exact ho i h1 (by omega), fun i _ _ _ h4 => absurd h4 (by omega)⟩
    refine (down_any (swp Wt 0 n) n W (by omega) (by omega) hdn hW).mono ?_
    rintro e w' ⟨h1, W', h2, h2a, h2b, h3⟩
    exact ⟨h1, W', h2.trans (swp_perm (by omega) (by omega)), ⟨h2a, by rw [h2b n (Nat.le_refl _), hgt, if_pos rfl]⟩, h3⟩)
  have HPo : Hid (∀ (W : World) (V : List Nat), V.Perm Wt → ((∀ i, 0 < i → i < n → V.getD ((i - 1) / 2) 0 ≤ V.getD i 0) ∧ V.getD n 0 = Wt.getD 0 0) → HpW W B kw g cap V → Calls Tryz.prog 145 #[.pointer (some ⟨kw, 0, none⟩)] W (fun e w' => ∃ x Wt', e = .returned (.iface 25 (.int .u32 (x : Nat))) ∧ (x :: Wt').Perm Wt ∧ (∀ y ∈ Wt', x ≤ y) ∧ HpO Wt' ∧ HpW w' B kw g cap Wt' ∧ Kp (fun k => k = kw) W w' ∧ w'.heap.size = W.heap.size)) := hidS (fun W V hV hVo hW => by
    obtain ⟨V', x, rfl⟩ : ∃ V' x, V = V' ++ [x] := by
      have hne : V ≠ [] := fun e => by have := hV.length_eq; rw [e] at this; simp at this; omega
      exact ⟨V.dropLast, V.getLast hne, (List.dropLast_concat_getLast hne).symm⟩
    refine (popm_any (Wt := V') (x := x) W (by have := hV.length_eq; simp at this; omega) hW).mono ?_
    rintro e w' ⟨rfl, h1, h2, h3⟩
    have hVl : V'.length = n := by have := hV.length_eq; simp at this; omega
    have hg1 : ∀ i, i < n → (V' ++ [x]).getD i 0 = V'.getD i 0 := fun i hi => by rw [List.getD_eq_getElem?_getD, List.getElem?_append_left (by omega), List.getD_eq_getElem?_getD]
    have hgx : (V' ++ [x]).getD n 0 = x := by rw [← hVl]; simp [List.getD_eq_getElem?_getD]
    have hPm := (List.perm_append_singleton x V').symm.trans hV
    refine ⟨x, V', rfl, hPm, fun y hy => ?_, fun i a b => ?_, h1, h2, h3⟩
    · have hx0 : x = Wt.getD 0 0 := by rw [← hVo.2, hgx]
      obtain ⟨i, hi, rfl⟩ := List.mem_iff_getElem.1 (hPm.subset (List.mem_cons_of_mem x hy))
      have := ho.root i hi
      rw [hx0]
      simpa [List.getD_eq_getElem?_getD, hi] using this
    · have := hVo.1 i a (by omega)
      rwa [hg1 _ (by omega), hg1 _ (by omega)] at this)
  have hmp := fun W => meth_pop W kw
  have hI : ((n + 1 : Nat) : Int) - 1 = (n : Int) := by omega
  rw [hn] at hm1 hm2 HLn HSw
  have hnl : n ≤ 1000000 := by omega
  clear c0 h hn h0 hl ho
  go_enter Tryz.func82, Tryz.ntmps82
  go_wp2_with (first
    | (go_at_call 81; with_reducible refine HLn.mono ?_; rintro e w2 ⟨rfl, hw2⟩; subst hw2)
    | (go_at_call 147; with_reducible refine HSw.mono ?_; rintro e w3 ⟨⟨v3, rfl⟩, h3, hk3, hz3⟩)
    | (go_at_call 101; with_reducible refine (HDn.out _ h3).mono ?_; rintro e w4 ⟨⟨v4, rfl⟩, V4, hp4, ho4, h4, hk4, hz4⟩; have HO4 := hidS ho4; clear ho4; have hmp4 := hmp w4)
    | (go_at_call 145; with_reducible refine (HPo.out _ _ hp4 HO4.out h4).mono ?_; rintro e w5 ⟨x, V5, rfl, hp5, hls5, ho5, h5, hk5, hz5⟩; have HL5 := hidS (And.intro hls5 ho5); clear hls5 ho5))
  go_ret
  exact ⟨x, V5, rfl, hp5, HL5.out.1, HL5.out.2, h5, ((hk3.trans hk4 (fun _ _ q => q)).mono (S' := fun k => k = g ∨ k = kw) (fun _ _ q => .inl q)).trans hk5 (fun _ _ q => .inr q), by rw [hz5, hz4, hz3]⟩
end Go.Proofs.YtgbpfejodpplbaaGreatDoor
namespace Go.Proofs.YtgbpfejodpplbaaGreatDoor
open Go.RowKit Go.WideShapes Go.Shelf
set_option maxRecDepth 100000
attribute [local go_sem] Oper.semAt_some

/-- depths in memory -/
abbrev DpW (w : World) (B gd cp : Nat) (D : List Int) : Prop := w.ownsRow B 3 1 (.slice (some ⟨gd, 0, none⟩) D.length cp) D.length (D.map fun z => Value.int .i64 z)
theorem DpW.cell {w : World} {B gd cp : Nat} {D : List Int} (h : DpW w B gd cp D) {i : Nat} (hi : i < D.length) : w.cell? ⟨gd, i, none⟩ = some (.int .i64 (D.getD i (-1))) := by
  refine (h.cellAt i (by omega)).trans ?_
  simp [List.getElem?_eq_getElem hi, List.getD_eq_getElem?_getD]
theorem DpW.obj {w : World} {B gd cp : Nat} {D : List Int} (h : DpW w B gd cp D) : ∃ cur, w.heap[gd]? = some (.cells cur 3 (0, 0)) := by
  rcases h.2 with ⟨hn, _⟩ | ⟨g', cap', cur', e1, e2, e3, e4⟩
  · cases hn
  · cases e1
    exact ⟨_, e3⟩
theorem DpW.thaw {w : World} {B gd cp : Nat} {D : List Int} (h : DpW w B gd cp D) (i : Nat) : w.frozen? ⟨gd, i, none⟩ = false := by
  obtain ⟨cur, e⟩ := h.obj
  exact obj_frozen e i
theorem DpW.put {w : World} {B gd cp : Nat} {D : List Int} (h : DpW w B gd cp D) (i : Nat) (x : Int) : DpW (w.setCell ⟨gd, i, none⟩ (.int .i64 x)) B gd cp (D.set i x) := by
  unfold DpW
  rw [List.length_set]
  rcases h with ⟨hl, ⟨hn, _⟩ | ⟨g', cap', cur', e1, e2, e3, e4, e5, e6, e7⟩⟩
  · cases hn
  · cases e1
    refine ⟨by simp, .inr ⟨gd, cp, cur'.setIfInBounds i (.int .i64 x), rfl, e2, ?_, e4, e5, by simp [e6], ?_⟩⟩
    · rw [heap_setCell_same w gd i _ _ _ e3]
    · rw [Array.toList_setIfInBounds, List.take_set, e7]
      simp [List.map_set]
/-- what a walk has in memory -/
structure WkS (w0 w : World) (gd cp x : Nat) (D : List Int) (Wt Ds : List Nat) (V : World) : Prop where
  gl : gd < w.heap.size
  kp : Kp (fun i => i = gd) w V
  dp : DpW V w0.heap.size gd cp D
  bd : Boxed V w.heap.size 52 (.slice (some ⟨gd, 0, none⟩) D.length cp)
  be : Boxed V (w.heap.size + 1) 30 (.int .i64 x)
  bb : Boxed V (w.heap.size + 1 + 1 + 1 + 1) 158 (.pointer (some ⟨w.heap.size + 1 + 1 + 1, 0, none⟩))
  hp : ∃ g c, HpW V w.heap.size (w.heap.size + 1 + 1 + 1) g c Wt
  ms : Ds.Nodup ∧ ∀ d ∈ Ds, w.heap.size ≤ d ∧ V.heap[d]? = some (.deferred (some []))
theorem HpW.kept {S : Nat → Prop} {w w' : World} {B kw g cap : Nat} {Wt : List Nat} (h : HpW w B kw g cap Wt) (hk : Kp S w w') (h1 : ¬ S kw) (h2 : ¬ S g) : HpW w' B kw g cap Wt :=
  ⟨(hk.block kw h.bx.lt h1).trans h.bx, hk.own h.row (fun k e => by cases e; exact h2)⟩
theorem HpW.obj {w : World} {B kw g cap : Nat} {Wt : List Nat} (h : HpW w B kw g cap Wt) : B ≤ g ∧ ∃ cur, w.heap[g]? = some (.cells cur 25 (0, 0)) := by
  rcases h.row.2 with ⟨hn, _⟩ | ⟨g', cap', cur', e1, e2, e3, e4⟩
  · cases hn
  · cases e1
    exact ⟨e2, _, e3⟩
theorem WkS.frame {S : Nat → Prop} {w0 w : World} {gd cp x : Nat} {D : List Int} {Wt Wp Ds : List Nat} {V V' : World} (h : WkS w0 w gd cp x D Wt Ds V) (hk : Kp S V V') (h1 : ∀ i, i < w.heap.size → ¬ S i) (h2 : ¬ S w.heap.size) (h3 : ¬ S (w.heap.size + 1)) (h4 : ¬ S (w.heap.size + 1 + 1 + 1 + 1)) (h5 : ∀ d ∈ Ds, ¬ S d) (hp : ∃ g c, HpW V' w.heap.size (w.heap.size + 1 + 1 + 1) g c Wp) : WkS w0 w gd cp x D Wp Ds V' :=
  ⟨h.gl, h.kp.trans hk (fun i hi q => (h1 i hi q).elim), hk.own h.dp (fun k e => by cases e; exact h1 _ h.gl), (hk.block _ h.bd.lt h2).trans h.bd, (hk.block _ h.be.lt h3).trans h.be, (hk.block _ h.bb.lt h4).trans h.bb, hp, h.ms.1, fun d hd => ⟨(h.ms.2 d hd).1, (hk.block d (Array.getElem?_eq_some_iff.1 (h.ms.2 d hd).2).1 (h5 d hd)).trans (h.ms.2 d hd).2⟩⟩
theorem WkS.below {w0 w : World} {gd cp x : Nat} {D : List Int} {Wt Ds : List Nat} {V V' : World} (h : WkS w0 w gd cp x D Wt Ds V) (hb : Below V.heap.size V V') : WkS w0 w gd cp x D Wt Ds V' := by
  obtain ⟨g, c, hw⟩ := h.hp
  exact h.frame (Kp.ofBelow (S := fun _ => False) hb) (fun _ _ q => q) (fun q => q) (fun q => q) (fun q => q) (fun _ _ q => q) ⟨g, c, hw.kept (Kp.ofBelow (S := fun _ => False) hb) (fun q => q) (fun q => q)⟩
theorem WkS.row {w0 w : World} {gd cp x g c : Nat} {D : List Int} {Wt Ds : List Nat} {V : World} (h : WkS w0 w gd cp x D Wt Ds V) (hw : HpW V w.heap.size (w.heap.size + 1 + 1 + 1) g c Wt) : w.heap.size ≤ g ∧ g ≠ w.heap.size ∧ g ≠ w.heap.size + 1 ∧ g ≠ w.heap.size + 1 + 1 + 1 ∧ g ≠ w.heap.size + 1 + 1 + 1 + 1 ∧ ∀ d ∈ Ds, d ≠ g := by
  obtain ⟨h1, cur, ho⟩ := hw.obj
  refine ⟨h1, fun e => ?_, fun e => ?_, fun e => hw.ne e.symm, fun e => ?_, fun d hd e => ?_⟩
  · have h2 : V.heap[w.heap.size]? = _ := h.bd
    rw [e, h2] at ho
    cases ho
  · have h2 : V.heap[w.heap.size + 1]? = _ := h.be
    rw [e, h2] at ho
    cases ho
  · have h2 : V.heap[w.heap.size + 1 + 1 + 1 + 1]? = _ := h.bb
    rw [e, h2] at ho
    cases ho
  · rw [← e, (h.ms.2 d hd).2] at ho
    cases ho
theorem WkS.kwd {w0 w : World} {gd cp x g c : Nat} {D : List Int} {Wt Ds : List Nat} {V : World} (h : WkS w0 w gd cp x D Wt Ds V) (hw : HpW V w.heap.size (w.heap.size + 1 + 1 + 1) g c Wt) : ∀ d ∈ Ds, d ≠ w.heap.size + 1 + 1 + 1 := fun d hd e => by
  have h2 : V.heap[w.heap.size + 1 + 1 + 1]? = _ := hw.bx
  have h3 := (h.ms.2 d hd).2
  rw [e, h2] at h3
  cases h3
/-- the words that wait have changed -/
theorem WkS.upd {w0 w : World} {gd cp x g c g' c' : Nat} {D : List Int} {Wt Wp Ds : List Nat} {V V' : World} (h : WkS w0 w gd cp x D Wt Ds V) (hw : HpW V w.heap.size (w.heap.size + 1 + 1 + 1) g c Wt) (hw' : HpW V' w.heap.size (w.heap.size + 1 + 1 + 1) g' c' Wp) (hk : Kp (fun k => k = g ∨ k = w.heap.size + 1 + 1 + 1) V V') : WkS w0 w gd cp x D Wp Ds V' := by
  obtain ⟨r1, r2, r3, r4, r5, r6⟩ := h.row hw
  refine h.frame hk (fun i hi q => ?_) (fun q => ?_) (fun q => ?_) (fun q => ?_) (fun d hd q => ?_) ⟨g', c', hw'⟩
  · rcases q with q | q <;> omega
  · rcases q with q | q <;> omega
  · rcases q with q | q <;> omega
  · rcases q with q | q <;> omega
  · rcases q with q | q
    · exact r6 d hd q
    · exact h.kwd hw d hd q
/-- a depth is laid down -/
theorem WkS.dset {w0 w : World} {gd cp x : Nat} {D : List Int} {Wt Ds : List Nat} {V : World} (h : WkS w0 w gd cp x D Wt Ds V) (j : Nat) (r : Int) : WkS w0 w gd cp x (D.set j r) Wt Ds (V.setCell ⟨gd, j, none⟩ (.int .i64 r)) := by
  have hk := Kp.setCell (S := fun i => i = gd) V ⟨gd, j, none⟩ (.int .i64 r) rfl
  have hg := h.gl
  obtain ⟨g, c, hw⟩ := h.hp
  have r1 := hw.obj.1
  refine ⟨hg, h.kp.trans hk (fun _ _ q => q), DpW.put h.dp j r, by rw [List.length_set]; exact (hk.block _ h.bd.lt (by show ¬ _ = gd; omega)).trans h.bd, (hk.block _ h.be.lt (by show ¬ _ = gd; omega)).trans h.be, (hk.block _ h.bb.lt (by show ¬ _ = gd; omega)).trans h.bb, ⟨g, c, hw.kept hk (by show ¬ _ = gd; omega) (by show ¬ _ = gd; omega)⟩, h.ms.1, fun d hd => ⟨(h.ms.2 d hd).1, (hk.block d (Array.getElem?_eq_some_iff.1 (h.ms.2 d hd).2).1 (by have := (h.ms.2 d hd).1; show ¬ _ = gd; omega)).trans (h.ms.2 d hd).2⟩⟩
/-- an error is laid down -/
theorem WkS.err {w0 w : World} {gd cp x : Nat} {D : List Int} {Wt Ds : List Nat} {V : World} (h : WkS w0 w gd cp x D Wt Ds V) (y : Nat) : WkS w0 w gd cp y D Wt Ds (V.setCell ⟨w.heap.size + 1, 0, none⟩ (.int .i64 y)) := by
  have hk := Kp.setCell (S := fun i => i = w.heap.size + 1) V ⟨w.heap.size + 1, 0, none⟩ (.int .i64 y) rfl
  have hg := h.gl
  obtain ⟨g, c, hw⟩ := h.hp
  obtain ⟨r1, r2, r3, r4, r5, r6⟩ := h.row hw
  refine ⟨hg, h.kp.trans hk (fun i hi q => by omega), hk.own h.dp (fun k e => by cases e; show ¬ gd = _; omega), (hk.block _ h.bd.lt (by show ¬ _ = w.heap.size + 1; omega)).trans h.bd, h.be.set _, (hk.block _ h.bb.lt (by show ¬ _ = w.heap.size + 1; omega)).trans h.bb, ⟨g, c, hw.kept hk (by show ¬ _ = w.heap.size + 1; omega) r3⟩, h.ms.1, fun d hd => ⟨(h.ms.2 d hd).1, (hk.block d (Array.getElem?_eq_some_iff.1 (h.ms.2 d hd).2).1 (fun q => ?_)).trans (h.ms.2 d hd).2⟩⟩
  have h1 := (h.ms.2 d hd).2
  have h2 : V.heap[w.heap.size + 1]? = _ := h.be
  have q2 : d = w.heap.size + 1 := q
  rw [q2, h2] at h1
  cases h1
/-- a number of another box is laid down -/
theorem WkS.rset {w0 w : World} {gd cp x : Nat} {D : List Int} {Wt Ds : List Nat} {V : World} (h : WkS w0 w gd cp x D Wt Ds V) (q : Nat) (v : Value) (hq : w.heap.size + 5 ≤ q) {cs : Array Value} (ho : V.heap[q]? = some (.cells cs 3 (0, 0))) : WkS w0 w gd cp x D Wt Ds (V.setCell ⟨q, 0, none⟩ v) := by
  have hk := Kp.setCell (S := fun i => i = q) V ⟨q, 0, none⟩ v rfl
  obtain ⟨g, c, hw⟩ := h.hp
  have hgq : g ≠ q := fun e => by
    obtain ⟨_, cur, ho2⟩ := hw.obj
    rw [e, ho] at ho2
    cases ho2
  refine h.frame hk (fun i hi e => by omega) (by omega) (by omega) (by omega) (fun d hd e => ?_) ⟨g, c, hw.kept hk (by show ¬ _ = q; omega) hgq⟩
  have h1 := (h.ms.2 d hd).2
  rw [show d = q from e, ho] at h1
  cases h1
/-- loops and marks come and go -/
theorem WkS.step {w0 w : World} {gd cp x : Nat} {D : List Int} {Wt Ds : List Nat} {A C : World} {row : Option Nat} (h : WkS w0 w gd cp x D Wt Ds A) (hg : A.grownBy C row) (hr : ∀ r, row = some r → (∀ d ∈ Ds, d ≠ r) ∧ w.heap.size ≤ r ∧ ∃ o : Obj, A.heap[r]? = some o ∧ o.isCells = false) : WkS w0 w gd cp x D Wt Ds C := by
  obtain ⟨g, c, hw⟩ := h.hp
  have hk : Kp (fun k => row = some k) A C := Kp.ofGrown hg (fun i e _ => e)
  have no : ∀ b cs t fr, A.heap[b]? = some (.cells cs t fr) → ¬ row = some b := fun b cs t fr hb e => by
    obtain ⟨_, _, o, ho, hc⟩ := hr b e
    rw [hb] at ho
    cases ho
    cases hc
  obtain ⟨_, cur, ho⟩ := hw.obj
  exact h.frame hk (fun i hi e => by have := (hr i e).2.1; omega) (no _ _ _ _ h.bd) (no _ _ _ _ h.be) (no _ _ _ _ h.bb) (fun d hd e => (hr d e).1 d hd rfl) ⟨g, c, hw.kept hk (no _ _ _ _ hw.bx) (no _ _ _ _ ho)⟩
theorem WkS.base {w0 w : World} {gd cp x : Nat} {D : List Int} {Wt Ds : List Nat} {V : World} (h : WkS w0 w gd cp x D Wt Ds V) (hb0 : Below w0.heap.size w0 w) : Below w0.heap.size w0 V :=
  hb0.trans (h.kp.below hb0.size (fun i e => by have := (h.dp.lt gd rfl).1; omega))
/-- a mark more -/
theorem WkS.mark {w0 w : World} {gd cp x d : Nat} {D : List Int} {Wt Ds : List Nat} {V : World} (h : WkS w0 w gd cp x D Wt Ds V) (hd : w.heap.size ≤ d) (hn : ∀ y ∈ Ds, y ≠ d) (ho : V.heap[d]? = some (.deferred (some []))) : WkS w0 w gd cp x D Wt (d :: Ds) V :=
  ⟨h.gl, h.kp, h.dp, h.bd, h.be, h.bb, h.hp, List.nodup_cons.2 ⟨fun q => hn d q rfl, h.ms.1⟩, fun y hy => by
    rcases List.mem_cons.1 hy with q | q
    · rw [q]; exact ⟨hd, ho⟩
    · exact h.ms.2 y q⟩
/-- the beginning -/
theorem WkS.start {w0 w : World} {gd cp b : Nat} {D0 : List Int} (hD : DpW w w0.heap.size gd cp D0) : WkS w0 w gd cp 0 (D0.set b 0) [b] [] ((((((w.setCell ⟨gd, b, none⟩ (.int .i64 0)).alloc (.cells #[.slice (some ⟨gd, 0, none⟩) D0.length cp] 52)).alloc (.cells #[.int .i64 0] 30)).alloc (.cells #[.int .u32 (b : Int)] 25)).alloc (.cells #[.slice (some ⟨w.heap.size + 1 + 1, 0, none⟩) 1 1] 159)).alloc (.cells #[.pointer (some ⟨w.heap.size + 1 + 1 + 1, 0, none⟩)] 158)) := by
  have hgl := (hD.lt gd rfl).2
  obtain ⟨w1, hw1⟩ : ∃ w1, w.setCell ⟨gd, b, none⟩ (.int .i64 0) = w1 := ⟨_, rfl⟩
  have hs1 : w1.heap.size = w.heap.size := by rw [← hw1]; simp
  have hk1 : Kp (fun i => i = gd) w w1 := by rw [← hw1]; exact Kp.setCell _ _ _ rfl
  have hd1 : DpW w1 w0.heap.size gd cp (D0.set b 0) := by rw [← hw1]; exact DpW.put hD b 0
  rw [hw1]
  have hbl : ∀ o1 o2 o3 o4 o5, Below w1.heap.size w1 (((((w1.alloc o1).alloc o2).alloc o3).alloc o4).alloc o5) := fun _ _ _ _ _ => belP (belP (belP (belP (belP (Below.refl _ _)))))
  refine ⟨hgl, hk1.trans (Kp.ofBelow (S := fun _ => False) (hbl _ _ _ _ _)) (fun _ _ q => q.elim), (Kp.ofBelow (S := fun _ => False) (hbl _ _ _ _ _)).own hd1 (fun _ _ q => q), ?_, ?_, ?_, ⟨w.heap.size + 1 + 1, 1, ?_, ?_⟩, List.nodup_nil, fun d hd => absurd hd (by simp)⟩
  · rw [List.length_set, ← hs1]
    exact ((((Boxed.new w1 _ _).alloc _).alloc _).alloc _).alloc _
  · have := (((Boxed.new (w1.alloc (.cells #[.slice (some ⟨gd, 0, none⟩) D0.length cp] 52)) 30 (.int .i64 0)).alloc (.cells #[.int .u32 (b : Int)] 25)).alloc (.cells #[.slice (some ⟨w.heap.size + 1 + 1, 0, none⟩) 1 1] 159)).alloc (.cells #[.pointer (some ⟨w.heap.size + 1 + 1 + 1, 0, none⟩)] 158)
    rw [World.size_alloc, hs1] at this
    exact this
  · have := Boxed.new ((((w1.alloc (.cells #[.slice (some ⟨gd, 0, none⟩) D0.length cp] 52)).alloc (.cells #[.int .i64 0] 30)).alloc (.cells #[.int .u32 (b : Int)] 25)).alloc (.cells #[.slice (some ⟨w.heap.size + 1 + 1, 0, none⟩) 1 1] 159)) 158 (.pointer (some ⟨w.heap.size + 1 + 1 + 1, 0, none⟩))
    simp only [World.size_alloc, hs1] at this
    exact this
  · have := (Boxed.new (((w1.alloc (.cells #[.slice (some ⟨gd, 0, none⟩) D0.length cp] 52)).alloc (.cells #[.int .i64 0] 30)).alloc (.cells #[.int .u32 (b : Int)] 25)) 159 (.slice (some ⟨w.heap.size + 1 + 1, 0, none⟩) 1 1)).alloc (.cells #[.pointer (some ⟨w.heap.size + 1 + 1 + 1, 0, none⟩)] 158)
    simp only [World.size_alloc, hs1] at this
    exact this
  · refine ⟨by simp [dv], .inr ⟨w.heap.size + 1 + 1, 1, #[.int .u32 (b : Int)], rfl, by omega, ?_, by simp, by unfold maxLen; omega, by simp, by simp [dv]⟩⟩
    have := heap_alloc_new ((w1.alloc (.cells #[.slice (some ⟨gd, 0, none⟩) D0.length cp] 52)).alloc (.cells #[.int .i64 0] 30)) (.cells #[.int .u32 (b : Int)] 25)
    simp only [World.size_alloc, hs1] at this
    rw [Below.heap_alloc _ _ _ (by simp [hs1]), Below.heap_alloc _ _ _ (by simp [hs1])]
    exact this
/-- what is left of it at the end -/
structure WkE (w w0 : World) (gd cp x : Nat) (D : List Int) (V : World) : Prop where
  kp : Kp (fun i => i = gd) w V
  dp : DpW V w0.heap.size gd cp D
  be : Boxed V (w.heap.size + 1) 30 (.int .i64 x)
theorem WkS.wke {w0 w : World} {gd cp x : Nat} {D : List Int} {Wt Ds : List Nat} {V : World} (h : WkS w0 w gd cp x D Wt Ds V) : WkE w w0 gd cp x D V := ⟨h.kp, h.dp, h.be⟩
theorem WkS.ne_err {w0 w : World} {gd cp x : Nat} {D : List Int} {Wt Ds : List Nat} {V : World} (h : WkS w0 w gd cp x D Wt Ds V) : ∀ d ∈ Ds, d ≠ w.heap.size + 1 := fun d hd e => by
  have h1 := (h.ms.2 d hd).2
  have h2 : V.heap[w.heap.size + 1]? = _ := h.be
  rw [e, h2] at h1
  cases h1
theorem WkE.set {w w0 : World} {gd cp x : Nat} {D : List Int} {V : World} (h : WkE w w0 gd cp x D V) (y : Nat) : WkE w w0 gd cp y D (V.setCell ⟨w.heap.size + 1, 0, none⟩ (.int .i64 y)) := by
  have hg : w.heap.size + 1 ≠ gd := by
    obtain ⟨cur, e⟩ := DpW.obj h.dp
    intro q
    have h2 : V.heap[w.heap.size + 1]? = _ := h.be
    rw [q, e] at h2
    cases h2
  exact ⟨h.kp.trans (Kp.setCell (S := fun i => i = w.heap.size + 1) V ⟨w.heap.size + 1, 0, none⟩ _ rfl) (fun i hi e => by omega), (Kp.setCell (S := fun i => i = w.heap.size + 1) V ⟨w.heap.size + 1, 0, none⟩ _ rfl).own h.dp (fun k e => by cases e; exact fun q => hg q.symm), h.be.set _⟩
theorem WkE.put {w w0 : World} {gd cp x d : Nat} {D : List Int} {V : World} (h : WkE w w0 gd cp x D V) (hd : w.heap.size ≤ d) (ho : V.heap[d]? = some (.deferred (some []))) : WkE w w0 gd cp x D (V.putObj d (.deferred none)) := by
  have hk : Kp (fun i => i = d) V (V.putObj d (.deferred none)) := Kp.ofGrown (grownBy_putObj' _ d (.deferred none)) (fun i e _ => by cases e; rfl)
  refine ⟨h.kp.trans hk (fun i hi e => by omega), hk.own h.dp (fun k e q => ?_), (hk.block _ h.be.lt (fun q => ?_)).trans h.be⟩
  · cases e
    obtain ⟨cur, e2⟩ := DpW.obj h.dp
    have q2 : gd = d := q
    rw [q2, ho] at e2
    cases e2
  · have h2 : V.heap[w.heap.size + 1]? = _ := h.be
    rw [q, ho] at h2
    cases h2
abbrev wkT (kc b gd nD cp kd : Nat) (need : Int) (at_ : Nat) (jd : Int) (u11 u12 u13 u14 u21 u22 u23 u24 u25 u26 u27 u28 u29 u30 u31 u32 u33 u34 u35 u36 u37 u38 u39 u40 u41 u42 u43 u44 u45 u46 u47 u48 u49 u50 u51 u52 u53 u54 u55 u56 u57 u58 u59 u60 u61 u62 u63 u64 u65 u66 u67 u68 u69 u70 u71 u72 u73 u74 u75 u76 u77 u78 u79 u80 u81 u82 u83 u84 u85 u86 u87 : Value) : Array Value := #[.pointer (some ⟨kc, 0, none⟩), .int .u32 (b : Nat), .slice (some ⟨gd, 0, none⟩) nD cp, undef, undef, .pointer (some ⟨kd, 0, none⟩), .int .i64 need, .int .u32 (at_ : Nat), .pointer (some ⟨kd + 1, 0, none⟩), .int .i64 jd, .pointer (some ⟨kd + 1 + 1 + 1 + 1, 0, none⟩), u11, u12, u13, u14, .slice (some ⟨gd, 0, none⟩) nD cp, .int .u32 (b : Nat), .pointer (some ⟨gd, b, none⟩), .int .u32 (b : Nat), .slice (some ⟨kd + 1 + 1, 0, none⟩) 1 1, .pointer (some ⟨kd + 1 + 1 + 1, 0, none⟩), u21, u22, u23, u24, u25, u26, u27, u28, u29, u30, u31, u32, u33, u34, u35, u36, u37, u38, u39, u40, u41, u42, u43, u44, u45, u46, u47, u48, u49, u50, u51, u52, u53, u54, u55, u56, u57, u58, u59, u60, u61, u62, u63, u64, u65, u66, u67, u68, u69, u70, u71, u72, u73, u74, u75, u76, u77, u78, u79, u80, u81, u82, u83, u84, u85, u86, u87]
/-- how the walk's loop is left -/
def WkP (L : List (Nat × Nat)) (J : List Nat) (k : Nat) (w0 w : World) (kc b gd cp : Nat) (D0 : List Int) (e : Exit) (a : Act) (V : World) : Prop := e = .normal ∧ ∃ (D : List Int) (Wt Ds : List Nat) (x at_ : Nat) (need jd : Int) (u11 u12 u13 u14 u21 u22 u23 u24 u25 u26 u27 u28 u29 u30 u31 u32 u33 u34 u35 u36 u37 u38 u39 u40 u41 u42 u43 u44 u45 u46 u47 u48 u49 u50 u51 u52 u53 u54 u55 u56 u57 u58 u59 u60 u61 u62 u63 u64 u65 u66 u67 u68 u69 u70 u71 u72 u73 u74 u75 u76 u77 u78 u79 u80 u81 u82 u83 u84 u85 u86 u87 : Value), a = { tmps := wkT kc b gd D0.length cp w.heap.size need at_ jd u11 u12 u13 u14 u21 u22 u23 u24 u25 u26 u27 u28 u29 u30 u31 u32 u33 u34 u35 u36 u37 u38 u39 u40 u41 u42 u43 u44 u45 u46 u47 u48 u49 u50 u51 u52 u53 u54 u55 u56 u57 u58 u59 u60 u61 u62 u63 u64 u65 u66 u67 u68 u69 u70 u71 u72 u73 u74 u75 u76 u77 u78 u79 u80 u81 u82 u83 u84 u85 u86 u87, defers := mkD Ds } ∧ WkS w0 w gd cp x D Wt Ds V ∧ ((x = 0 ∧ D.length = D0.length ∧ (∀ i, ¬ (bAt L k ≤ i ∧ i < bAt L (k + 1)) → D.getD i (-1) = D0.getD i (-1)) ∧ FinP L J k D need) ∨ ((x = 140 ∨ x = 141 ∨ x = 142 ∨ x = 143) ∧ at_ < L.length ∧ FltP L J k at_ x))
/-- what abides from round to round -/
def WkJ (L : List (Nat × Nat)) (J : List Nat) (k : Nat) (w0 w : World) (kc b gd cp : Nat) (D0 : List Int) (m : Nat) (a : Act) (V : World) : Prop := ∃ (D : List Int) (Wt Ds : List Nat) (at_ : Nat) (need jd : Int) (u11 u12 u13 u14 u21 u22 u23 u24 u25 u26 u27 u28 u29 u30 u31 u32 u33 u34 u35 u36 u37 u38 u39 u40 u41 u42 u43 u44 u45 u46 u47 u48 u49 u50 u51 u52 u53 u54 u55 u56 u57 u58 u59 u60 u61 u62 u63 u64 u65 u66 u67 u68 u69 u70 u71 u72 u73 u74 u75 u76 u77 u78 u79 u80 u81 u82 u83 u84 u85 u86 u87 : Value), a = { tmps := wkT kc b gd D0.length cp w.heap.size need at_ jd u11 u12 u13 u14 u21 u22 u23 u24 u25 u26 u27 u28 u29 u30 u31 u32 u33 u34 u35 u36 u37 u38 u39 u40 u41 u42 u43 u44 u45 u46 u47 u48 u49 u50 u51 u52 u53 u54 u55 u56 u57 u58 u59 u60 u61 u62 u63 u64 u65 u66 u67 u68 u69 u70 u71 u72 u73 u74 u75 u76 u77 u78 u79 u80 u81 u82 u83 u84 u85 u86 u87, defers := mkD Ds } ∧ WkS w0 w gd cp 0 D Wt Ds V ∧ WkI L J k D0 D Wt need jd ∧ m = 2 * unr D (bAt L k) (bAt L (k + 1)) + Wt.length ∧ m ≤ 40000
/-- behind the look at jumps -/
def WkC (kc b gd nD cp kd ki x : Nat) (nd jd r : Int) (kk : Nat) (Ds : List Nat) (W9 : World) (e : Exit) (a : Act) (V : World) : Prop := V = W9 ∧ ∃ (jn : Int) (v13 v14 v21 v22 v23 v24 v25 v26 v27 v28 v29 v30 v31 v32 v33 v34 v35 v36 v37 v38 v39 v40 v41 v42 v43 v44 v45 v46 v47 v48 v49 v50 v51 v52 v53 v54 v55 v56 v57 v58 v59 v60 v61 v62 v63 v64 v65 v66 v67 v68 v69 v70 v71 v72 v73 v74 v75 v76 v77 v78 v79 v80 v81 v82 v83 v84 v85 v86 v87 : Value), a = { tmps := wkT kc b gd nD cp kd nd x jn (.pointer (some ⟨ki, 0, none⟩)) (.pointer (some ⟨ki + 1, 0, none⟩)) v13 v14 v21 v22 v23 v24 v25 v26 v27 v28 v29 v30 v31 v32 v33 v34 v35 v36 v37 v38 v39 v40 v41 v42 v43 v44 v45 v46 v47 v48 v49 v50 v51 v52 v53 v54 v55 v56 v57 v58 v59 v60 v61 v62 v63 v64 v65 v66 v67 v68 v69 v70 v71 v72 v73 v74 v75 v76 v77 v78 v79 v80 v81 v82 v83 v84 v85 v86 v87, defers := mkD Ds } ∧ ((e = .normal ∧ (jn = jd ∨ (kk = 4 ∧ jn = r))) ∨ (e = .exit 1 ∧ kk = 4 ∧ r = jd ∧ jn = jd))
theorem unr_le (D : List Int) (b e : Nat) : unr D b e ≤ e - b := by
  have := List.countP_le_length (p := fun i => decide (D.getD i (-1) < 0)) (l := List.range' b (e - b))
  rw [List.length_range'] at this
  exact this
end Go.Proofs.YtgbpfejodpplbaaGreatDoor
