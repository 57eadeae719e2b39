import Derived.Test.YtnjglagfpghbjaaDoorCP9
import Derived.Deep.RegionHeld3
namespace Go.Proofs.YtnjglagfpghbjaaDoor
open Go.RowKit Go.WideShapes
set_option maxRecDepth 100000

theorem inv_rowT {o : Nat} {A : Wd} {M M' : Col → Pc} (hI : Inv o A M) (hr : ∀ d, d ≠ (6, A.ln.length) → d ≠ (7, A.lw.length) → M' d = M d) : Inv o A M' := by
  have hk : ∀ (j : Nat) v zs, A.ln[j]? = some (v, zs) → j ≠ A.ln.length := fun j v zs h e => by rw [e, List.getElem?_eq_none (Nat.le_refl _)] at h; cases h
  have hk2 : ∀ (j : Nat) v zs, A.lw[j]? = some (v, zs) → j ≠ A.lw.length := fun j v zs h e => by rw [e, List.getElem?_eq_none (Nat.le_refl _)] at h; cases h
  exact ⟨(hr _ (by simp) (by simp)).trans hI.obj, fun i hi => (hr _ (by simp) (by simp)).trans (hI.seg i hi), fun i hi => (hr _ (by simp) (by simp)).trans (hI.ref i hi), (hr _ (by simp) (by simp)).trans hI.rg, (hr _ (by simp) (by simp)).trans hI.rk, (hr _ (by simp) (by simp)).trans hI.rn, (hr _ (by simp) (by simp)).trans hI.rw, fun i v zs h => (hr _ (by simp) (by simp)).trans (hI.ig i v zs h), fun i v zs h => (hr _ (by simp) (by simp)).trans (hI.ik i v zs h), fun i v zs h => (hr _ (by simp [hk i v zs h]) (by simp)).trans (hI.iN i v zs h), fun i v zs h => (hr _ (by simp) (by simp [hk2 i v zs h])).trans (hI.iw i v zs h)⟩
/-- the world behind two more logs that were answered -/
theorem inv_notes {o : Nat} {A : Wd} {M M' : Col → Pc} {v u vn vw : Value} {ts : List (Int × Bool)} (hI : Inv o A M) (h4 : M (6, A.ln.length) = rowT v ts) (h5 : M (7, A.lw.length) = rowT u ts)
    (e0 : M' (0, 0) = objP o (wldC ⟨A.s, A.vg, A.vk, vn, vw, A.lg, A.lk, A.ln ++ [(v, ts)], A.lw ++ [(u, ts)]⟩) 30) (e3 : M' (3, 2) = rowP 40 1 vn (A.ln.length + 1) (A.ln.map (·.1) ++ [v])) (e4 : M' (3, 3) = rowP 40 1 vw (A.lw.length + 1) (A.lw.map (·.1) ++ [u]))
    (hr : ∀ d, d ≠ (0, 0) → d ≠ (3, 2) → d ≠ (3, 3) → M' d = M d) : Inv o ⟨A.s, A.vg, A.vk, vn, vw, A.lg, A.lk, A.ln ++ [(v, ts)], A.lw ++ [(u, ts)]⟩ M' ∧ Kee M M' := by
  refine ⟨⟨e0, fun i hi => (hr _ (by simp) (by simp) (by simp)).trans (hI.seg i hi), fun i hi => (hr _ (by simp) (by simp) (by simp)).trans (hI.ref i hi), (hr _ (by simp) (by simp) (by simp)).trans hI.rg, (hr _ (by simp) (by simp) (by simp)).trans hI.rk, by simpa using e3, by simpa using e4, ?_, ?_, ?_, ?_⟩, fun j => ⟨hr _ (by simp) (by simp) (by simp), hr _ (by simp) (by simp) (by simp)⟩⟩
  · intro j x y h
    rw [hr _ (by simp) (by simp) (by simp)]; exact hI.ig j x y h
  · intro j x y h
    rw [hr _ (by simp) (by simp) (by simp)]; exact hI.ik j x y h
  · intro j x y h
    rw [hr _ (by simp) (by simp) (by simp)]
    rcases snoc_get h with h | ⟨hj, hx⟩
    · exact hI.iN j x y h
    · simp only [Prod.mk.injEq] at hx; rw [hx.1, hx.2, hj]; exact h4
  · intro j x y h
    rw [hr _ (by simp) (by simp) (by simp)]
    rcases snoc_get h with h | ⟨hj, hx⟩
    · exact hI.iw j x y h
    · simp only [Prod.mk.injEq] at hx; rw [hx.1, hx.2, hj]; exact h5
set_option maxHeartbeats 1000000 in
theorem rest15 (o n : Nat) (A : Wd) (M : Col → Pc) (i : Nat) (hi : i < 4) (s : Stp) (W : World) (hS0 : Stt W M) (hI0 : Inv o A M) (hA : WfA A n) (hn : n < 5800000000000) (h8 : M (8, 6) = noP) (hs : StpOk s) (j : Nat) (hj : j < 4) (hd : s.d = 15) :
    Calls Tryd.prog 18 #[.pointer (some ⟨o, 0, none⟩), .agg (stpC s), .int .i64 i, .int .i64 j] W fun e w' => e = .returned (.bool true) ∧ Hid (AftP o A M (n + 1) w') := by
  have hS1 := stt_stp (8, 6) s hS0
  have hI1 := inv_far (j := 6) (p := objP W.heap.size (stpC s) 34) hI0
  have HLV := hidS (fun w' => AftP.leave (o := o) (A := A) (j := 6) (n := n + 1) (p := objP W.heap.size (stpC s) 34) (w' := w') h8)
  have hM8 : upd M (8, 6) (objP W.heap.size (stpC s) 34) (8, 6) = objP W.heap.size (stpC s) 34 := upd_eq _ _ _
  have hdI : (s.d : Int) = 15 := by omega
  have hM9 : ∀ j, upd M (8, 6) (objP W.heap.size (stpC s) 34) (9, j) = M (9, j) := fun j => upd_ne (by simp)
  have hM7 : ∀ j, j ≠ 6 → upd M (8, 6) (objP W.heap.size (stpC s) 34) (8, j) = M (8, j) := fun j hj => upd_ne (by simp [hj])
  generalize upd M (8, 6) (objP W.heap.size (stpC s) 34) = M1 at *
  have _u := And.intro hn (And.intro hs hi)
  clear _u
  have _v := hj
  clear _v
  obtain ⟨hv, wv⟩ := stt_hv hS1 hI1.obj i hi
  have hiI : (i : Int) < 4 := by omega
  obtain ⟨j0, hjj, hy0, hy1, hy2⟩ := info_parts infoLT
  have HL := hidS (fun W' h => stt_call2 (W := W') (M := M1) (c := (1, i)) (c2 := (6, A.ln.length)) (hI1.seg i hi) h (by simp) (fun F h hB => tc_h (A.s i) F W' h hB))
  have HR := hidS (fun v W' h => stt_call2 (W := W') (M := upd (upd M1 (1, i) (segO (mapS tcG (A.s i)))) (6, A.ln.length) (rowT v (tcD (A.s i)))) (c := (2, i)) (c2 := (7, A.lw.length)) ((upd_ne (by simp)).trans ((upd_ne (by simp)).trans (hI1.ref i hi))) h (by simp) (fun F h hB => tc_w (A.s i) F W' h hB))
  have hbl : (tcD (A.s i)).length ≤ 65536 := let ⟨_, hF⟩ := stt_get hS1 (hI1.seg i hi); tcD_len hF
  have HI5 : Hid (∀ v u, Inv o (setS A i (mapS tcG (A.s i))) (upd (upd (upd (upd M1 (1, i) (segO (mapS tcG (A.s i)))) (6, A.ln.length) (rowT v (tcD (A.s i)))) (2, i) (refO (mapS tcG (A.s i)))) (7, A.lw.length) (rowT u (tcD (A.s i)))) ∧ (upd (upd (upd (upd M1 (1, i) (segO (mapS tcG (A.s i)))) (6, A.ln.length) (rowT v (tcD (A.s i)))) (2, i) (refO (mapS tcG (A.s i)))) (7, A.lw.length) (rowT u (tcD (A.s i)))) (6, A.ln.length) = rowT v (tcD (A.s i)) ∧ (upd (upd (upd (upd M1 (1, i) (segO (mapS tcG (A.s i)))) (6, A.ln.length) (rowT v (tcD (A.s i)))) (2, i) (refO (mapS tcG (A.s i)))) (7, A.lw.length) (rowT u (tcD (A.s i)))) (7, A.lw.length) = rowT u (tcD (A.s i)) ∧ Kee M1 (upd (upd (upd (upd M1 (1, i) (segO (mapS tcG (A.s i)))) (6, A.ln.length) (rowT v (tcD (A.s i)))) (2, i) (refO (mapS tcG (A.s i)))) (7, A.lw.length) (rowT u (tcD (A.s i))))) := fun v u => by
    obtain ⟨q1, q2⟩ := inv_slot (i := i) (S := mapS tcG (A.s i)) (M' := upd (upd M1 (1, i) (segO (mapS tcG (A.s i)))) (2, i) (refO (mapS tcG (A.s i)))) hI1 (mapS_have _ _).1 (mapS_have _ _).2 (by simp [upd]) (by simp [upd]) (fun d h1 h2 => by simp [upd, h1, h2])
    refine ⟨inv_rowT q1 (fun d h1 h2 => ?_), by simp [upd], by simp [upd], fun k => ⟨by simp [upd], by simp [upd]⟩⟩
    simp only [setS] at h1 h2
    simp only [upd, h1, h2, if_false]
  have HN : Hid (A.ln.length < 5800000000000) := (by have := hA.nt; omega : A.ln.length < 5800000000000)
  have HK : Hid (A.lw.length < 5800000000000) := (by have := hA.nt; have := hA.kt; omega : A.lw.length < 5800000000000)
  have HA5 := hidS (fun vn vw v u => (hA.slot i (mapS tcG (A.s i))).notes vn vw v u (tcD (A.s i)) hbl)
  have HBL := hidS hbl
  have HJ := hidS hjj
  have HY0 := hidS hy0
  have HY1 := hidS hy1
  have HY2 := hidS hy2
  clear hjj hy0 hy1 hy2 hbl
  generalize hM5 : (fun v u => upd (upd (upd (upd M1 (1, i) (segO (mapS tcG (A.s i)))) (6, A.ln.length) (rowT v (tcD (A.s i)))) (2, i) (refO (mapS tcG (A.s i)))) (7, A.lw.length) (rowT u (tcD (A.s i)))) = M5 at *
  have HR5 : Hid (∀ v W', Stt W' (upd (upd M1 (1, i) (segO (mapS tcG (A.s i)))) (6, A.ln.length) (rowT v (tcD (A.s i)))) → Calls Tryd.prog 12 #[wantV (A.s i)] W' fun e w' => ∃ u, e = .returned u ∧ Hid (Stt w' (M5 v u))) := fun v W' h => (HR.out v W' h).mono fun e w' ⟨u, he, hq⟩ => ⟨u, he, by rw [← hM5]; exact hq⟩
  have HI6 : Hid (∀ v u, Inv o (setS A i (mapS tcG (A.s i))) (M5 v u) ∧ M5 v u (6, A.ln.length) = rowT v (tcD (A.s i)) ∧ M5 v u (7, A.lw.length) = rowT u (tcD (A.s i)) ∧ Kee M1 (M5 v u)) := fun v u => by rw [← hM5]; exact HI5.out v u
  have HV : Hid (∀ v u W', Stt W' (M5 v u) → (∃ t k, v = Value.slice t (tcD (A.s i)).length k) ∧ (∃ t k, u = Value.slice t (tcD (A.s i)).length k)) := fun v u W' h => ⟨own_slice (stt_row h (HI6.out v u).2.1), own_slice (stt_row h (HI6.out v u).2.2.1)⟩
  have HST : Hid (∀ t k t' k' W' M', Stt W' M' → M' (6, A.ln.length) = rowT (.slice t (tcD (A.s i)).length k) (tcD (A.s i)) → M' (7, A.lw.length) = rowT (.slice t' (tcD (A.s i)).length k') (tcD (A.s i)) → Calls Tryd.prog 10 #[.slice t (tcD (A.s i)).length k, .slice t' (tcD (A.s i)).length k'] W' fun e w' => e = .returned (.bool true) ∧ Hid (Stt w' M')) := fun t k t' k' W' M' h e6 e7 =>
    (touches_same (tcD (A.s i)) t t' k k' W' HBL.out (stt_row h e6) (stt_row h e7)).mono fun e w' ⟨he, m, hw⟩ => ⟨he, by rw [hw]; exact stt_drewN m h⟩
  clear HR HI5 hM5
  obtain ⟨c0, -, -, -, -, -⟩ := stt_c hS1 hM8
  have HS1 := hidS hS1
  clear hS1 hs hd hS0 h8 hI0 hI1 hA hM8 hM9 hM7
  go_enter Tryd.func18, Tryd.ntmps18
  go_wp2_with (first
    | (go_at_call 11; with_reducible refine (HL.out _ HS1.out).mono ?_; rintro e w1 ⟨v1, rfl, HQ1⟩)
    | (go_at_call 12; with_reducible refine (HR5.out _ _ HQ1.out).mono ?_; rintro e w2 ⟨v2, rfl, HQ2⟩; obtain ⟨⟨t1, k1, rfl⟩, ⟨t2, k2, rfl⟩⟩ := HV.out _ _ _ HQ2.out; obtain ⟨-, -, d10, d11, hfz2, hol2⟩ := stt_c8 HQ2.out (HI6.out _ _).1.obj; have f10 := hfz2 10; clear hfz2)
    | (at_builtin; refine wpList_append_lies _ rfl _ _ 28 rfl 0 40 j0 (.slice none 0 0) 1 24 Tryd.underlying28 HJ.out HY0.out HY1.out HY2.out rfl (by decide) A.vn A.ln.length (A.ln.map (·.1)) rfl (stt_row (stt_below HQ2.out ((Below.refl _ _).alloc (Nat.le_refl _) _)) (HI6.out _ _).1.rn) ⟨_, 0, none⟩ 1 1 [Value.slice t1 (tcD (A.s i)).length k1] rfl rfl one_newsv (by intro u hu; simp at hu; subst hu; rfl) (by decide) (by have := HN.out; unfold maxLen; omega) (by have := HN.out; omega) (Nat.zero_le _) _ rfl ?_; intro gg cc w3 own3 hg3 hgg3 hlt3; have hs3 := stt_grow HQ2.out (HI6.out _ _).1.rn ((Below.refl _ _).alloc (Nat.le_refl _) _) own3 hg3 (hgg3.imp id (fun h => Nat.le_of_eq h.symm)); clear own3 hg3 hgg3 hlt3 d10 d11 f10 hol2; obtain ⟨-, -, d10, d11, hfz3, hol3⟩ := stt_c8 hs3 ((upd_ne (by simp)).trans (HI6.out _ _).1.obj); have f10 := hfz3 10; have f11 := hfz3 11; have HS4 := hidS (stt_set (i := 10) hs3 ((upd_ne (by simp)).trans (HI6.out _ _).1.obj) (Value.slice (some ⟨gg, 0, none⟩) (A.ln.length + 1) cc) (cs' := wldC ⟨(setS A i (mapS tcG (A.s i))).s, A.vg, A.vk, (Value.slice (some ⟨gg, 0, none⟩) (A.ln.length + 1) cc), A.vw, A.lg, A.lk, A.ln, A.lw⟩) rfl); clear hs3 hfz3)
    | (at_builtin; refine wpList_append_lies _ rfl _ _ 28 rfl 0 40 j0 (.slice none 0 0) 1 24 Tryd.underlying28 HJ.out HY0.out HY1.out HY2.out rfl (by decide) A.vw A.lw.length (A.lw.map (·.1)) rfl (stt_row (stt_below HS4.out ((Below.refl _ _).alloc (Nat.le_refl _) _)) ((upd_ne (by simp)).trans ((upd_ne (by simp)).trans (HI6.out _ _).1.rw))) ⟨_, 0, none⟩ 1 1 [Value.slice t2 (tcD (A.s i)).length k2] rfl rfl (one_newsv2 (by simp)) (by intro u hu; simp at hu; subst hu; rfl) (by decide) (by have := HK.out; unfold maxLen; omega) (by have := HK.out; omega) (Nat.zero_le _) _ rfl ?_; intro gg2 cc2 w5 own5 hg5 hgg5 hlt5; have hs5 := stt_grow HS4.out ((upd_ne (by simp)).trans ((upd_ne (by simp)).trans (HI6.out _ _).1.rw)) ((Below.refl _ _).alloc (Nat.le_refl _) _) own5 hg5 (hgg5.imp id (fun h => Nat.le_of_eq h.symm)); clear own5 hg5 hgg5 hlt5 d10 d11 f10 f11 hol3; obtain ⟨-, -, -, d11, hfz5, -⟩ := stt_c8 (A := ⟨(setS A i (mapS tcG (A.s i))).s, A.vg, A.vk, (Value.slice (some ⟨gg, 0, none⟩) (A.ln.length + 1) cc), A.vw, A.lg, A.lk, A.ln, A.lw⟩) hs5 ((upd_ne (by simp)).trans (upd_eq _ _ _)); have f11 := hfz5 11; have HS6 := hidS (stt_set (i := 11) hs5 ((upd_ne (by simp)).trans (upd_eq _ _ _)) (Value.slice (some ⟨gg2, 0, none⟩) (A.lw.length + 1) cc2) (cs' := wldC ⟨(setS A i (mapS tcG (A.s i))).s, A.vg, A.vk, (Value.slice (some ⟨gg, 0, none⟩) (A.ln.length + 1) cc), (Value.slice (some ⟨gg2, 0, none⟩) (A.lw.length + 1) cc2), A.lg, A.lk, A.ln ++ [(Value.slice t1 (tcD (A.s i)).length k1, tcD (A.s i))], A.lw ++ [(Value.slice t2 (tcD (A.s i)).length k2, tcD (A.s i))]⟩) rfl); clear hs5 hfz5)
    | (go_at_call 10; with_reducible refine (HST.out _ _ _ _ _ _ (Hid.out HS6) (by simp [upd, (HI6.out _ _).2.1]) (by simp [upd, (HI6.out _ _).2.2.1])).mono ?_; rintro e w7 ⟨rfl, HQ7⟩)
    | fail)
  go_ret
  refine ⟨rfl, HLV.out _ ⟨⟨(setS A i (mapS tcG (A.s i))).s, A.vg, A.vk, (Value.slice (some ⟨gg, 0, none⟩) (A.ln.length + 1) cc), (Value.slice (some ⟨gg2, 0, none⟩) (A.lw.length + 1) cc2), A.lg, A.lk, A.ln ++ [(Value.slice t1 (tcD (A.s i)).length k1, tcD (A.s i))], A.lw ++ [(Value.slice t2 (tcD (A.s i)).length k2, tcD (A.s i))]⟩, _, HQ7.out, ?_⟩⟩
  refine (fun q => ⟨q.1, (HI6.out (Value.slice t1 (tcD (A.s i)).length k1) (Value.slice t2 (tcD (A.s i)).length k2)).2.2.2.trans q.2, HA5.out _ _ _ _, ptr_set (mapS_have _ _)⟩) (inv_notes (HI6.out (Value.slice t1 (tcD (A.s i)).length k1) (Value.slice t2 (tcD (A.s i)).length k2)).1 (HI6.out (Value.slice t1 (tcD (A.s i)).length k1) (Value.slice t2 (tcD (A.s i)).length k2)).2.1 (HI6.out (Value.slice t1 (tcD (A.s i)).length k1) (Value.slice t2 (tcD (A.s i)).length k2)).2.2.1 (upd_eq _ _ _) ?_ ?_ ?_)
  · simp [upd]; rfl
  · simp [upd]; rfl
  · exact fun d d1 d2 d3 => by simp [upd, d1, d2, d3]
theorem rest_any (o n : Nat) (A : Wd) (M : Col → Pc) (i j : Nat) (hi : i < 4) (hj : j < 4) (s : Stp) (W : World) (hS : Stt W M) (hI : Inv o A M) (hA : WfA A n) (hn : n < 5800000000000) (h8 : M (8, 6) = noP) (hs : StpOk s) (w0 : World) (hw0 : M (9, 0) = outP w0) (hT : TabA w0) (h1w : 1 < w0.heap.size) :
    Calls Tryd.prog 18 #[.pointer (some ⟨o, 0, none⟩), .agg (stpC s), .int .i64 i, .int .i64 j] W fun e w' => e = .returned (.bool true) ∧ Hid (AftP o A M (n + 1) w') := by
  by_cases e13 : s.d = 13
  · exact rest13 o n A M i hi s W hS hI hA hn h8 hs j hj e13
  by_cases e14 : s.d = 14
  · exact rest14 o n A M i hi s W hS hI hA hn h8 hs j hj e14
  by_cases e15 : s.d = 15
  · exact rest15 o n A M i hi s W hS hI hA hn h8 hs j hj e15
  by_cases e16 : s.d = 16
  · exact rest16 o n A M i hi s W hS hI hA hn h8 hs j hj w0 hw0 hT h1w e16
  · exact rest_no o n A M i j hi s W hS hI hA h8 (by omega)
end Go.Proofs.YtnjglagfpghbjaaDoor
namespace Go.Proofs.YtnjglagfpghbjaaDoor
open Go.RowKit Go.WideShapes
set_option maxRecDepth 100000

theorem wld_set {A : Wd} {i : Nat} (hi : i < 4) (S : Option Sl) : ((wldC A).setIfInBounds i (haveV S)).setIfInBounds (4 + i) (wantV S) = wldC (setS A i S) := by
  match i, hi with
  | 0, _ => rfl
  | 1, _ => rfl
  | 2, _ => rfl
  | 3, _ => rfl
theorem wld_get {A : Wd} {i : Nat} (hi : i < 4) (v : Value) : (wldC A)[i]? = some (haveV (A.s i)) ∧ ((wldC A).setIfInBounds i v)[4 + i]? = some (wantV (A.s i)) := by
  match i, hi with
  | 0, _ => exact ⟨rfl, rfl⟩
  | 1, _ => exact ⟨rfl, rfl⟩
  | 2, _ => exact ⟨rfl, rfl⟩
  | 3, _ => exact ⟨rfl, rfl⟩
theorem inv_new {o : Nat} {A : Wd} {M M' : Col → Pc} {i : Nat} {S : Option Sl} (hI : Inv o A M) (e0 : M' (0, 0) = objP o (wldC (setS A i S)) 30) (e1 : M' (1, i) = segO S) (e2 : M' (2, i) = refO S) (hr : ∀ d, d ≠ (0, 0) → d ≠ (1, i) → d ≠ (2, i) → M' d = M d) : Inv o (setS A i S) M' ∧ Kee M M' := by
  refine ⟨⟨e0, fun j hj => ?_, fun j hj => ?_, (hr _ (by simp) (by simp) (by simp)).trans hI.rg, (hr _ (by simp) (by simp) (by simp)).trans hI.rk, (hr _ (by simp) (by simp) (by simp)).trans hI.rn, (hr _ (by simp) (by simp) (by simp)).trans hI.rw, fun j v zs h => (hr _ (by simp) (by simp) (by simp)).trans (hI.ig j v zs h), fun j v zs h => (hr _ (by simp) (by simp) (by simp)).trans (hI.ik j v zs h), fun j v zs h => (hr _ (by simp) (by simp) (by simp)).trans (hI.iN j v zs h), fun j v zs h => (hr _ (by simp) (by simp) (by simp)).trans (hI.iw j v zs h)⟩, fun j => ⟨hr _ (by simp) (by simp) (by simp), hr _ (by simp) (by simp) (by simp)⟩⟩
  · by_cases h : j = i
    · subst h; simp [setS, e1]
    · simp only [setS, h, if_false]; exact (hr _ (by simp) (by simp [h]) (by simp)).trans (hI.seg j hj)
  · by_cases h : j = i
    · subst h; simp [setS, e2]
    · simp only [setS, h, if_false]; exact (hr _ (by simp) (by simp) (by simp [h])).trans (hI.ref j hj)
/-- the cells of the world at a slot -/
theorem stt_sl {W : World} {M : Col → Pc} {o : Nat} {A : Wd} {t : TypeId} (h : Stt W M) (hc : M (0, 0) = objP o (wldC A) t) (k : Nat) (hk : k < 4) (x y : Value) :
    W.cell? ⟨o, k, none⟩ = some (haveV (A.s k)) ∧ W.frozen? ⟨o, k, none⟩ = false ∧ (W.setCell ⟨o, k, none⟩ x).cell? ⟨o, 4 + k, none⟩ = some (wantV (A.s k)) ∧ (W.setCell ⟨o, k, none⟩ x).frozen? ⟨o, 4 + k, none⟩ = false ∧
      Stt ((W.setCell ⟨o, k, none⟩ x).setCell ⟨o, 4 + k, none⟩ y) (upd (upd M (0, 0) (objP o ((wldC A).setIfInBounds k x) t)) (0, 0) (objP o (((wldC A).setIfInBounds k x).setIfInBounds (4 + k) y) t)) := by
  have h2 := stt_set (i := k) h hc x rfl
  exact ⟨stt_cell h hc k _ (wld_get hk x).1, obj_frozen (stt_obj h hc) k, stt_cell h2 (upd_eq _ _ _) (4 + k) _ (wld_get hk x).2, obj_frozen (stt_obj h2 (upd_eq _ _ _)) (4 + k), stt_set (i := 4 + k) h2 (upd_eq _ _ _) y rfl⟩
set_option maxHeartbeats 1000000 in
theorem make0g (o n : Nat) (A : Wd) (M : Col → Pc) (i : Nat) (hi : i < 4) (s : Stp) (W : World) (hS0 : Stt W M) (hI0 : Inv o A M) (hA : WfA A n) (hn : n < 5800000000000) (h8 : M (8, 2) = noP) (hs : StpOk s) (j : Nat) (hj : j < 4) (hnw : 8 ≤ s.n ∧ s.n ≤ 16) (hd : s.d = 0) :
    Calls Tryd.prog 15 #[.pointer (some ⟨o, 0, none⟩), .agg (stpC s), .int .i64 i, .int .i64 j] W fun e w' => e = .returned (.bool true) ∧ Hid (Aft o M (n) w') := by
  have hS1 := stt_stp (8, 2) s hS0
  have hI1 := inv_far (j := 2) (p := objP W.heap.size (stpC s) 34) hI0
  have HLV := hidS (fun w' => Aft.leave (o := o) (j := 2) (n := n) (p := objP W.heap.size (stpC s) 34) (w' := w') h8)
  have hM8 : upd M (8, 2) (objP W.heap.size (stpC s) 34) (8, 2) = objP W.heap.size (stpC s) 34 := upd_eq _ _ _
  have hdI : (s.d : Int) = 0 := by omega
  have hM9 : ∀ j, upd M (8, 2) (objP W.heap.size (stpC s) 34) (9, j) = M (9, j) := fun j => upd_ne (by simp)
  have hM7 : ∀ j, j ≠ 2 → upd M (8, 2) (objP W.heap.size (stpC s) 34) (8, j) = M (8, j) := fun j hj => upd_ne (by simp [hj])
  generalize upd M (8, 2) (objP W.heap.size (stpC s) 34) = M1 at *
  have _u := And.intro hn (And.intro hs hi)
  clear _u
  have _v := hj
  clear _v
  have hiI : (i : Int) < 4 := by omega
  have HL : Hid (∀ W', Stt W' M1 → Calls Tryd.prog 27 #[.int .i64 s.n] W' fun e w' => ∃ a : Nat, e = .returned (.tuple #[.pointer (some ⟨a, 0, none⟩), .int .i64 0]) ∧ Hid (Stt w' (upd M1 (1, i) (segO (some ⟨a, 0, ⟨List.replicate (2 ^ s.n.toNat) 0, false, []⟩⟩))))) := fun W' h => by
    have q := nw_h s.n W'
    simp only [nwS, nwE, hnw, and_self, if_true] at q
    exact q.mono fun e w' ⟨a, he, hr, hb⟩ => ⟨a, he, stt_new h hb hr⟩
  have HR : Hid (∀ (a : Nat) W', Stt W' (upd M1 (1, i) (segO (some ⟨a, 0, ⟨List.replicate (2 ^ s.n.toNat) 0, false, []⟩⟩))) → Calls Tryd.prog 28 #[.int .i64 s.n] W' fun e w' => ∃ r : Nat, e = .returned (.tuple #[.pointer (some ⟨r, 0, none⟩), .int .i64 0]) ∧ Hid (Stt w' (upd (upd M1 (1, i) (segO (some ⟨a, 0, ⟨List.replicate (2 ^ s.n.toNat) 0, false, []⟩⟩))) (2, i) (refO (some ⟨0, r, ⟨List.replicate (2 ^ s.n.toNat) 0, false, []⟩⟩))))) := fun (a : Nat) W' h => by
    have q := nw_w s.n W'
    simp only [nwS, nwE, hnw, and_self, if_true] at q
    exact q.mono fun e w' ⟨a, he, hr, hb⟩ => ⟨a, he, stt_new h hb hr⟩
  have HX := hidS (fun (a r : Nat) W' h => stt_sl (W := W') (M := upd (upd M1 (1, i) (segO (some ⟨a, 0, ⟨List.replicate (2 ^ s.n.toNat) 0, false, []⟩⟩))) (2, i) (refO (some ⟨0, r, ⟨List.replicate (2 ^ s.n.toNat) 0, false, []⟩⟩))) h ((upd_ne (by simp)).trans ((upd_ne (by simp)).trans hI1.obj)) i hi (.pointer (some ⟨a, 0, none⟩)) (.pointer (some ⟨r, 0, none⟩)))
  have HF : Hid (∀ (a r : Nat) W', Stt W' (upd (upd (upd (upd M1 (1, i) (segO (some ⟨a, 0, ⟨List.replicate (2 ^ s.n.toNat) 0, false, []⟩⟩))) (2, i) (refO (some ⟨0, r, ⟨List.replicate (2 ^ s.n.toNat) 0, false, []⟩⟩))) (0, 0) (objP o ((wldC A).setIfInBounds i (.pointer (some ⟨a, 0, none⟩))) 30)) (0, 0) (objP o (((wldC A).setIfInBounds i (.pointer (some ⟨a, 0, none⟩))).setIfInBounds (4 + i) (.pointer (some ⟨r, 0, none⟩))) 30)) → Aft o M n W') := fun (a r : Nat) W' h => by
    refine HLV.out _ ⟨setS A i (some ⟨a, r, ⟨List.replicate (2 ^ s.n.toNat) 0, false, []⟩⟩), _, h, ?_⟩
    refine (fun q => ⟨q.1, q.2, hA.slot _ _⟩) (inv_new hI1 ((upd_eq _ _ _).trans (by rw [← wld_set hi (some ⟨a, r, ⟨List.replicate (2 ^ s.n.toNat) 0, false, []⟩⟩)]; rfl)) ?_ ?_ ?_)
    · first | (simp [upd]; done) | (simp [upd]; rfl)
    · first | (simp [upd]; done) | (simp [upd]; rfl)
    · exact fun d d1 d2 d3 => by simp [upd, d1, d2, d3]
  have HC1 := hidS (fun (a : Nat) W' h => stt_c (W := W') (M := upd M1 (1, i) (segO (some ⟨a, 0, ⟨List.replicate (2 ^ s.n.toNat) 0, false, []⟩⟩))) (c := (8, 2)) h ((upd_ne (by simp)).trans hM8))
  clear hnw
  obtain ⟨c0, -, -, c5, -, -⟩ := stt_c hS1 hM8
  have HS1 := hidS hS1
  clear hS1 hs hd hS0 h8 hI0 hI1 hA hM8 hM9 hM7
  go_enter Tryd.func15, Tryd.ntmps15
  go_wp2_with (first
    | (go_at_call 27; with_reducible refine (HL.out _ HS1.out).mono ?_; rintro e w1 ⟨a1, rfl, HQ1⟩; obtain ⟨-, -, -, d5, -, -⟩ := HC1.out a1 _ HQ1.out)
    | (go_at_call 28; with_reducible refine (HR.out a1 _ HQ1.out).mono ?_; rintro e w2 ⟨r2, rfl, HQ2⟩; obtain ⟨x1, x2, x3, x4, HQ3⟩ := HX.out a1 r2 _ HQ2.out; have HQ4 := hidS HQ3; clear HQ3)
    | fail)
  go_ret
  exact ⟨rfl, HF.out a1 r2 _ HQ4.out⟩
set_option maxHeartbeats 1000000 in
theorem make0b (o n : Nat) (A : Wd) (M : Col → Pc) (i : Nat) (hi : i < 4) (s : Stp) (W : World) (hS0 : Stt W M) (hI0 : Inv o A M) (hA : WfA A n) (hn : n < 5800000000000) (h8 : M (8, 2) = noP) (hs : StpOk s) (j : Nat) (hj : j < 4) (hnw : ¬ (8 ≤ s.n ∧ s.n ≤ 16)) (hd : s.d = 0) :
    Calls Tryd.prog 15 #[.pointer (some ⟨o, 0, none⟩), .agg (stpC s), .int .i64 i, .int .i64 j] W fun e w' => e = .returned (.bool true) ∧ Hid (Aft o M (n) w') := by
  have hS1 := stt_stp (8, 2) s hS0
  have hI1 := inv_far (j := 2) (p := objP W.heap.size (stpC s) 34) hI0
  have HLV := hidS (fun w' => Aft.leave (o := o) (j := 2) (n := n) (p := objP W.heap.size (stpC s) 34) (w' := w') h8)
  have hM8 : upd M (8, 2) (objP W.heap.size (stpC s) 34) (8, 2) = objP W.heap.size (stpC s) 34 := upd_eq _ _ _
  have hdI : (s.d : Int) = 0 := by omega
  have hM9 : ∀ j, upd M (8, 2) (objP W.heap.size (stpC s) 34) (9, j) = M (9, j) := fun j => upd_ne (by simp)
  have hM7 : ∀ j, j ≠ 2 → upd M (8, 2) (objP W.heap.size (stpC s) 34) (8, j) = M (8, j) := fun j hj => upd_ne (by simp [hj])
  generalize upd M (8, 2) (objP W.heap.size (stpC s) 34) = M1 at *
  have _u := And.intro hn (And.intro hs hi)
  clear _u
  have _v := hj
  clear _v
  have hiI : (i : Int) < 4 := by omega
  have HL : Hid (∀ W', Stt W' M1 → Calls Tryd.prog 27 #[.int .i64 s.n] W' fun e w' => ∃ a : Nat, e = .returned (.tuple #[.pointer none, .int .i64 90]) ∧ Hid (Stt w' (upd M1 (1, i) (segO (none))))) := fun W' h => by
    have q := nw_h s.n W'
    simp only [nwS, nwE, hnw, if_false] at q
    exact q.mono fun e w' ⟨a, he, hr, hb⟩ => ⟨a, he, stt_new h hb hr⟩
  have HR : Hid (∀ (a : Nat) W', Stt W' (upd M1 (1, i) (segO (none))) → Calls Tryd.prog 28 #[.int .i64 s.n] W' fun e w' => ∃ r : Nat, e = .returned (.tuple #[.pointer none, .int .i64 90]) ∧ Hid (Stt w' (upd (upd M1 (1, i) (segO (none))) (2, i) (refO (none))))) := fun (a : Nat) W' h => by
    have q := nw_w s.n W'
    simp only [nwS, nwE, hnw, if_false] at q
    exact q.mono fun e w' ⟨a, he, hr, hb⟩ => ⟨a, he, stt_new h hb hr⟩
  have HX := hidS (fun (a r : Nat) W' h => stt_sl (W := W') (M := upd (upd M1 (1, i) (segO (none))) (2, i) (refO (none))) h ((upd_ne (by simp)).trans ((upd_ne (by simp)).trans hI1.obj)) i hi (.pointer none) (.pointer none))
  have HF : Hid (∀ (a r : Nat) W', Stt W' (upd (upd (upd (upd M1 (1, i) (segO (none))) (2, i) (refO (none))) (0, 0) (objP o ((wldC A).setIfInBounds i (.pointer none)) 30)) (0, 0) (objP o (((wldC A).setIfInBounds i (.pointer none)).setIfInBounds (4 + i) (.pointer none)) 30)) → Aft o M n W') := fun (a r : Nat) W' h => by
    refine HLV.out _ ⟨setS A i (none), _, h, ?_⟩
    refine (fun q => ⟨q.1, q.2, hA.slot _ _⟩) (inv_new hI1 ((upd_eq _ _ _).trans (by rw [← wld_set hi (none)]; rfl)) ?_ ?_ ?_)
    · first | (simp [upd]; done) | (simp [upd]; rfl)
    · first | (simp [upd]; done) | (simp [upd]; rfl)
    · exact fun d d1 d2 d3 => by simp [upd, d1, d2, d3]
  have HC1 := hidS (fun (a : Nat) W' h => stt_c (W := W') (M := upd M1 (1, i) (segO (none))) (c := (8, 2)) h ((upd_ne (by simp)).trans hM8))
  clear hnw
  obtain ⟨c0, -, -, c5, -, -⟩ := stt_c hS1 hM8
  have HS1 := hidS hS1
  clear hS1 hs hd hS0 h8 hI0 hI1 hA hM8 hM9 hM7
  go_enter Tryd.func15, Tryd.ntmps15
  go_wp2_with (first
    | (go_at_call 27; with_reducible refine (HL.out _ HS1.out).mono ?_; rintro e w1 ⟨a1, rfl, HQ1⟩; obtain ⟨-, -, -, d5, -, -⟩ := HC1.out a1 _ HQ1.out)
    | (go_at_call 28; with_reducible refine (HR.out a1 _ HQ1.out).mono ?_; rintro e w2 ⟨r2, rfl, HQ2⟩; obtain ⟨x1, x2, x3, x4, HQ3⟩ := HX.out a1 r2 _ HQ2.out; have HQ4 := hidS HQ3; clear HQ3)
    | fail)
  go_ret
  exact ⟨rfl, HF.out a1 r2 _ HQ4.out⟩
set_option maxHeartbeats 1000000 in
theorem make12g (o n : Nat) (A : Wd) (M : Col → Pc) (i : Nat) (hi : i < 4) (s : Stp) (W : World) (hS0 : Stt W M) (hI0 : Inv o A M) (hA : WfA A n) (hn : n < 5800000000000) (h8 : M (8, 2) = noP) (hs : StpOk s) (j : Nat) (hj : j < 4) (sl : Sl) (hsl : A.s i = some sl) (hd : s.d = 12) :
    Calls Tryd.prog 15 #[.pointer (some ⟨o, 0, none⟩), .agg (stpC s), .int .i64 i, .int .i64 j] W fun e w' => e = .returned (.bool true) ∧ Hid (Aft o M (n) w') := by
  have hS1 := stt_stp (8, 2) s hS0
  have hI1 := inv_far (j := 2) (p := objP W.heap.size (stpC s) 34) hI0
  have HLV := hidS (fun w' => Aft.leave (o := o) (j := 2) (n := n) (p := objP W.heap.size (stpC s) 34) (w' := w') h8)
  have hM8 : upd M (8, 2) (objP W.heap.size (stpC s) 34) (8, 2) = objP W.heap.size (stpC s) 34 := upd_eq _ _ _
  have hdI : (s.d : Int) = 12 := by omega
  have hM9 : ∀ j, upd M (8, 2) (objP W.heap.size (stpC s) 34) (9, j) = M (9, j) := fun j => upd_ne (by simp)
  have hM7 : ∀ j, j ≠ 2 → upd M (8, 2) (objP W.heap.size (stpC s) 34) (8, j) = M (8, j) := fun j hj => upd_ne (by simp [hj])
  generalize upd M (8, 2) (objP W.heap.size (stpC s) 34) = M1 at *
  have _u := And.intro hn (And.intro hs hi)
  clear _u
  have _v := hj
  clear _v
  have hiI : (i : Int) < 4 := by omega
  have hjI : (j : Int) < 4 := by omega
  obtain ⟨hv, wv⟩ := stt_hv hS1 hI1.obj i hi
  have HL : Hid (∀ W', Stt W' M1 → Calls Tryd.prog 34 #[haveV (A.s i)] W' fun e w' => ∃ a : Nat, e = .returned (.pointer (some ⟨a, 0, none⟩)) ∧ Hid (Stt w' (upd M1 (1, j) (segO (some ⟨a, 0, ⟨sl.g.bs, false, []⟩⟩))))) := fun W' h => by
    obtain ⟨F, hF⟩ := stt_get h (hI1.seg i hi)
    have q := cl_h (A.s i) F W' hF
    rw [hsl] at q ⊢
    exact q.mono fun e w' ⟨a, he, hr, hb⟩ => ⟨a, he, stt_new h hb hr⟩
  have HR : Hid (∀ (a : Nat) W', Stt W' (upd M1 (1, j) (segO (some ⟨a, 0, ⟨sl.g.bs, false, []⟩⟩))) → Calls Tryd.prog 35 #[wantV (A.s i)] W' fun e w' => ∃ r : Nat, e = .returned (.pointer (some ⟨r, 0, none⟩)) ∧ Hid (Stt w' (upd (upd M1 (1, j) (segO (some ⟨a, 0, ⟨sl.g.bs, false, []⟩⟩))) (2, j) (refO (some ⟨0, r, ⟨sl.g.bs, false, []⟩⟩))))) := fun (a : Nat) W' h => by
    obtain ⟨F, hF⟩ := stt_get h ((upd_ne (by simp)).trans (hI1.ref i hi))
    have q := cl_w (A.s i) F W' hF
    rw [hsl] at q ⊢
    exact q.mono fun e w' ⟨a, he, hr, hb⟩ => ⟨a, he, stt_new h hb hr⟩
  have HX := hidS (fun (a r : Nat) W' h => stt_sl (W := W') (M := upd (upd M1 (1, j) (segO (some ⟨a, 0, ⟨sl.g.bs, false, []⟩⟩))) (2, j) (refO (some ⟨0, r, ⟨sl.g.bs, false, []⟩⟩))) h ((upd_ne (by simp)).trans ((upd_ne (by simp)).trans hI1.obj)) j hj (.pointer (some ⟨a, 0, none⟩)) (.pointer (some ⟨r, 0, none⟩)))
  have HF : Hid (∀ (a r : Nat) W', Stt W' (upd (upd (upd (upd M1 (1, j) (segO (some ⟨a, 0, ⟨sl.g.bs, false, []⟩⟩))) (2, j) (refO (some ⟨0, r, ⟨sl.g.bs, false, []⟩⟩))) (0, 0) (objP o ((wldC A).setIfInBounds j (.pointer (some ⟨a, 0, none⟩))) 30)) (0, 0) (objP o (((wldC A).setIfInBounds j (.pointer (some ⟨a, 0, none⟩))).setIfInBounds (4 + j) (.pointer (some ⟨r, 0, none⟩))) 30)) → Aft o M n W') := fun (a r : Nat) W' h => by
    refine HLV.out _ ⟨setS A j (some ⟨a, r, ⟨sl.g.bs, false, []⟩⟩), _, h, ?_⟩
    refine (fun q => ⟨q.1, q.2, hA.slot _ _⟩) (inv_new hI1 ((upd_eq _ _ _).trans (by rw [← wld_set hj (some ⟨a, r, ⟨sl.g.bs, false, []⟩⟩)]; rfl)) ?_ ?_ ?_)
    · first | (simp [upd]; done) | (simp [upd]; rfl)
    · first | (simp [upd]; done) | (simp [upd]; rfl)
    · exact fun d d1 d2 d3 => by simp [upd, d1, d2, d3]
  have HC1 := hidS (fun (a : Nat) W' h => stt_hv (W := W') (M := upd M1 (1, j) (segO (some ⟨a, 0, ⟨sl.g.bs, false, []⟩⟩))) h ((upd_ne (by simp)).trans hI1.obj) i hi)
  clear hsl
  obtain ⟨c0, -, -, -, -, -⟩ := stt_c hS1 hM8
  have HS1 := hidS hS1
  clear hS1 hs hd hS0 h8 hI0 hI1 hA hM8 hM9 hM7
  go_enter Tryd.func15, Tryd.ntmps15
  go_wp2_with (first
    | (go_at_call 34; with_reducible refine (HL.out _ HS1.out).mono ?_; rintro e w1 ⟨a1, rfl, HQ1⟩; obtain ⟨hv, wv⟩ := HC1.out a1 _ HQ1.out)
    | (go_at_call 35; with_reducible refine (HR.out a1 _ HQ1.out).mono ?_; rintro e w2 ⟨r2, rfl, HQ2⟩; obtain ⟨x1, x2, x3, x4, HQ3⟩ := HX.out a1 r2 _ HQ2.out; have HQ4 := hidS HQ3; clear HQ3)
    | fail)
  go_ret
  exact ⟨rfl, HF.out a1 r2 _ HQ4.out⟩
set_option maxHeartbeats 1000000 in
theorem make12b (o n : Nat) (A : Wd) (M : Col → Pc) (i : Nat) (hi : i < 4) (s : Stp) (W : World) (hS0 : Stt W M) (hI0 : Inv o A M) (hA : WfA A n) (hn : n < 5800000000000) (h8 : M (8, 2) = noP) (hs : StpOk s) (j : Nat) (hj : j < 4) (hsl : A.s i = none) (hd : s.d = 12) :
    Calls Tryd.prog 15 #[.pointer (some ⟨o, 0, none⟩), .agg (stpC s), .int .i64 i, .int .i64 j] W fun e w' => e = .returned (.bool true) ∧ Hid (Aft o M (n) w') := by
  have hS1 := stt_stp (8, 2) s hS0
  have hI1 := inv_far (j := 2) (p := objP W.heap.size (stpC s) 34) hI0
  have HLV := hidS (fun w' => Aft.leave (o := o) (j := 2) (n := n) (p := objP W.heap.size (stpC s) 34) (w' := w') h8)
  have hM8 : upd M (8, 2) (objP W.heap.size (stpC s) 34) (8, 2) = objP W.heap.size (stpC s) 34 := upd_eq _ _ _
  have hdI : (s.d : Int) = 12 := by omega
  have hM9 : ∀ j, upd M (8, 2) (objP W.heap.size (stpC s) 34) (9, j) = M (9, j) := fun j => upd_ne (by simp)
  have hM7 : ∀ j, j ≠ 2 → upd M (8, 2) (objP W.heap.size (stpC s) 34) (8, j) = M (8, j) := fun j hj => upd_ne (by simp [hj])
  generalize upd M (8, 2) (objP W.heap.size (stpC s) 34) = M1 at *
  have _u := And.intro hn (And.intro hs hi)
  clear _u
  have _v := hj
  clear _v
  have hiI : (i : Int) < 4 := by omega
  have hjI : (j : Int) < 4 := by omega
  obtain ⟨hv, wv⟩ := stt_hv hS1 hI1.obj i hi
  have HL : Hid (∀ W', Stt W' M1 → Calls Tryd.prog 34 #[haveV (A.s i)] W' fun e w' => ∃ a : Nat, e = .returned (.pointer none) ∧ Hid (Stt w' (upd M1 (1, j) (segO (none))))) := fun W' h => by
    obtain ⟨F, hF⟩ := stt_get h (hI1.seg i hi)
    have q := cl_h (A.s i) F W' hF
    rw [hsl] at q ⊢
    exact q.mono fun e w' ⟨a, he, hr, hb⟩ => ⟨a, he, stt_new h hb hr⟩
  have HR : Hid (∀ (a : Nat) W', Stt W' (upd M1 (1, j) (segO (none))) → Calls Tryd.prog 35 #[wantV (A.s i)] W' fun e w' => ∃ r : Nat, e = .returned (.pointer none) ∧ Hid (Stt w' (upd (upd M1 (1, j) (segO (none))) (2, j) (refO (none))))) := fun (a : Nat) W' h => by
    obtain ⟨F, hF⟩ := stt_get h ((upd_ne (by simp)).trans (hI1.ref i hi))
    have q := cl_w (A.s i) F W' hF
    rw [hsl] at q ⊢
    exact q.mono fun e w' ⟨a, he, hr, hb⟩ => ⟨a, he, stt_new h hb hr⟩
  have HX := hidS (fun (a r : Nat) W' h => stt_sl (W := W') (M := upd (upd M1 (1, j) (segO (none))) (2, j) (refO (none))) h ((upd_ne (by simp)).trans ((upd_ne (by simp)).trans hI1.obj)) j hj (.pointer none) (.pointer none))
  have HF : Hid (∀ (a r : Nat) W', Stt W' (upd (upd (upd (upd M1 (1, j) (segO (none))) (2, j) (refO (none))) (0, 0) (objP o ((wldC A).setIfInBounds j (.pointer none)) 30)) (0, 0) (objP o (((wldC A).setIfInBounds j (.pointer none)).setIfInBounds (4 + j) (.pointer none)) 30)) → Aft o M n W') := fun (a r : Nat) W' h => by
    refine HLV.out _ ⟨setS A j (none), _, h, ?_⟩
    refine (fun q => ⟨q.1, q.2, hA.slot _ _⟩) (inv_new hI1 ((upd_eq _ _ _).trans (by rw [← wld_set hj (none)]; rfl)) ?_ ?_ ?_)
    · first | (simp [upd]; done) | (simp [upd]; rfl)
    · first | (simp [upd]; done) | (simp [upd]; rfl)
    · exact fun d d1 d2 d3 => by simp [upd, d1, d2, d3]
  have HC1 := hidS (fun (a : Nat) W' h => stt_hv (W := W') (M := upd M1 (1, j) (segO (none))) h ((upd_ne (by simp)).trans hI1.obj) i hi)
  clear hsl
  obtain ⟨c0, -, -, -, -, -⟩ := stt_c hS1 hM8
  have HS1 := hidS hS1
  clear hS1 hs hd hS0 h8 hI0 hI1 hA hM8 hM9 hM7
  go_enter Tryd.func15, Tryd.ntmps15
  go_wp2_with (first
    | (go_at_call 34; with_reducible refine (HL.out _ HS1.out).mono ?_; rintro e w1 ⟨a1, rfl, HQ1⟩; obtain ⟨hv, wv⟩ := HC1.out a1 _ HQ1.out)
    | (go_at_call 35; with_reducible refine (HR.out a1 _ HQ1.out).mono ?_; rintro e w2 ⟨r2, rfl, HQ2⟩; obtain ⟨x1, x2, x3, x4, HQ3⟩ := HX.out a1 r2 _ HQ2.out; have HQ4 := hidS HQ3; clear HQ3)
    | fail)
  go_ret
  exact ⟨rfl, HF.out a1 r2 _ HQ4.out⟩
set_option maxHeartbeats 1000000 in
theorem make17 (o n : Nat) (A : Wd) (M : Col → Pc) (i : Nat) (hi : i < 4) (s : Stp) (W : World) (hS0 : Stt W M) (hI0 : Inv o A M) (hA : WfA A n) (hn : n < 5800000000000) (h8 : M (8, 2) = noP) (hs : StpOk s) (j : Nat) (hj : j < 4) (hd : s.d = 17) :
    Calls Tryd.prog 15 #[.pointer (some ⟨o, 0, none⟩), .agg (stpC s), .int .i64 i, .int .i64 j] W fun e w' => e = .returned (.bool true) ∧ Hid (Aft o M (n) w') := by
  have hS1 := stt_stp (8, 2) s hS0
  have hI1 := inv_far (j := 2) (p := objP W.heap.size (stpC s) 34) hI0
  have HLV := hidS (fun w' => Aft.leave (o := o) (j := 2) (n := n) (p := objP W.heap.size (stpC s) 34) (w' := w') h8)
  have hM8 : upd M (8, 2) (objP W.heap.size (stpC s) 34) (8, 2) = objP W.heap.size (stpC s) 34 := upd_eq _ _ _
  have hdI : (s.d : Int) = 17 := by omega
  have hM9 : ∀ j, upd M (8, 2) (objP W.heap.size (stpC s) 34) (9, j) = M (9, j) := fun j => upd_ne (by simp)
  have hM7 : ∀ j, j ≠ 2 → upd M (8, 2) (objP W.heap.size (stpC s) 34) (8, j) = M (8, j) := fun j hj => upd_ne (by simp [hj])
  generalize upd M (8, 2) (objP W.heap.size (stpC s) 34) = M1 at *
  have _u := And.intro hn (And.intro hs hi)
  clear _u
  have _v := hj
  clear _v
  have hiI : (i : Int) < 4 := by omega
  obtain ⟨x1, x2, x3, x4, HQ3⟩ := stt_sl hS1 hI1.obj i hi (.pointer none) (.pointer none)
  have HQ4 := hidS HQ3
  clear HQ3
  have HF : Hid (∀ W', Stt W' (upd (upd M1 (0, 0) (objP o ((wldC A).setIfInBounds i (.pointer none)) 30)) (0, 0) (objP o (((wldC A).setIfInBounds i (.pointer none)).setIfInBounds (4 + i) (.pointer none)) 30)) → Aft o M n W') := fun W' h => by
    refine HLV.out _ ⟨setS A i none, _, stt_forget (2, i) (M' := upd (upd (upd (upd M1 (0, 0) (objP o ((wldC A).setIfInBounds i (.pointer none)) 30)) (0, 0) (objP o (((wldC A).setIfInBounds i (.pointer none)).setIfInBounds (4 + i) (.pointer none)) 30)) (1, i) noP) (2, i) noP) (stt_forget (1, i) (M' := upd (upd (upd M1 (0, 0) (objP o ((wldC A).setIfInBounds i (.pointer none)) 30)) (0, 0) (objP o (((wldC A).setIfInBounds i (.pointer none)).setIfInBounds (4 + i) (.pointer none)) 30)) (1, i) noP) h (upd_eq _ _ _) (fun d hd => upd_ne hd)) (upd_eq _ _ _) (fun d hd => upd_ne hd), ?_⟩
    refine (fun q => ⟨q.1, q.2, hA.slot _ _⟩) (inv_new hI1 ((upd_ne (by simp)).trans ((upd_ne (by simp)).trans ((upd_eq _ _ _).trans (by rw [← wld_set hi none]; rfl)))) ?_ ?_ ?_)
    · simp [upd]; rfl
    · simp [upd]; rfl
    · exact fun d d1 d2 d3 => by simp [upd, d1, d2, d3]
  obtain ⟨c0, -, -, -, -, -⟩ := stt_c hS1 hM8
  have HS1 := hidS hS1
  clear hS1 hs hd hS0 h8 hI0 hI1 hA hM8 hM9 hM7
  go_enter Tryd.func15, Tryd.ntmps15
  go_wp2_with fail
  go_ret
  exact ⟨rfl, HF.out _ HQ4.out⟩
set_option maxHeartbeats 1000000 in
theorem make_no (o n : Nat) (A : Wd) (M : Col → Pc) (i j : Nat) (s : Stp) (W : World) (hS : Stt W M) (hI : Inv o A M) (hA : WfA A n) (h8 : M (8, 2) = noP) (d0 : ¬ s.d = 0) (d1 : ¬ s.d = 1) (d12 : ¬ s.d = 12) (d17 : ¬ s.d = 17) :
    Calls Tryd.prog 15 #[.pointer (some ⟨o, 0, none⟩), .agg (stpC s), .int .i64 i, .int .i64 j] W fun e w' => e = .returned (.bool true) ∧ Hid (Aft o M n w') := by
  have hS0 := stt_stp (8, 2) s hS
  obtain ⟨c0, -, -, -, -, -⟩ := stt_c hS0 (upd_eq _ _ _)
  have HF : Hid (Aft o M n (W.alloc (.cells (stpC s) 34))) := ⟨A, M, stt_forget (M' := M) (8, 2) hS0 h8 (fun d hd => by simp [upd, hd]), hI, Kee.refl _, hA⟩
  have e0 : ¬ (s.d : Int) = 0 := by omega
  have e1 : ¬ (s.d : Int) = 1 := by omega
  have e12 : ¬ (s.d : Int) = 12 := by omega
  have e17 : ¬ (s.d : Int) = 17 := by omega
  clear hS hS0 h8 hI hA d0 d1 d12 d17
  go_enter Tryd.func15, Tryd.ntmps15
  go_wp2_with fail
  go_ret
  exact ⟨rfl, HF⟩
theorem make_mid (o n : Nat) (A : Wd) (M : Col → Pc) (i j : Nat) (hi : i < 4) (hj : j < 4) (s : Stp) (W : World) (hS : Stt W M) (hI : Inv o A M) (hA : WfA A n) (hn : n < 5800000000000) (h8 : M (8, 2) = noP) (hs : StpOk s) (d1 : ¬ s.d = 1) :
    Calls Tryd.prog 15 #[.pointer (some ⟨o, 0, none⟩), .agg (stpC s), .int .i64 i, .int .i64 j] W fun e w' => e = .returned (.bool true) ∧ Hid (Aft o M n w') := by
  by_cases e0 : s.d = 0
  · by_cases hnw : 8 ≤ s.n ∧ s.n ≤ 16
    · exact make0g o n A M i hi s W hS hI hA hn h8 hs j hj hnw e0
    · exact make0b o n A M i hi s W hS hI hA hn h8 hs j hj hnw e0
  by_cases e12 : s.d = 12
  · cases hsl : A.s i with
    | none => exact make12b o n A M i hi s W hS hI hA hn h8 hs j hj hsl e12
    | some sl => exact make12g o n A M i hi s W hS hI hA hn h8 hs j hj sl hsl e12
  by_cases e17 : s.d = 17
  · exact make17 o n A M i hi s W hS hI hA hn h8 hs j hj e17
  · exact make_no o n A M i j s W hS hI hA h8 e0 d1 e12 e17
end Go.Proofs.YtnjglagfpghbjaaDoor
namespace Go.Proofs.YtnjglagfpghbjaaDoor
open Go.RowKit Go.WideShapes
set_option maxRecDepth 100000

/-- the condition that is held through a region may be made stronger on the way -/
theorem wpAnyH_mono {P : Program} {md : Region.Mode} {ops : Array Oper} {Q : Exit → Act → World → Prop} {S S' : World → Prop} (himp : ∀ w, S' w → S w) : ∀ (fuel : Nat) (listed : Array Bool) (a : Act) (w : World), wpAnyH P md ops Q S' fuel listed a w → wpAnyH P md ops Q S fuel listed a w
  | 0, _, _, _, h => h
  | fuel + 1, _, _, _, h => ⟨h.1, fun i hi => wpOp_mono (fun a' w' h' => ⟨himp w' h'.1, wpAnyH_mono himp fuel _ a' w' h'.2⟩) (h.2 i hi)⟩
theorem shut_eq {P : Program} {md : Region.Mode} {ops : Array Oper} {Q : Exit → Act → World → Prop} {S : World → Prop} (S' : World → Prop) {fuel : Nat} {listed : Array Bool} {K : Act → World → Prop} (himp : ∀ w, S' w → S w)
    (h : Shut (∀ a w, S w → (S w → wpAnyH P md ops Q S fuel listed a w) → K a w)) : Shut (∀ a w, S w → (S w → wpAnyH P md ops Q S fuel listed a w) → K a w) = Shut (∀ a w, S' w → (S' w → wpAnyH P md ops Q S' fuel listed a w) → K a w) :=
  propext ⟨fun _ a w h1 h2 => h.out a w (himp w h1) (fun _ => wpAnyH_mono himp _ _ _ _ (h2 h1)), fun _ => h⟩
structure StpQ (s : Stp) : Prop where
  ok : StpOk s
  a : s.a ≤ 255
  b : s.b ≤ 255
  dl : s.dz.length ≤ 140737488351232
theorem stt_c12 {W : World} {M : Col → Pc} {c : Col} {o : Nat} {s : Stp} (h : Stt W M) (hc : M c = objP o (stpC s) 34) :
    W.cell? ⟨o, 0, none⟩ = some (.int .u8 s.d) ∧ W.cell? ⟨o, 1, none⟩ = some (.int .u8 s.a) ∧ W.cell? ⟨o, 2, none⟩ = some (.int .u8 s.b) ∧ W.cell? ⟨o, 3, none⟩ = some (.int .u32 s.at_) ∧ W.cell? ⟨o, 4, none⟩ = some (.int .u32 s.v) ∧ W.cell? ⟨o, 5, none⟩ = some (.int .i64 s.n) ∧ W.cell? ⟨o, 6, none⟩ = some (.bool s.on) ∧ W.cell? ⟨o, 7, none⟩ = some (.slice s.da s.dz.length s.dc) :=
  ⟨stt_cell h hc 0 _ rfl, stt_cell h hc 1 _ rfl, stt_cell h hc 2 _ rfl, stt_cell h hc 3 _ rfl, stt_cell h hc 4 _ rfl, stt_cell h hc 5 _ rfl, stt_cell h hc 6 _ rfl, stt_cell h hc 7 _ rfl⟩
def AftQ (Q : Wd → Prop) (o : Nat) (M : Col → Pc) (n : Nat) (w' : World) : Prop := ∃ A' M', Stt w' M' ∧ Inv o A' M' ∧ Kee M M' ∧ WfA A' n ∧ Q A'
def MakeQ (Q : Wd → Prop) (s : Stp) : Prop := ∀ (o n : Nat) (A : Wd) (M : Col → Pc) (i j : Nat) (W w0 : World), i < 4 → j < 4 → Stt W M → Inv o A M → WfA A n → n < 5800000000000 → M (8, 2) = noP → M (8, 5) = noP → M (9, 0) = outP w0 → Reads w0 s.da s.dz w0.heap.size → i = s.a % 4 →
    Calls Tryd.prog 15 #[.pointer (some ⟨o, 0, none⟩), .agg (stpC s), .int .i64 i, .int .i64 j] W fun e w' => e = .returned (.bool true) ∧ Hid (AftQ Q o M n w')
/-- the make of all steps -/
def MakeOk (s : Stp) : Prop := ∀ (o n : Nat) (A : Wd) (M : Col → Pc) (i j : Nat) (W w0 : World), i < 4 → j < 4 → Stt W M → Inv o A M → WfA A n → n < 5800000000000 → M (8, 2) = noP → M (8, 5) = noP → M (9, 0) = outP w0 → Reads w0 s.da s.dz w0.heap.size →
    Calls Tryd.prog 15 #[.pointer (some ⟨o, 0, none⟩), .agg (stpC s), .int .i64 i, .int .i64 j] W fun e w' => e = .returned (.bool true) ∧ Hid (Aft o M n w')
theorem words_aft (o n : Nat) (A : Wd) (M : Col → Pc) (i : Nat) (hi : i < 4) (s : Stp) (W : World) (hS : Stt W M) (hI : Inv o A M) (hA : WfA A n) (h8 : M (8, 3) = noP) (hs : StpOk s) :
    Calls Tryd.prog 16 #[.pointer (some ⟨o, 0, none⟩), .agg (stpC s), haveV (A.s i), wantV (A.s i)] W fun e w' => e = .returned (.bool true) ∧ Hid (AftP o A M n w') := by
  refine (words_any o M i (A.s i) s W hS (hI.seg i hi) (hI.ref i hi) h8 hs).mono fun e w' ⟨he, hq⟩ => ⟨he, ?_⟩
  have hw : haveV (wdS s (A.s i)) = haveV (A.s i) ∧ wantV (wdS s (A.s i)) = wantV (A.s i) := by
    unfold wdS
    repeat' split
    all_goals first | exact mapS_have _ _ | exact ⟨rfl, rfl⟩
  obtain ⟨q1, q2⟩ := inv_slot (i := i) (S := wdS s (A.s i)) (M' := upd (upd M (1, i) (segO (wdS s (A.s i)))) (2, i) (refO (wdS s (A.s i)))) hI hw.1 hw.2 (by simp [upd]) (by simp [upd]) (fun d h1 h2 => by simp [upd, h1, h2])
  exact ⟨_, _, hq.out, q1, q2, hA.slot _ _, ptr_set hw⟩
theorem aftq_out {Q : Wd → Prop} {o : Nat} {M : Col → Pc} {n : Nat} {w' : World} (h : AftQ Q o M n w') : ∃ A' M', Stt w' M' ∧ Inv o A' M' ∧ Kee M M' ∧ WfA A' n ∧ Q A' := h
theorem AftQ.leave {Q : Wd → Prop} {o : Nat} {M : Col → Pc} {j n : Nat} {p : Pc} {w' : World} (h8 : M (8, j) = noP) (h : AftQ Q o (upd M (8, j) p) n w') : AftQ Q o M n w' := by
  obtain ⟨A', M', q1, q2, q3, q4, q5⟩ := h
  exact ⟨A', upd M' (8, j) noP, stt_forget (8, j) q1 (upd_eq _ _ _) (fun d hd => upd_ne hd), inv_far q2, kee_obj h8 q3, q4, q5⟩
theorem AftQ.from {Q : Wd → Prop} {o : Nat} {M M' : Col → Pc} {n : Nat} {w : World} (hk : Kee M M') : AftQ Q o M' n w → AftQ Q o M n w := fun ⟨A, N, h1, h2, h3, h4, h5⟩ => ⟨A, N, h1, h2, hk.trans h3, h4, h5⟩
theorem aftp_out {o : Nat} {A : Wd} {M : Col → Pc} {n : Nat} {w' : World} (h : AftP o A M n w') : ∃ A' M', Stt w' M' ∧ Inv o A' M' ∧ Kee M M' ∧ WfA A' n ∧ (∀ k, haveV (A'.s k) = haveV (A.s k) ∧ wantV (A'.s k) = wantV (A.s k)) := h
theorem AftP.from {o : Nat} {A : Wd} {M M' : Col → Pc} {n : Nat} {w : World} (hk : Kee M M') : AftP o A M' n w → AftP o A M n w := fun ⟨A, N, h1, h2, h3, h4, h5⟩ => ⟨A, N, h1, h2, hk.trans h3, h4, h5⟩
theorem pv_eq {w : World} {o i : Nat} {S S' : Option Sl} (h : w.cell? ⟨o, i, none⟩ = some (haveV S') ∧ w.cell? ⟨o, 4 + i, none⟩ = some (wantV S')) (e : haveV S' = haveV S ∧ wantV S' = wantV S) : w.cell? ⟨o, i, none⟩ = some (haveV S) ∧ w.cell? ⟨o, 4 + i, none⟩ = some (wantV S) := by
  rw [← e.1, ← e.2]; exact h
theorem Aft.from {o : Nat} {M M' : Col → Pc} {n : Nat} {w : World} (hk : Kee M M') : Aft o M' n w → Aft o M n w := fun ⟨A, N, h1, h2, h3, h4⟩ => ⟨A, N, h1, h2, hk.trans h3, h4⟩
set_option maxHeartbeats 2000000 in
theorem step_q (Q : Wd → Prop) (hQ : ∀ A A', Ptr A A' → Q A → Q A') (o n : Nat) (A : Wd) (M : Col → Pc) (s : Stp) (W : World) (hS0 : Stt W M) (hI0 : Inv o A M) (hA : WfA A n) (hn : n + 1 < 5800000000000) (h8 : ∀ j, 1 ≤ j → M (8, j) = noP) (hs : StpQ s) (hmk : MakeQ Q s) (w0 : World) (hw0 : M (9, 0) = outP w0) (hr0 : Reads w0 s.da s.dz w0.heap.size) (hT : TabA w0) (h1w : 1 < w0.heap.size) :
    Calls Tryd.prog 5 #[.pointer (some ⟨o, 0, none⟩), .agg (stpC s)] W fun e w' => e = .returned (.bool true) ∧ Hid (AftQ Q o M (n + 2) w') := by
  have hS1 := stt_stp (8, 1) s hS0
  have hI1 := inv_far (j := 1) (p := objP W.heap.size (stpC s) 34) hI0
  have HLV := hidS (fun w' => AftQ.leave (Q := Q) (o := o) (j := 1) (n := n + 2) (p := objP W.heap.size (stpC s) 34) (w' := w') (h8 1 (Nat.le_refl _)))
  have hM8 : upd M (8, 1) (objP W.heap.size (stpC s) 34) (8, 1) = objP W.heap.size (stpC s) 34 := upd_eq _ _ _
  have hM9 : upd M (8, 1) (objP W.heap.size (stpC s) 34) (9, 0) = outP w0 := (upd_ne (by simp)).trans hw0
  have hM7 : ∀ j, 2 ≤ j → upd M (8, 1) (objP W.heap.size (stpC s) 34) (8, j) = noP := fun j hj => (upd_ne (by simp; omega)).trans (h8 j (by omega))
  generalize upd M (8, 1) (objP W.heap.size (stpC s) 34) = M1 at *
  obtain ⟨i, hi⟩ : ∃ i, i = s.a % 4 := ⟨_, rfl⟩
  obtain ⟨j, hj⟩ : ∃ j, j = s.b % 4 := ⟨_, rfl⟩
  have hi4 : i < 4 := by omega
  have hj4 : j < 4 := by omega
  have HM : Hid (∀ W', Stt W' M1 → Calls Tryd.prog 15 #[.pointer (some ⟨o, 0, none⟩), .agg #[.int .u8 s.d, .int .u8 s.a, .int .u8 s.b, .int .u32 s.at_, .int .u32 s.v, .int .i64 s.n, .bool s.on, .slice s.da s.dz.length s.dc], .int .i64 i, .int .i64 j] W' fun e w' => e = .returned (.bool true) ∧ Hid (AftQ Q o M1 n w')) := fun W' h =>
    hmk o n A M1 i j W' w0 hi4 hj4 h hI1 hA (by omega) (hM7 2 (by decide)) (hM7 5 (by decide)) hM9 hr0 hi
  have HWD : Hid (∀ A' M' W', Kee M1 M' → Stt W' M' → Inv o A' M' → WfA A' n → Calls Tryd.prog 16 #[.pointer (some ⟨o, 0, none⟩), .agg #[.int .u8 s.d, .int .u8 s.a, .int .u8 s.b, .int .u32 s.at_, .int .u32 s.v, .int .i64 s.n, .bool s.on, .slice s.da s.dz.length s.dc], haveV (A'.s i), wantV (A'.s i)] W' fun e w' => e = .returned (.bool true) ∧ Hid (AftP o A' M1 n w')) := fun A' M' W' hk h hI' hA' =>
    (words_aft o n A' M' i hi4 s W' h hI' hA' ((hk 3).1.trans (hM7 3 (by decide))) hs.ok).mono fun e w' ⟨he, hq⟩ => ⟨he, AftP.from hk hq.out⟩
  have HWN : Hid (∀ A' M' W', Kee M1 M' → Stt W' M' → Inv o A' M' → WfA A' n → Calls Tryd.prog 17 #[.pointer (some ⟨o, 0, none⟩), .agg #[.int .u8 s.d, .int .u8 s.a, .int .u8 s.b, .int .u32 s.at_, .int .u32 s.v, .int .i64 s.n, .bool s.on, .slice s.da s.dz.length s.dc], haveV (A'.s i), wantV (A'.s i)] W' fun e w' => e = .returned (.bool true) ∧ Hid (AftP o A' M1 (n + 1) w')) := fun A' M' W' hk h hI' hA' =>
    (windows_any o n A' M' i hi4 s W' h hI' hA' (by omega) ((hk 4).1.trans (hM7 4 (by decide))) ((hk 5).1.trans (hM7 5 (by decide))) hs.ok w0 ((hk 0).2.trans hM9) hr0 hs.dl).mono fun e w' ⟨he, hq⟩ => ⟨he, AftP.from hk hq.out⟩
  have HRS : Hid (∀ A1 A' M' W', Q A1 → (∀ k, haveV (A'.s k) = haveV (A1.s k) ∧ wantV (A'.s k) = wantV (A1.s k)) → Kee M1 M' → Stt W' M' → Inv o A' M' → WfA A' (n + 1) → Calls Tryd.prog 18 #[.pointer (some ⟨o, 0, none⟩), .agg #[.int .u8 s.d, .int .u8 s.a, .int .u8 s.b, .int .u32 s.at_, .int .u32 s.v, .int .i64 s.n, .bool s.on, .slice s.da s.dz.length s.dc], .int .i64 i, .int .i64 j] W' fun e w' => e = .returned (.bool true) ∧ Hid (AftQ Q o M (n + 2) w')) := fun A1 A' M' W' hq1 hp hk h hI' hA' =>
    (rest_any o (n + 1) A' M' i j hi4 hj4 s W' h hI' hA' (by omega) ((hk 6).1.trans (hM7 6 (by decide))) hs.ok w0 ((hk 0).2.trans hM9) hT h1w).mono fun e w' ⟨he, hq⟩ => ⟨he, HLV.out _ (AftQ.from hk (by
      obtain ⟨A3, M3, p1, p2, p3, p4, p5⟩ := hq.out
      exact ⟨A3, M3, p1, p2, p3, p4, hQ _ _ p5 (hQ _ _ hp hq1)⟩))⟩
  have HWN2 : Hid (∀ A0 A' M' W', (∀ k, haveV (A'.s k) = haveV (A0.s k) ∧ wantV (A'.s k) = wantV (A0.s k)) → Kee M1 M' → Stt W' M' → Inv o A' M' → WfA A' n → Calls Tryd.prog 17 #[.pointer (some ⟨o, 0, none⟩), .agg #[.int .u8 s.d, .int .u8 s.a, .int .u8 s.b, .int .u32 s.at_, .int .u32 s.v, .int .i64 s.n, .bool s.on, .slice s.da s.dz.length s.dc], haveV (A0.s i), wantV (A0.s i)] W' fun e w' => e = .returned (.bool true) ∧ Hid (AftP o A0 M1 (n + 1) w')) := fun A0 A' M' W' hp hk h hI' hA' => by
    have q := HWN.out A' M' W' hk h hI' hA'
    rw [(hp i).1, (hp i).2] at q
    refine q.mono fun e w' ⟨he, hq⟩ => ⟨he, ?_⟩
    obtain ⟨A3, M3, p1, p2, p3, p4, p5⟩ := hq.out
    exact ⟨A3, M3, p1, p2, p3, p4, fun k => ⟨(p5 k).1.trans (hp k).1, (p5 k).2.trans (hp k).2⟩⟩
  clear HWN
  have HC := hidS (fun M' W' (hk : Kee M1 M') (h : Stt W' M') => stt_c12 h ((hk 1).1.trans hM8))
  have HV := hidS (fun A' M' W' (h : Stt W' M') (hI : Inv o A' M') => stt_hv h hI.obj i hi4)
  obtain ⟨c0, c1, c2, c3, c4, c5, c6, c7⟩ := stt_c12 hS1 hM8
  have HS1 := hidS hS1
  have a1 : (s.a : Int).tmod 4 = (i : Int) := by rw [Int.tmod_eq_emod_of_nonneg (by omega)]; omega
  have a2 : (s.a : Int) % 4 = (i : Int) := by omega
  have b1 : (s.b : Int).tmod 4 = (j : Int) := by rw [Int.tmod_eq_emod_of_nonneg (by omega)]; omega
  have b2 : (s.b : Int) % 4 = (j : Int) := by omega
  have ha := hs.a
  have hb := hs.b
  have hiI : (i : Int) < 4 := by omega
  clear hS1 hs hS0 h8 hI0 hI1 hA hM8 hM9 hM7 hi hj hmk hw0 hr0 hT h1w hQ
  go_enter Tryd.func5, Tryd.ntmps5
  go_wp2_with fail
  go_region_held3 (fun w' => w'.cell? ⟨W.heap.size, 0, none⟩ = some (.int .u8 s.d) ∧ w'.cell? ⟨W.heap.size, 1, none⟩ = some (.int .u8 s.a) ∧ w'.cell? ⟨W.heap.size, 2, none⟩ = some (.int .u8 s.b) ∧ w'.cell? ⟨W.heap.size, 3, none⟩ = some (.int .u32 s.at_) ∧ w'.cell? ⟨W.heap.size, 4, none⟩ = some (.int .u32 s.v) ∧ w'.cell? ⟨W.heap.size, 5, none⟩ = some (.int .i64 s.n) ∧ w'.cell? ⟨W.heap.size, 6, none⟩ = some (.bool s.on) ∧ w'.cell? ⟨W.heap.size, 7, none⟩ = some (.slice s.da s.dz.length s.dc)) ((first | exact ⟨c0, c1, c2, c3, c4, c5, c6, c7⟩ | exact HD2.out | exact HD1.out | exact HD0.out)) (first
    | (go_at_call 15; with_reducible refine (HM.out _ (by (repeat (first | exact HS1.out | with_reducible refine stt_drew ?_)))).mono ?_; rintro e w1 ⟨rfl, HQ1⟩; obtain ⟨A1, M2, q1, q2, q3, q4, q5⟩ := aftq_out HQ1.out; have P5 := hidS q5; have HD0 := hidS (And.intro (HC.out _ _ q3 q1) (HV.out _ _ _ q1 q2)); have P1 := hidS q1; have P2 := hidS q2; have P3 := hidS q3; have P4 := hidS q4; clear q1 q2 q3 q4 q5 HQ1 c0 c1 c2 c3 c4 c5 c6 c7; rw [shut_eq (fun w' => (w'.cell? ⟨W.heap.size, 0, none⟩ = some (.int .u8 s.d) ∧ w'.cell? ⟨W.heap.size, 1, none⟩ = some (.int .u8 s.a) ∧ w'.cell? ⟨W.heap.size, 2, none⟩ = some (.int .u8 s.b) ∧ w'.cell? ⟨W.heap.size, 3, none⟩ = some (.int .u32 s.at_) ∧ w'.cell? ⟨W.heap.size, 4, none⟩ = some (.int .u32 s.v) ∧ w'.cell? ⟨W.heap.size, 5, none⟩ = some (.int .i64 s.n) ∧ w'.cell? ⟨W.heap.size, 6, none⟩ = some (.bool s.on) ∧ w'.cell? ⟨W.heap.size, 7, none⟩ = some (.slice s.da s.dz.length s.dc)) ∧ w'.cell? ⟨o, i, none⟩ = some (haveV (A1.s i)) ∧ w'.cell? ⟨o, 4 + i, none⟩ = some (wantV (A1.s i))) (fun _ h => h.1) ‹Shut _›] at *)
    | (go_at_call 16; with_reducible refine (HWD.out _ _ _ P3.out P1.out P2.out P4.out).mono ?_; rintro e w2 ⟨rfl, HQ2⟩; obtain ⟨A2, M3, q1, q2, q3, q4, q5⟩ := aftp_out HQ2.out; have HD1 := hidS (And.intro (HC.out _ _ q3 q1) (pv_eq (HV.out _ _ _ q1 q2) (q5 i))); have R1 := hidS q1; have R2 := hidS q2; have R3 := hidS q3; have R4 := hidS q4; have R5 := hidS q5; clear q1 q2 q3 q4 q5 HQ2)
    | (go_at_call 17; with_reducible refine (HWN2.out _ _ _ _ R5.out R3.out R1.out R2.out R4.out).mono ?_; rintro e w3 ⟨rfl, HQ3⟩; obtain ⟨A3, M4, q1, q2, q3, q4, q5⟩ := aftp_out HQ3.out; have HD2 := hidS (And.intro (HC.out _ _ q3 q1) (pv_eq (HV.out _ _ _ q1 q2) (q5 i))); have T1 := hidS q1; have T2 := hidS q2; have T3 := hidS q3; have T4 := hidS q4; have T5 := hidS q5; clear q1 q2 q3 q4 q5 HQ3)
    | fail)
  obtain ⟨⟨l0, l1, l2, l3, l4, l5, l6, l7⟩, -⟩ := HD2.out
  clear HD2
  go_wp2_with (first
    | (go_at_call 18; with_reducible refine (HRS.out _ _ _ _ P5.out T5.out T3.out T1.out T2.out T4.out).mono ?_; rintro e w4 ⟨rfl, HQ4⟩)
    | fail)
  go_ret
  exact ⟨rfl, HQ4⟩
theorem step_any (o n : Nat) (A : Wd) (M : Col → Pc) (s : Stp) (W : World) (hS0 : Stt W M) (hI0 : Inv o A M) (hA : WfA A n) (hn : n + 1 < 5800000000000) (h8 : ∀ j, 1 ≤ j → M (8, j) = noP) (hs : StpQ s) (hmk : MakeOk s) (w0 : World) (hw0 : M (9, 0) = outP w0) (hr0 : Reads w0 s.da s.dz w0.heap.size) (hT : TabA w0) (h1w : 1 < w0.heap.size) :
    Calls Tryd.prog 5 #[.pointer (some ⟨o, 0, none⟩), .agg (stpC s)] W fun e w' => e = .returned (.bool true) ∧ Hid (Aft o M (n + 2) w') :=
  (step_q (fun _ => True) (fun _ _ _ h => h) o n A M s W hS0 hI0 hA hn h8 hs (fun o n A M i j W w0 a1 a2 a3 a4 a5 a6 a7 a8 a9 a10 _ => (hmk o n A M i j W w0 a1 a2 a3 a4 a5 a6 a7 a8 a9 a10).mono fun e w' ⟨he, hq⟩ => ⟨he, by
    obtain ⟨A', M', p1, p2, p3, p4⟩ := hq.out
    exact ⟨A', M', p1, p2, p3, p4, trivial⟩⟩) w0 hw0 hr0 hT h1w).mono fun e w' ⟨he, hq⟩ => ⟨he, by
    obtain ⟨A', M', p1, p2, p3, p4, _⟩ := hq.out
    exact ⟨A', M', p1, p2, p3, p4⟩⟩
end Go.Proofs.YtnjglagfpghbjaaDoor
