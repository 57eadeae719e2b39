import Derived.Test.YtnjglagfpghbjaaDoorCP8
import Derived.Test.YtnjglagfpghbjaaDoorCP0
namespace Go.Proofs.YtnjglagfpghbjaaDoor
open Go.RowKit Go.WideShapes
set_option maxRecDepth 100000

theorem one_newsv {W : World} {x : Value} {t : TypeId} : ∀ j u, [x][j]? = some u → (W.alloc (.cells #[x] t)).cell? ((⟨W.heap.size, 0, none⟩ : Addr).add j) = some u := by
  intro j u hj
  match j, hj with
  | 0, hj => simp at hj; subst hj; simp [Addr.add]
theorem one_newsv2 {W : World} {x : Value} {t : TypeId} {b : Nat} (hb : b = W.heap.size) : ∀ j u, [x][j]? = some u → (W.alloc (.cells #[x] t)).cell? ((⟨b, 0, none⟩ : Addr).add j) = some u := by
  subst hb; exact one_newsv
theorem stt_c8 {W : World} {M : Col → Pc} {o : Nat} {A : Wd} {t : TypeId} (h : Stt W M) (hc : M (0, 0) = objP o (wldC A) t) : W.cell? ⟨o, 8, none⟩ = some A.vg ∧ W.cell? ⟨o, 9, none⟩ = some A.vk ∧ W.cell? ⟨o, 10, none⟩ = some A.vn ∧ W.cell? ⟨o, 11, none⟩ = some A.vw ∧ (∀ i, W.frozen? ⟨o, i, none⟩ = false) ∧ o < W.heap.size :=
  ⟨stt_cell h hc 8 _ rfl, stt_cell h hc 9 _ rfl, stt_cell h hc 10 _ rfl, stt_cell h hc 11 _ rfl, fun i => obj_frozen (stt_obj h hc) i, (Array.getElem?_eq_some_iff.1 (stt_obj h hc)).1⟩
theorem snoc_get {α : Type} {L : List α} {x y : α} {j : Nat} (h : (L ++ [x])[j]? = some y) : L[j]? = some y ∨ (j = L.length ∧ y = x) := by
  by_cases hj : j < L.length
  · rw [List.getElem?_append_left hj] at h; exact .inl h
  · rw [List.getElem?_append_right (by omega)] at h
    by_cases h0 : j - L.length = 0
    · rw [h0] at h; simp at h; exact .inr ⟨by omega, h.symm⟩
    · rw [List.getElem?_eq_none (by simp; omega)] at h; cases h
/-- the world behind two more bytes that were answered -/
theorem inv_bytes {o : Nat} {A : Wd} {M M' : Col → Pc} {v u vg vk : Value} {zs : List Int} (hI : Inv o A M) (h4 : M (4, A.lg.length) = rowB v zs) (h5 : M (5, A.lk.length) = rowB u zs)
    (e0 : M' (0, 0) = objP o (wldC ⟨A.s, vg, vk, A.vn, A.vw, A.lg ++ [(v, zs)], A.lk ++ [(u, zs)], A.ln, A.lw⟩) 30) (e3 : M' (3, 0) = rowP 32 1 vg (A.lg.length + 1) (A.lg.map (·.1) ++ [v])) (e4 : M' (3, 1) = rowP 32 1 vk (A.lk.length + 1) (A.lk.map (·.1) ++ [u]))
    (hr : ∀ d, d ≠ (0, 0) → d ≠ (3, 0) → d ≠ (3, 1) → M' d = M d) : Inv o ⟨A.s, vg, vk, A.vn, A.vw, A.lg ++ [(v, zs)], A.lk ++ [(u, zs)], A.ln, A.lw⟩ M' ∧ Kee M M' := by
  refine ⟨⟨e0, fun i hi => (hr _ (by simp) (by simp) (by simp)).trans (hI.seg i hi), fun i hi => (hr _ (by simp) (by simp) (by simp)).trans (hI.ref i hi), by simpa using e3, by simpa using e4, (hr _ (by simp) (by simp) (by simp)).trans hI.rn, (hr _ (by simp) (by simp) (by simp)).trans hI.rw, ?_, ?_, ?_, ?_⟩, fun j => ⟨hr _ (by simp) (by simp) (by simp), hr _ (by simp) (by simp) (by simp)⟩⟩
  · intro j x y h
    rw [hr _ (by simp) (by simp) (by simp)]
    rcases snoc_get h with h | ⟨hj, hx⟩
    · exact hI.ig j x y h
    · simp only [Prod.mk.injEq] at hx; rw [hx.1, hx.2, hj]; exact h4
  · intro j x y h
    rw [hr _ (by simp) (by simp) (by simp)]
    rcases snoc_get h with h | ⟨hj, hx⟩
    · exact hI.ik j x y h
    · simp only [Prod.mk.injEq] at hx; rw [hx.1, hx.2, hj]; exact h5
  · intro j x y h
    rw [hr _ (by simp) (by simp) (by simp)]; exact hI.iN j x y h
  · intro j x y h
    rw [hr _ (by simp) (by simp) (by simp)]; exact hI.iw j x y h
set_option maxHeartbeats 1000000 in
theorem wbytes_any (o : Nat) (A : Wd) (M : Col → Pc) (v u : Value) (zs : List Int) (W : World) (hS : Stt W M) (hI : Inv o A M) (h4 : M (4, A.lg.length) = rowB v zs) (h5 : M (5, A.lk.length) = rowB u zs) (hn : A.lg.length < 5800000000000) (hk : A.lk.length < 5800000000000) (hz : zs.length ≤ 65536) :
    Calls Tryd.prog 46 #[.pointer (some ⟨o, 0, none⟩), v, u] W fun e w' => e = .returned (.bool true) ∧ ∃ vg vk M', Hid (Stt w' M' ∧ Inv o ⟨A.s, vg, vk, A.vn, A.vw, A.lg ++ [(v, zs)], A.lk ++ [(u, zs)], A.ln, A.lw⟩ M' ∧ Kee M M') := by
  obtain ⟨j0, hj, hy0, hy1, hy2⟩ := info_parts infoLB
  have hro : Stt W M → ∃ ao ca, v = .slice ao zs.length ca := fun h => let ⟨ao, ca, e, _⟩ := own_reads (stt_row h h4); ⟨ao, ca, e⟩
  have hru : Stt W M → ∃ ao ca, u = .slice ao zs.length ca := fun h => let ⟨ao, ca, e, _⟩ := own_reads (stt_row h h5); ⟨ao, ca, e⟩
  obtain ⟨va, vc, rfl⟩ := hro hS
  obtain ⟨ua, uc, rfl⟩ := hru hS
  obtain ⟨c8, c9, -, -, hfz, hol⟩ := stt_c8 hS hI.obj
  have HS := hidS hS
  have HI := hidS hI
  have H4 := hidS h4
  have H5 := hidS h5
  have HN := hidS hn
  have HK := hidS hk
  have HZ := hidS hz
  have HJ := hidS hj
  have HY0 := hidS hy0
  have HY1 := hidS hy1
  have HY2 := hidS hy2
  have HFZ := hidS hfz
  clear hS hI h4 h5 hn hk hz hj hy0 hy1 hy2 hro hru hfz
  have HB1 : Below W.heap.size W (W.alloc (.cells #[.slice va zs.length vc] 32)) := (Below.refl _ _).alloc (Nat.le_refl _) _
  have HOW := hidS (stt_row (stt_below HS.out HB1) HI.out.rg)
  go_enter Tryd.func46, Tryd.ntmps46
  have HG1 : Hid (∀ gg cc w2, w2.ownsRow 0 32 1 (.slice (some ⟨gg, 0, none⟩) (A.lg.length + 1) cc) (A.lg.length + 1) (A.lg.map (·.1) ++ [.slice va zs.length vc]) → (W.alloc (.cells #[.slice va zs.length vc] 32)).grownBy w2 A.vg.ownBlock → (A.vg.ownBlock = some gg ∨ gg = (W.alloc (.cells #[.slice va zs.length vc] 32)).heap.size) → Stt w2 (upd M (3, 0) (rowP 32 1 (.slice (some ⟨gg, 0, none⟩) (A.lg.length + 1) cc) (A.lg.length + 1) (A.lg.map (·.1) ++ [.slice va zs.length vc])))) := fun gg cc w2 own2 hg2 hgg =>
    stt_grow HS.out HI.out.rg HB1 own2 hg2 (hgg.imp id (fun h => Nat.le_of_eq h.symm))
  have HSB : Hid (∀ (W' : World) (M' : Col → Pc), Stt W' M' → M' (4, A.lg.length) = rowB (.slice va zs.length vc) zs → M' (5, A.lk.length) = rowB (.slice ua zs.length uc) zs → Calls Tryd.prog 19 #[.slice va zs.length vc, .slice ua zs.length uc] W' fun e w' => e = .returned (.bool true) ∧ Hid (Stt w' M')) := fun W' M' h e4 e5 => by
    obtain ⟨a1, c1, q1, r1⟩ := own_reads (stt_row h e4)
    obtain ⟨a2, c2, q2, r2⟩ := own_reads (stt_row h e5)
    simp only [Value.slice.injEq, true_and] at q1 q2
    obtain ⟨rfl, rfl⟩ := q1
    obtain ⟨rfl, rfl⟩ := q2
    exact (same_any _ _ _ _ zs zs W' (by have := HZ.out; omega) r1 r2).mono fun e w' ⟨he, m, hw⟩ => ⟨by simpa using he, by rw [hw]; exact stt_drewN m h⟩
  go_wp2_with (first
    | (at_builtin; refine wpList_append_lies _ rfl _ _ 27 rfl 0 32 j0 (.slice none 0 0) 1 24 Tryd.underlying27 HJ.out HY0.out HY1.out HY2.out rfl (by decide) A.vg A.lg.length (A.lg.map (·.1)) rfl HOW.out ⟨_, 0, none⟩ 1 1 [.slice va zs.length vc] rfl rfl one_newsv (by intro u hu; simp at hu; subst hu; rfl) (by decide) (by have := HN.out; unfold maxLen; omega) (by have := HN.out; omega) (Nat.zero_le _) _ rfl ?_; intro gg cc w2 own2 hg2 hgg hlt2; have hs2 := HG1.out gg cc w2 own2 hg2 hgg; clear own2 hg2 hgg hlt2; obtain ⟨d8, d9, -, -, hfz2, hol2⟩ := stt_c8 hs2 ((upd_ne (by simp)).trans HI.out.obj); have f8 := hfz2 8; have f9 := hfz2 9; have HS3 := hidS (stt_set (i := 8) hs2 ((upd_ne (by simp)).trans HI.out.obj) (.slice (some ⟨gg, 0, none⟩) (A.lg.length + 1) cc) (cs' := wldC ⟨A.s, (.slice (some ⟨gg, 0, none⟩) (A.lg.length + 1) cc), A.vk, A.vn, A.vw, A.lg, A.lk, A.ln, A.lw⟩) rfl); clear hs2 hfz2 c8 c9)
    | (at_builtin; refine wpList_append_lies _ rfl _ _ 27 rfl 0 32 j0 (.slice none 0 0) 1 24 Tryd.underlying27 HJ.out HY0.out HY1.out HY2.out rfl (by decide) A.vk A.lk.length (A.lk.map (·.1)) rfl (stt_row (stt_below HS3.out ((Below.refl _ _).alloc (Nat.le_refl _) _)) ((upd_ne (by simp)).trans ((upd_ne (by simp)).trans HI.out.rk))) ⟨_, 0, none⟩ 1 1 [.slice ua zs.length uc] rfl rfl (one_newsv2 (by simp)) (by intro u hu; simp at hu; subst hu; rfl) (by decide) (by have := HK.out; unfold maxLen; omega) (by have := HK.out; omega) (Nat.zero_le _) _ rfl ?_; intro gg2 cc2 w4 own4 hg4 hgg4 hlt4; have hs4 := stt_grow HS3.out ((upd_ne (by simp)).trans ((upd_ne (by simp)).trans HI.out.rk)) ((Below.refl _ _).alloc (Nat.le_refl _) _) own4 hg4 (hgg4.imp id (fun h => Nat.le_of_eq h.symm)); clear own4 hg4 hgg4 hlt4 d8 d9 f8 f9; obtain ⟨-, d9, -, -, hfz4, -⟩ := stt_c8 (A := ⟨A.s, (.slice (some ⟨gg, 0, none⟩) (A.lg.length + 1) cc), A.vk, A.vn, A.vw, A.lg, A.lk, A.ln, A.lw⟩) hs4 ((upd_ne (by simp)).trans (upd_eq _ _ _)); have f9 := hfz4 9; have HS5 := hidS (stt_set (i := 9) hs4 ((upd_ne (by simp)).trans (upd_eq _ _ _)) (.slice (some ⟨gg2, 0, none⟩) (A.lk.length + 1) cc2) (cs' := wldC ⟨A.s, (.slice (some ⟨gg, 0, none⟩) (A.lg.length + 1) cc), (.slice (some ⟨gg2, 0, none⟩) (A.lk.length + 1) cc2), A.vn, A.vw, A.lg ++ [(.slice va zs.length vc, zs)], A.lk ++ [(.slice ua zs.length uc, zs)], A.ln, A.lw⟩) rfl); clear hs4 hfz4)
    | (go_at_call 19; with_reducible refine (HSB.out _ _ (Hid.out HS5) (by simp [upd, H4.out]) (by simp [upd, H5.out])).mono ?_; rintro e w6 ⟨rfl, HQ6⟩)
    | fail)
  go_ret
  refine ⟨rfl, .slice (some ⟨gg, 0, none⟩) (A.lg.length + 1) cc, .slice (some ⟨gg2, 0, none⟩) (A.lk.length + 1) cc2, _, HQ6.out, ?_⟩
  exact inv_bytes HI.out H4.out H5.out (upd_eq _ _ _) (by simp [upd]) (by simp [upd]) (fun d d1 d2 d3 => by simp [upd, d1, d2, d3])
end Go.Proofs.YtnjglagfpghbjaaDoor
namespace Go.Proofs.YtnjglagfpghbjaaDoor
open Go.RowKit Go.WideShapes
set_option maxRecDepth 100000

/-- a call on one thing; where the other things lie is told -/
theorem stt_callx {P : Program} {f : Nat} {args : Array Value} {W : World} {M : Col → Pc} {c : Col} {Q : Ending → Prop} {p p' : Pc} (hM : M c = p) (hS : Stt W M)
    (hc : ∀ F : Nat → Prop, p.h F W → (∀ k, W.heap.size ≤ k → F k) → (∀ d, d ≠ c → ∃ G, (M d).h G W ∧ ∀ k, k < W.heap.size → G k → ¬ F k) → Calls P f args W fun e w' => Q e ∧ p'.h F w' ∧ Kp F W w') : Calls P f args W fun e w' => Q e ∧ Hid (Stt w' (upd M c p')) := by
  obtain ⟨col, h⟩ := hS
  refine (hc (fun k => k < W.heap.size → col k = c) ?_ (fun k hk hl => by omega) (fun d hd => ⟨_, h d, fun k hl hG hF => hd (hG.symm.trans (hF hl))⟩)).mono fun e w' ⟨he, hp, hk⟩ => ⟨he, stt_one h hp hk⟩
  exact p.fr _ _ (fun _ => False) _ _ (hM ▸ h c) (Kp.refl _ _) (fun k _ hF => ⟨id, fun _ => hF⟩)
def setS (A : Wd) (i : Nat) (S : Option Sl) : Wd := ⟨fun j => if j = i then S else A.s j, A.vg, A.vk, A.vn, A.vw, A.lg, A.lk, A.ln, A.lw⟩
theorem setS_wld {A : Wd} {i : Nat} {S : Option Sl} (h1 : haveV S = haveV (A.s i)) (h2 : wantV S = wantV (A.s i)) : wldC (setS A i S) = wldC A := by
  have e1 : ∀ j, haveV ((setS A i S).s j) = haveV (A.s j) := fun j => by
    by_cases h : j = i
    · subst h; simp [setS, h1]
    · simp [setS, h]
  have e2 : ∀ j, wantV ((setS A i S).s j) = wantV (A.s j) := fun j => by
    by_cases h : j = i
    · subst h; simp [setS, h2]
    · simp [setS, h]
  unfold wldC
  rw [e1, e1, e1, e1, e2, e2, e2, e2]
  rfl
theorem inv_slot {o : Nat} {A : Wd} {M M' : Col → Pc} {i : Nat} {S : Option Sl} (hI : Inv o A M) (h1 : haveV S = haveV (A.s i)) (h2 : wantV S = wantV (A.s i)) (e1 : M' (1, i) = segO S) (e2 : M' (2, i) = refO S) (hr : ∀ d, d ≠ (1, i) → d ≠ (2, i) → M' d = M d) : Inv o (setS A i S) M' ∧ Kee M M' := by
  refine ⟨⟨?_, fun j hj => ?_, fun j hj => ?_, (hr _ (by simp) (by simp)).trans hI.rg, (hr _ (by simp) (by simp)).trans hI.rk, (hr _ (by simp) (by simp)).trans hI.rn, (hr _ (by simp) (by simp)).trans hI.rw, fun j v zs h => (hr _ (by simp) (by simp)).trans (hI.ig j v zs h), fun j v zs h => (hr _ (by simp) (by simp)).trans (hI.ik j v zs h), fun j v zs h => (hr _ (by simp) (by simp)).trans (hI.iN j v zs h), fun j v zs h => (hr _ (by simp) (by simp)).trans (hI.iw j v zs h)⟩, fun j => ⟨hr _ (by simp) (by simp), hr _ (by simp) (by simp)⟩⟩
  · rw [hr _ (by simp) (by simp), hI.obj, setS_wld h1 h2]
  · by_cases h : j = i
    · subst h; simp [setS, e1]
    · simp only [setS, h, if_false]; exact (hr _ (by simp [h]) (by simp)).trans (hI.seg j hj)
  · by_cases h : j = i
    · subst h; simp [setS, e2]
    · simp only [setS, h, if_false]; exact (hr _ (by simp) (by simp [h])).trans (hI.ref j hj)
/-- how long the lists of what was answered are, and that they say the same -/
structure WfA (A : Wd) (n : Nat) : Prop where
  eb : A.lg.map (·.2) = A.lk.map (·.2)
  et : A.ln.map (·.2) = A.lw.map (·.2)
  bb : ∀ x ∈ A.lg, x.2.length ≤ 65536
  bt : ∀ x ∈ A.ln, x.2.length ≤ 65536
  nb : A.lg.length ≤ n
  nt : A.ln.length ≤ n
theorem WfA.kb {A : Wd} {n : Nat} (h : WfA A n) : A.lk.length = A.lg.length := by have := congrArg List.length h.eb; simpa using this.symm
theorem WfA.kt {A : Wd} {n : Nat} (h : WfA A n) : A.lw.length = A.ln.length := by have := congrArg List.length h.et; simpa using this.symm
theorem WfA.up {A : Wd} {n m : Nat} (h : WfA A n) (hm : n ≤ m) : WfA A m := ⟨h.eb, h.et, h.bb, h.bt, Nat.le_trans h.nb hm, Nat.le_trans h.nt hm⟩
theorem WfA.slot {A : Wd} {n : Nat} (h : WfA A n) (i : Nat) (S : Option Sl) : WfA (setS A i S) n := ⟨h.eb, h.et, h.bb, h.bt, h.nb, h.nt⟩
theorem WfA.bytes {A : Wd} {n : Nat} (h : WfA A n) (vg vk v u : Value) (zs : List Int) (hz : zs.length ≤ 65536) : WfA ⟨A.s, vg, vk, A.vn, A.vw, A.lg ++ [(v, zs)], A.lk ++ [(u, zs)], A.ln, A.lw⟩ (n + 1) :=
  ⟨by simp [h.eb], h.et, fun x hx => by
    rcases List.mem_append.1 hx with hx | hx
    · exact h.bb x hx
    · simp at hx; rw [hx]; exact hz, h.bt, by have := h.nb; simp; omega, by have := h.nt; simp only; omega⟩
theorem WfA.notes {A : Wd} {n : Nat} (h : WfA A n) (vn vw v u : Value) (ts : List (Int × Bool)) (hz : ts.length ≤ 65536) : WfA ⟨A.s, A.vg, A.vk, vn, vw, A.lg, A.lk, A.ln ++ [(v, ts)], A.lw ++ [(u, ts)]⟩ (n + 1) :=
  ⟨h.eb, by simp [h.et], h.bb, fun x hx => by
    rcases List.mem_append.1 hx with hx | hx
    · exact h.bt x hx
    · simp at hx; rw [hx]; exact hz, by have := h.nb; simp only; omega, by have := h.nt; simp; omega⟩
theorem mapS_have (f : Sg → Sg) (S : Option Sl) : haveV (mapS f S) = haveV S ∧ wantV (mapS f S) = wantV S := by cases S <;> exact ⟨rfl, rfl⟩
theorem cpS_have (a b n : Nat) (S : Option Sl) : haveV (cpS a b n S) = haveV S ∧ wantV (cpS a b n S) = wantV S := by unfold cpS; split <;> first | exact mapS_have _ _ | exact ⟨rfl, rfl⟩
theorem rdS_have (x : Nat) (N : Int) (S : Option Sl) : haveV (rdS x N S) = haveV S ∧ wantV (rdS x N S) = wantV S := by unfold rdS; split <;> first | exact mapS_have _ _ | exact ⟨rfl, rfl⟩
theorem wrS_have (x : Nat) (zs : List Int) (S : Option Sl) : haveV (wrS x zs S) = haveV S ∧ wantV (wrS x zs S) = wantV S := by unfold wrS; split <;> first | exact mapS_have _ _ | exact ⟨rfl, rfl⟩
theorem rdD_len (x : Nat) (N : Int) (S : Option Sl) : (rdD x N S).length ≤ 65536 := by
  cases S with
  | none => exact Nat.zero_le _
  | some s =>
    simp only [rdD]
    split
    · rw [rdL_len]; omega
    · exact Nat.zero_le _
theorem btD_len {F : Nat → Prop} {W : World} {S : Option Sl} (h : (segO S).h F W) : (btD S).length ≤ 65536 := by
  cases S with
  | none => exact Nat.zero_le _
  | some s => obtain ⟨_, _, _, h1, _⟩ := h; exact h1.pw.bd.2
theorem tcD_len {F : Nat → Prop} {W : World} {S : Option Sl} (h : (segO S).h F W) : (tcD S).length ≤ 65536 := by
  cases S with
  | none => exact Nat.zero_le _
  | some s => obtain ⟨_, _, _, h1, _⟩ := h; exact h1.tl
/-- what a method leaves behind -/
def Aft (o : Nat) (M : Col → Pc) (n : Nat) (w' : World) : Prop := ∃ A' M', Stt w' M' ∧ Inv o A' M' ∧ Kee M M' ∧ WfA A' n
theorem kee_obj {M : Col → Pc} {j : Nat} {p : Pc} (h8 : M (8, j) = noP) {M' : Col → Pc} (hk : Kee (upd M (8, j) p) M') : Kee M (upd M' (8, j) noP) := fun k => by
  by_cases h : k = j
  · subst h; exact ⟨by rw [upd_eq, h8], (upd_ne (by simp)).trans ((hk k).2.trans (upd_ne (by simp)))⟩
  · exact ⟨(upd_ne (by simp [h])).trans ((hk k).1.trans (upd_ne (by simp [h]))), (upd_ne (by simp)).trans ((hk k).2.trans (upd_ne (by simp)))⟩
theorem inv_far {o : Nat} {A : Wd} {M : Col → Pc} {j : Nat} {p : Pc} (hI : Inv o A M) : Inv o A (upd M (8, j) p) :=
  ⟨(upd_ne (by simp)).trans hI.obj, fun i hi => (upd_ne (by simp)).trans (hI.seg i hi), fun i hi => (upd_ne (by simp)).trans (hI.ref i hi), (upd_ne (by simp)).trans hI.rg, (upd_ne (by simp)).trans hI.rk, (upd_ne (by simp)).trans hI.rn, (upd_ne (by simp)).trans hI.rw, fun i v zs h => (upd_ne (by simp)).trans (hI.ig i v zs h), fun i v zs h => (upd_ne (by simp)).trans (hI.ik i v zs h), fun i v zs h => (upd_ne (by simp)).trans (hI.iN i v zs h), fun i v zs h => (upd_ne (by simp)).trans (hI.iw i v zs h)⟩
theorem inv_row {o : Nat} {A : Wd} {M M' : Col → Pc} (hI : Inv o A M) (hr : ∀ d, d ≠ (4, A.lg.length) → d ≠ (5, A.lk.length) → M' d = M d) : Inv o A M' := by
  have hk : ∀ (j : Nat) v zs, A.lg[j]? = some (v, zs) → j ≠ A.lg.length := fun j v zs h e => by rw [e, List.getElem?_eq_none (Nat.le_refl _)] at h; cases h
  have hk2 : ∀ (j : Nat) v zs, A.lk[j]? = some (v, zs) → j ≠ A.lk.length := fun j v zs h e => by rw [e, List.getElem?_eq_none (Nat.le_refl _)] at h; cases h
  exact ⟨(hr _ (by simp) (by simp)).trans hI.obj, fun i hi => (hr _ (by simp) (by simp)).trans (hI.seg i hi), fun i hi => (hr _ (by simp) (by simp)).trans (hI.ref i hi), (hr _ (by simp) (by simp)).trans hI.rg, (hr _ (by simp) (by simp)).trans hI.rk, (hr _ (by simp) (by simp)).trans hI.rn, (hr _ (by simp) (by simp)).trans hI.rw, fun i v zs h => (hr _ (by simp [hk i v zs h]) (by simp)).trans (hI.ig i v zs h), fun i v zs h => (hr _ (by simp) (by simp [hk2 i v zs h])).trans (hI.ik i v zs h), fun i v zs h => (hr _ (by simp) (by simp)).trans (hI.iN i v zs h), fun i v zs h => (hr _ (by simp) (by simp)).trans (hI.iw i v zs h)⟩
/-- a local of a method is given up -/
theorem Aft.leave {o : Nat} {M : Col → Pc} {j n : Nat} {p : Pc} {w' : World} (h8 : M (8, j) = noP) (h : Aft o (upd M (8, j) p) n w') : Aft o M n w' := by
  obtain ⟨A', M', q1, q2, q3, q4⟩ := h
  exact ⟨A', upd M' (8, j) noP, stt_forget (8, j) q1 (upd_eq _ _ _) (fun d hd => upd_ne hd), inv_far q2, kee_obj h8 q3, q4⟩
/-- the slots' pointers are as they were -/
def Ptr (A A' : Wd) : Prop := ∀ k, haveV (A'.s k) = haveV (A.s k) ∧ wantV (A'.s k) = wantV (A.s k)
theorem ptr_set {A : Wd} {i : Nat} {S : Option Sl} (h : haveV S = haveV (A.s i) ∧ wantV S = wantV (A.s i)) (k : Nat) : haveV ((setS A i S).s k) = haveV (A.s k) ∧ wantV ((setS A i S).s k) = wantV (A.s k) := by
  by_cases e : k = i
  · subst e; simp only [setS, if_true]; exact h
  · simp only [setS, e, if_false]; exact ⟨trivial, trivial⟩
def AftP (o : Nat) (A : Wd) (M : Col → Pc) (n : Nat) (w' : World) : Prop := ∃ A' M', Stt w' M' ∧ Inv o A' M' ∧ Kee M M' ∧ WfA A' n ∧ Ptr A A'
theorem AftP.leave {o : Nat} {A : Wd} {M : Col → Pc} {j n : Nat} {p : Pc} {w' : World} (h8 : M (8, j) = noP) (h : AftP o A (upd M (8, j) p) n w') : AftP o A M n w' := by
  obtain ⟨A', M', q1, q2, q3, q4, q5⟩ := h
  exact ⟨A', upd M' (8, j) noP, stt_forget (8, j) q1 (upd_eq _ _ _) (fun d hd => upd_ne hd), inv_far q2, kee_obj h8 q3, q4, q5⟩
end Go.Proofs.YtnjglagfpghbjaaDoor
namespace Go.Proofs.YtnjglagfpghbjaaDoor
open Go.RowKit Go.WideShapes
set_option maxRecDepth 100000

set_option maxHeartbeats 1000000 in
theorem windows8 (o n : Nat) (A : Wd) (M : Col → Pc) (i : Nat) (hi : i < 4) (s : Stp) (W : World) (hS0 : Stt W M) (hI0 : Inv o A M) (hA : WfA A n) (hn : n < 5800000000000) (h8 : M (8, 4) = noP) (hs : StpOk s) (hd : s.d = 8) :
    Calls Tryd.prog 17 #[.pointer (some ⟨o, 0, none⟩), .agg (stpC s), haveV (A.s i), wantV (A.s i)] W fun e w' => e = .returned (.bool true) ∧ Hid (AftP o A M (n + 1) w') := by
  have hS1 := stt_stp (8, 4) s hS0
  have hI1 := inv_far (j := 4) (p := objP W.heap.size (stpC s) 34) hI0
  have HLV := hidS (fun w' => AftP.leave (o := o) (A := A) (j := 4) (n := n + 1) (p := objP W.heap.size (stpC s) 34) (w' := w') h8)
  have hM8 : upd M (8, 4) (objP W.heap.size (stpC s) 34) (8, 4) = objP W.heap.size (stpC s) 34 := upd_eq _ _ _
  have hdI : (s.d : Int) = 8 := by omega
  have hM9 : ∀ j, upd M (8, 4) (objP W.heap.size (stpC s) 34) (9, j) = M (9, j) := fun j => upd_ne (by simp)
  have hM7 : ∀ j, j ≠ 4 → upd M (8, 4) (objP W.heap.size (stpC s) 34) (8, j) = M (8, j) := fun j hj => upd_ne (by simp [hj])
  generalize upd M (8, 4) (objP W.heap.size (stpC s) 34) = M1 at *
  have _u := And.intro hn (And.intro hs hi)
  clear _u
  obtain ⟨N, hN⟩ : ∃ N : Nat, IntKind.u32.wrap s.n = (N : Int) := ⟨(IntKind.u32.wrap s.n).toNat, by rw [IntKind.wrap_u32]; omega⟩
  have hN2 : s.n % 4294967296 = (N : Int) := by rw [← IntKind.wrap_u32]; exact hN
  have HC1 := hidS (fun W' h => stt_c (W := W') (M := upd M1 (1, i) (segO (cpS s.at_ s.v N (A.s i)))) (c := (8, 4)) h ((upd_ne (by simp)).trans hM8))
  have HC2 := hidS (fun W' h => stt_c (W := W') (M := upd (upd M1 (1, i) (segO (cpS s.at_ s.v N (A.s i)))) (2, i) (refO (cpS s.at_ s.v N (A.s i)))) (c := (8, 4)) h ((upd_ne (by simp)).trans ((upd_ne (by simp)).trans hM8)))
  have HL := hidS (fun W' h => stt_call (W := W') (M := M1) (c := (1, i)) (hI1.seg i hi) h (fun F h hB => cp_h (A.s i) s.at_ s.v N F W' h hB hs.at_ hs.v))
  have HR := hidS (fun W' h => stt_call (W := W') (M := upd M1 (1, i) (segO (cpS s.at_ s.v N (A.s i)))) (c := (2, i)) ((upd_ne (by simp)).trans (hI1.ref i hi)) h (fun F h hB => cp_w (A.s i) s.at_ s.v N F W' h hB hs.at_ hs.v))
  have HF : Hid (∀ W', Stt W' (upd (upd M1 (1, i) (segO (cpS s.at_ s.v N (A.s i)))) (2, i) (refO (cpS s.at_ s.v N (A.s i)))) → AftP o A M (n + 1) W') := fun W' h => by
    obtain ⟨q1, q2⟩ := inv_slot (i := i) (S := cpS s.at_ s.v N (A.s i)) (M' := upd (upd M1 (1, i) (segO (cpS s.at_ s.v N (A.s i)))) (2, i) (refO (cpS s.at_ s.v N (A.s i)))) hI1 (cpS_have _ _ _ _).1 (cpS_have _ _ _ _).2 (by simp [upd]) (by simp [upd]) (fun d h1 h2 => by simp [upd, h1, h2])
    exact HLV.out _ ⟨_, _, h, q1, q2, (hA.slot _ _).up (by omega), ptr_set (cpS_have _ _ _ _)⟩
  obtain ⟨c0, c3, c4, c5, c6, c7⟩ := stt_c hS1 hM8
  have HS1 := hidS hS1
  clear hS1 hs hd hS0 h8 hI0 hI1 hA hM8 hM9 hM7
  go_enter Tryd.func17, Tryd.ntmps17
  go_wp2_with fail
  go_region_held3 (fun w' => w'.cell? ⟨W.heap.size, 3, none⟩ = some (.int .u32 s.at_) ∧ w'.cell? ⟨W.heap.size, 4, none⟩ = some (.int .u32 s.v) ∧ w'.cell? ⟨W.heap.size, 5, none⟩ = some (.int .i64 s.n)) ((first | exact ⟨c3, c4, c5⟩ | exact ⟨(HC2.out _ HQ2.out).2.1, (HC2.out _ HQ2.out).2.2.1, (HC2.out _ HQ2.out).2.2.2.1⟩ | exact ⟨(HC1.out _ HQ1.out).2.1, (HC1.out _ HQ1.out).2.2.1, (HC1.out _ HQ1.out).2.2.2.1⟩)) (first
    | (go_at_call 42; with_reducible refine (HL.out _ (by (repeat (first | exact HS1.out | with_reducible refine stt_drew ?_)))).mono ?_; rintro e w1 ⟨rfl, HQ1⟩)
    | (go_at_call 43; with_reducible refine (HR.out _ (by (repeat (first | exact HQ1.out | with_reducible refine stt_drew ?_)))).mono ?_; rintro e w2 ⟨rfl, HQ2⟩)
    | fail)
  go_wp2_with fail
  go_ret
  exact ⟨rfl, HF.out _ HQ2.out⟩
set_option maxHeartbeats 1000000 in
theorem windows9 (o n : Nat) (A : Wd) (M : Col → Pc) (i : Nat) (hi : i < 4) (s : Stp) (W : World) (hS0 : Stt W M) (hI0 : Inv o A M) (hA : WfA A n) (hn : n < 5800000000000) (h8 : M (8, 4) = noP) (hs : StpOk s) (hd : s.d = 9) :
    Calls Tryd.prog 17 #[.pointer (some ⟨o, 0, none⟩), .agg (stpC s), haveV (A.s i), wantV (A.s i)] W fun e w' => e = .returned (.bool true) ∧ Hid (AftP o A M (n + 1) w') := by
  have hS1 := stt_stp (8, 4) s hS0
  have hI1 := inv_far (j := 4) (p := objP W.heap.size (stpC s) 34) hI0
  have HLV := hidS (fun w' => AftP.leave (o := o) (A := A) (j := 4) (n := n + 1) (p := objP W.heap.size (stpC s) 34) (w' := w') h8)
  have hM8 : upd M (8, 4) (objP W.heap.size (stpC s) 34) (8, 4) = objP W.heap.size (stpC s) 34 := upd_eq _ _ _
  have hdI : (s.d : Int) = 9 := by omega
  have hM9 : ∀ j, upd M (8, 4) (objP W.heap.size (stpC s) 34) (9, j) = M (9, j) := fun j => upd_ne (by simp)
  have hM7 : ∀ j, j ≠ 4 → upd M (8, 4) (objP W.heap.size (stpC s) 34) (8, j) = M (8, j) := fun j hj => upd_ne (by simp [hj])
  generalize upd M (8, 4) (objP W.heap.size (stpC s) 34) = M1 at *
  have _u := And.intro hn (And.intro hs hi)
  clear _u
  have HC1 := hidS (fun W' v h => stt_c (W := W') (M := upd (upd M1 (1, i) (segO (rdS s.at_ s.n (A.s i)))) (4, A.lg.length) (rowB v (rdD s.at_ s.n (A.s i)))) (c := (8, 4)) h ((upd_ne (by simp)).trans ((upd_ne (by simp)).trans hM8)))
  have HL := hidS (fun W' h => stt_call2 (W := W') (M := M1) (c := (1, i)) (c2 := (4, A.lg.length)) (hI1.seg i hi) h (by simp) (fun F h hB => rd_h (A.s i) s.at_ s.n F W' h hB hs.at_))
  have HR := hidS (fun v W' h => stt_call2 (W := W') (M := upd (upd M1 (1, i) (segO (rdS s.at_ s.n (A.s i)))) (4, A.lg.length) (rowB v (rdD s.at_ s.n (A.s i)))) (c := (2, i)) (c2 := (5, A.lk.length)) ((upd_ne (by simp)).trans ((upd_ne (by simp)).trans (hI1.ref i hi))) h (by simp) (fun F h hB => rd_w (A.s i) s.at_ s.n F W' h hB hs.at_))
  have HB : Hid (∀ v u W', Stt W' (upd (upd (upd (upd M1 (1, i) (segO (rdS s.at_ s.n (A.s i)))) (4, A.lg.length) (rowB v (rdD s.at_ s.n (A.s i)))) (2, i) (refO (rdS s.at_ s.n (A.s i)))) (5, A.lk.length) (rowB u (rdD s.at_ s.n (A.s i)))) → Calls Tryd.prog 46 #[.pointer (some ⟨o, 0, none⟩), v, u] W' fun e w' => e = .returned (.bool true) ∧ Hid (AftP o A M (n + 1) w')) := fun v u W' h => by
    obtain ⟨q1, q2⟩ := inv_slot (i := i) (S := rdS s.at_ s.n (A.s i)) (M' := upd (upd M1 (1, i) (segO (rdS s.at_ s.n (A.s i)))) (2, i) (refO (rdS s.at_ s.n (A.s i)))) hI1 (rdS_have _ _ _).1 (rdS_have _ _ _).2 (by simp [upd]) (by simp [upd]) (fun d h1 h2 => by simp [upd, h1, h2])
    have q3 : Inv o (setS A i (rdS s.at_ s.n (A.s i))) (upd (upd (upd (upd M1 (1, i) (segO (rdS s.at_ s.n (A.s i)))) (4, A.lg.length) (rowB v (rdD s.at_ s.n (A.s i)))) (2, i) (refO (rdS s.at_ s.n (A.s i)))) (5, A.lk.length) (rowB u (rdD s.at_ s.n (A.s i)))) := inv_row q1 (fun d h1 h2 => by
      simp only [setS] at h1 h2
      simp only [upd, h1, h2, if_false])
    have hl := hA.nb
    have hlk := hA.kb
    refine (wbytes_any o _ _ v u (rdD s.at_ s.n (A.s i)) W' h q3 (by simp [setS, upd]) (by simp [setS, upd]) (by simp only [setS]; omega) (by simp only [setS]; omega) (rdD_len _ _ _)).mono fun e w' ⟨he, vg, vk, M', hq⟩ => ⟨he, ?_⟩
    refine HLV.out _ ⟨_, M', hq.out.1, hq.out.2.1, fun j => ⟨(hq.out.2.2 j).1.trans ?_, (hq.out.2.2 j).2.trans ?_⟩, (hA.slot i _).bytes _ _ _ _ _ (rdD_len _ _ _), ptr_set (rdS_have _ _ _)⟩
    · simp [upd]
    · simp [upd]
  obtain ⟨c0, c3, -, c5, -, -⟩ := stt_c hS1 hM8
  have HS1 := hidS hS1
  clear hS1 hs hd hS0 h8 hI0 hI1 hA hM8 hM9 hM7
  go_enter Tryd.func17, Tryd.ntmps17
  go_wp2_with (first
    | (go_at_call 44; with_reducible refine (HL.out _ HS1.out).mono ?_; rintro e w1 ⟨v1, rfl, HQ1⟩; obtain ⟨-, d3, -, d5, -, -⟩ := HC1.out _ _ HQ1.out)
    | (go_at_call 45; with_reducible refine (HR.out _ _ HQ1.out).mono ?_; rintro e w2 ⟨v2, rfl, HQ2⟩)
    | (go_at_call 46; with_reducible refine (HB.out _ _ _ HQ2.out).mono ?_; rintro e w3 ⟨rfl, HQ3⟩)
    | fail)
  go_ret
  exact ⟨rfl, HQ3⟩
set_option maxHeartbeats 1000000 in
theorem windows11 (o n : Nat) (A : Wd) (M : Col → Pc) (i : Nat) (hi : i < 4) (s : Stp) (W : World) (hS0 : Stt W M) (hI0 : Inv o A M) (hA : WfA A n) (hn : n < 5800000000000) (h8 : M (8, 4) = noP) (hs : StpOk s) (hd : s.d = 11) :
    Calls Tryd.prog 17 #[.pointer (some ⟨o, 0, none⟩), .agg (stpC s), haveV (A.s i), wantV (A.s i)] W fun e w' => e = .returned (.bool true) ∧ Hid (AftP o A M (n + 1) w') := by
  have hS1 := stt_stp (8, 4) s hS0
  have hI1 := inv_far (j := 4) (p := objP W.heap.size (stpC s) 34) hI0
  have HLV := hidS (fun w' => AftP.leave (o := o) (A := A) (j := 4) (n := n + 1) (p := objP W.heap.size (stpC s) 34) (w' := w') h8)
  have hM8 : upd M (8, 4) (objP W.heap.size (stpC s) 34) (8, 4) = objP W.heap.size (stpC s) 34 := upd_eq _ _ _
  have hdI : (s.d : Int) = 11 := by omega
  have hM9 : ∀ j, upd M (8, 4) (objP W.heap.size (stpC s) 34) (9, j) = M (9, j) := fun j => upd_ne (by simp)
  have hM7 : ∀ j, j ≠ 4 → upd M (8, 4) (objP W.heap.size (stpC s) 34) (8, j) = M (8, j) := fun j hj => upd_ne (by simp [hj])
  generalize upd M (8, 4) (objP W.heap.size (stpC s) 34) = M1 at *
  have _u := And.intro hn (And.intro hs hi)
  clear _u
  have HL : Hid (∀ W', Stt W' M1 → Calls Tryd.prog 20 #[haveV (A.s i)] W' fun e w' => ∃ v, e = .returned v ∧ Hid (Stt w' (upd M1 (4, A.lg.length) (rowB v (btD (A.s i)))))) := fun W' h => by
    obtain ⟨F, hF⟩ := stt_get h (hI1.seg i hi)
    exact (bt_h (A.s i) F W' hF).mono fun e w' ⟨v, he, hr, hb⟩ => ⟨v, he, stt_new h hb hr⟩
  have HR : Hid (∀ v W', Stt W' (upd M1 (4, A.lg.length) (rowB v (btD (A.s i)))) → Calls Tryd.prog 21 #[wantV (A.s i)] W' fun e w' => ∃ u, e = .returned u ∧ Hid (Stt w' (upd (upd M1 (4, A.lg.length) (rowB v (btD (A.s i)))) (5, A.lk.length) (rowB u (btD (A.s i)))))) := fun v W' h => by
    obtain ⟨F, hF⟩ := stt_get h ((upd_ne (by simp)).trans (hI1.ref i hi))
    exact (bt_w (A.s i) F W' hF).mono fun e w' ⟨v, he, hr, hb⟩ => ⟨v, he, stt_new h hb hr⟩
  have hbl : (btD (A.s i)).length ≤ 65536 := let ⟨_, hF⟩ := stt_get hS1 (hI1.seg i hi); btD_len hF
  have HB : Hid (∀ v u W', Stt W' (upd (upd M1 (4, A.lg.length) (rowB v (btD (A.s i)))) (5, A.lk.length) (rowB u (btD (A.s i)))) → Calls Tryd.prog 46 #[.pointer (some ⟨o, 0, none⟩), v, u] W' fun e w' => e = .returned (.bool true) ∧ Hid (AftP o A M (n + 1) w')) := fun v u W' h => by
    have q3 : Inv o A (upd (upd M1 (4, A.lg.length) (rowB v (btD (A.s i)))) (5, A.lk.length) (rowB u (btD (A.s i)))) := inv_row hI1 (fun d h1 h2 => by simp only [upd, h1, h2, if_false])
    have hl := hA.nb
    have hlk := hA.kb
    refine (wbytes_any o _ _ v u (btD (A.s i)) W' h q3 (by simp [upd]) (by simp [upd]) (by omega) (by omega) hbl).mono fun e w' ⟨he, vg, vk, M', hq⟩ => ⟨he, ?_⟩
    refine HLV.out _ ⟨_, M', hq.out.1, hq.out.2.1, fun j => ⟨(hq.out.2.2 j).1.trans ?_, (hq.out.2.2 j).2.trans ?_⟩, hA.bytes _ _ _ _ _ hbl, fun _ => ⟨rfl, rfl⟩⟩
    · simp [upd]
    · simp [upd]
  clear hbl
  obtain ⟨c0, -, -, -, -, -⟩ := stt_c hS1 hM8
  have HS1 := hidS hS1
  clear hS1 hs hd hS0 h8 hI0 hI1 hA hM8 hM9 hM7
  go_enter Tryd.func17, Tryd.ntmps17
  go_wp2_with (first
    | (go_at_call 20; with_reducible refine (HL.out _ HS1.out).mono ?_; rintro e w1 ⟨v1, rfl, HQ1⟩)
    | (go_at_call 21; with_reducible refine (HR.out _ _ HQ1.out).mono ?_; rintro e w2 ⟨v2, rfl, HQ2⟩)
    | (go_at_call 46; with_reducible refine (HB.out _ _ _ HQ2.out).mono ?_; rintro e w3 ⟨rfl, HQ3⟩)
    | fail)
  go_ret
  exact ⟨rfl, HQ3⟩
set_option maxHeartbeats 1000000 in
theorem windows_no (o n : Nat) (A : Wd) (M : Col → Pc) (m r : Value) (s : Stp) (W : World) (hS : Stt W M) (hI : Inv o A M) (hA : WfA A n) (h8 : M (8, 4) = noP) (hd : s.d < 8 ∨ 11 < s.d) :
    Calls Tryd.prog 17 #[.pointer (some ⟨o, 0, none⟩), .agg (stpC s), m, r] W fun e w' => e = .returned (.bool true) ∧ Hid (AftP o A M (n + 1) w') := by
  have hS0 := stt_stp (8, 4) s hS
  obtain ⟨c0, -, -, -, -, -⟩ := stt_c hS0 (upd_eq _ _ _)
  have HF : Hid (AftP o A M (n + 1) (W.alloc (.cells (stpC s) 34))) := ⟨A, M, stt_forget (M' := M) (8, 4) hS0 h8 (fun d hd => by simp [upd, hd]), hI, Kee.refl _, hA.up (by omega), fun _ => ⟨rfl, rfl⟩⟩
  have d8 : ¬ (s.d : Int) = 8 := by omega
  have d9 : ¬ (s.d : Int) = 9 := by omega
  have d10 : ¬ (s.d : Int) = 10 := by omega
  have d11 : ¬ (s.d : Int) = 11 := by omega
  clear hS hS0 h8 hd hI hA
  go_enter Tryd.func17, Tryd.ntmps17
  go_wp2_with fail
  go_ret
  exact ⟨rfl, HF⟩
end Go.Proofs.YtnjglagfpghbjaaDoor
namespace Go.Proofs.YtnjglagfpghbjaaDoor
open Go.RowKit Go.WideShapes
set_option maxRecDepth 100000

set_option maxHeartbeats 1000000 in
theorem windows10 (o n : Nat) (A : Wd) (M : Col → Pc) (i : Nat) (hi : i < 4) (s : Stp) (W : World) (hS0 : Stt W M) (hI0 : Inv o A M) (hA : WfA A n) (hn : n < 5800000000000) (h8 : M (8, 4) = noP) (hs : StpOk s) (w0 : World) (hw0 : M (9, 0) = outP w0) (hr0 : Reads w0 s.da s.dz w0.heap.size) (hl : s.dz.length ≤ 140737488351232) (h85 : M (8, 5) = noP) (hd : s.d = 10) :
    Calls Tryd.prog 17 #[.pointer (some ⟨o, 0, none⟩), .agg (stpC s), haveV (A.s i), wantV (A.s i)] W fun e w' => e = .returned (.bool true) ∧ Hid (AftP o A M (n + 1) w') := by
  have hS1 := stt_stp (8, 4) s hS0
  have hI1 := inv_far (j := 4) (p := objP W.heap.size (stpC s) 34) hI0
  have HLV := hidS (fun w' => AftP.leave (o := o) (A := A) (j := 4) (n := n + 1) (p := objP W.heap.size (stpC s) 34) (w' := w') h8)
  have hM8 : upd M (8, 4) (objP W.heap.size (stpC s) 34) (8, 4) = objP W.heap.size (stpC s) 34 := upd_eq _ _ _
  have hdI : (s.d : Int) = 10 := by omega
  have hM9 : ∀ j, upd M (8, 4) (objP W.heap.size (stpC s) 34) (9, j) = M (9, j) := fun j => upd_ne (by simp)
  have hM7 : ∀ j, j ≠ 4 → upd M (8, 4) (objP W.heap.size (stpC s) 34) (8, j) = M (8, j) := fun j hj => upd_ne (by simp [hj])
  generalize upd M (8, 4) (objP W.heap.size (stpC s) 34) = M1 at *
  have _u := And.intro hn (And.intro hs hi)
  clear _u
  have hO1 : M1 (9, 0) = outP w0 := (hM9 0).trans hw0
  have h5 : M1 (8, 5) = noP := (hM7 5 (by decide)).trans h85
  have hrd : ∀ W' M', Stt W' M' → M' (9, 0) = outP w0 → Reads W' s.da s.dz W'.heap.size := fun W' M' h e => (hr0.below (stt_out h e)).mono (stt_out h e).size
  have HL : Hid (∀ W', Stt W' M1 → Calls Tryd.prog 29 #[.slice s.da s.dz.length s.dc] W' fun e w' => ∃ g cp, e = .returned (Value.slice (some ⟨g, 0, none⟩) (s.dz.length + 64) cp) ∧ s.dz.length + 64 ≤ cp ∧ Hid (Stt w' (upd M1 (8, 5) (rowP 5 1 (.slice (some ⟨g, 0, none⟩) (s.dz.length + 64) cp) (s.dz.length + 64) (bv (s.dz ++ marks 0 64)))))) := fun W' h =>
    (lent_any s.da s.dc s.dz W' hl (hrd W' M1 h hO1)).mono fun e w' ⟨v, he, hown, hb⟩ => by
      obtain ⟨g, cp, rfl, hcp⟩ := own_form hown (by omega)
      exact ⟨g, cp, he, hcp, stt_new h hb ⟨own_base hown (Nat.zero_le _), fun k e => (hown.lt k e).1⟩⟩
  have HC2 := hidS (fun g cp W' h => stt_c (W := W') (M := upd M1 (8, 5) (rowP 5 1 (.slice (some ⟨g, 0, none⟩) (s.dz.length + 64) cp) (s.dz.length + 64) (bv (s.dz ++ marks 0 64)))) (c := (8, 4)) h ((upd_ne (by simp)).trans hM8))
  have HC3 := hidS (fun g cp W' h => stt_c (W := W') (M := upd (upd M1 (8, 5) (rowP 5 1 (.slice (some ⟨g, 0, none⟩) (s.dz.length + 64) cp) (s.dz.length + 64) (bv (s.dz ++ marks 0 64)))) (1, i) (segO (wrS s.at_ s.dz (A.s i)))) (c := (8, 4)) h ((upd_ne (by simp)).trans ((upd_ne (by simp)).trans hM8)))
  have HC4 := hidS (fun g cp W' h => stt_c (W := W') (M := upd (upd (upd M1 (8, 5) (rowP 5 1 (.slice (some ⟨g, 0, none⟩) (s.dz.length + 64) cp) (s.dz.length + 64) (bv (s.dz ++ marks 0 64)))) (1, i) (segO (wrS s.at_ s.dz (A.s i)))) (2, i) (refO (wrS s.at_ s.dz (A.s i)))) (c := (8, 4)) h ((upd_ne (by simp)).trans ((upd_ne (by simp)).trans ((upd_ne (by simp)).trans hM8))))
  have HW : Hid (∀ g cp W', s.dz.length + 64 ≤ cp → Stt W' (upd M1 (8, 5) (rowP 5 1 (.slice (some ⟨g, 0, none⟩) (s.dz.length + 64) cp) (s.dz.length + 64) (bv (s.dz ++ marks 0 64)))) → Calls Tryd.prog 47 #[haveV (A.s i), .int .u32 s.at_, .slice (some ⟨g, 0, none⟩) s.dz.length cp] W' fun e w' => e = .returned (.int .i64 (wrE s.dz.length (A.s i))) ∧ Hid (Stt w' (upd (upd M1 (8, 5) (rowP 5 1 (.slice (some ⟨g, 0, none⟩) (s.dz.length + 64) cp) (s.dz.length + 64) (bv (s.dz ++ marks 0 64)))) (1, i) (segO (wrS s.at_ s.dz (A.s i)))))) := fun g cp W' hcp h => by
    have hrow := stt_row h (upd_eq _ _ _)
    refine stt_callx (c := (1, i)) ((upd_ne (by simp)).trans (hI1.seg i hi)) h (fun F hF hB hx => wr_h (A.s i) s.at_ cp (some ⟨g, 0, none⟩) s.dz F W' hF hB hs.at_ (by omega) hs.wf (reads_own hrow (by simp)) (fun b off _ e hb => ?_))
    obtain ⟨G, hG, hd⟩ := hx (8, 5) (by simp)
    rw [upd_eq] at hG
    simp only [Option.some.injEq, Addr.mk.injEq] at e
    exact hd b ((hrow.lt b (by rw [← e.1]; rfl)).2) (hG.2 b (by rw [← e.1]; rfl)) hb
  have HK : Hid (∀ g cp W', Stt W' (upd (upd M1 (8, 5) (rowP 5 1 (.slice (some ⟨g, 0, none⟩) (s.dz.length + 64) cp) (s.dz.length + 64) (bv (s.dz ++ marks 0 64)))) (1, i) (segO (wrS s.at_ s.dz (A.s i)))) → Calls Tryd.prog 32 #[Value.slice (some ⟨g, 0, none⟩) (s.dz.length + 64) cp, .slice s.da s.dz.length s.dc] W' fun e w' => e = .returned (.bool true) ∧ Hid (Stt w' (upd (upd M1 (8, 5) (rowP 5 1 (.slice (some ⟨g, 0, none⟩) (s.dz.length + 64) cp) (s.dz.length + 64) (bv (s.dz ++ marks 0 64)))) (1, i) (segO (wrS s.at_ s.dz (A.s i)))))) := fun g cp W' h => by
    have hrow := stt_row h ((upd_ne (by simp)).trans (upd_eq _ _ _))
    refine (kept_any s.da s.dc s.dz g cp W' hl (hrd W' _ h ((upd_ne (by simp)).trans ((upd_ne (by simp)).trans hO1))) (fun j hj => ?_)).mono fun e w' ⟨he, m, hw⟩ => ⟨he, by rw [hw]; exact stt_drewN m h⟩
    exact own_get hrow (by simp [marks_len]; omega)
  have HR : Hid (∀ g cp W', Stt W' (upd (upd M1 (8, 5) (rowP 5 1 (.slice (some ⟨g, 0, none⟩) (s.dz.length + 64) cp) (s.dz.length + 64) (bv (s.dz ++ marks 0 64)))) (1, i) (segO (wrS s.at_ s.dz (A.s i)))) → Calls Tryd.prog 48 #[wantV (A.s i), .int .u32 s.at_, .slice s.da s.dz.length s.dc] W' fun e w' => e = .returned (.int .i64 (wrE s.dz.length (A.s i))) ∧ Hid (Stt w' (upd (upd (upd M1 (8, 5) (rowP 5 1 (.slice (some ⟨g, 0, none⟩) (s.dz.length + 64) cp) (s.dz.length + 64) (bv (s.dz ++ marks 0 64)))) (1, i) (segO (wrS s.at_ s.dz (A.s i)))) (2, i) (refO (wrS s.at_ s.dz (A.s i)))))) := fun g cp W' h => by
    have ho := ((upd_ne (by simp)).trans ((upd_ne (by simp)).trans hO1) : (upd (upd M1 (8, 5) (rowP 5 1 (.slice (some ⟨g, 0, none⟩) (s.dz.length + 64) cp) (s.dz.length + 64) (bv (s.dz ++ marks 0 64)))) (1, i) (segO (wrS s.at_ s.dz (A.s i)))) (9, 0) = outP w0)
    refine stt_callx (c := (2, i)) ((upd_ne (by simp)).trans ((upd_ne (by simp)).trans (hI1.ref i hi))) h (fun F hF hB hx => wr_w (A.s i) s.at_ s.dc s.da s.dz F W' hF hB hs.at_ hs.wf (hrd W' _ h ho) (fun b off h0 e hb => ?_))
    obtain ⟨G, hG, hd⟩ := hx (9, 0) (by simp)
    rw [ho] at hG
    obtain ⟨b', off', e', hlt, _⟩ := hr0 h0
    rw [e'] at e
    simp only [Option.some.injEq, Addr.mk.injEq] at e
    exact hd b (by have := hG.1.size; omega) (hG.2 b (by omega)) hb
  have HO : Hid (∀ g cp W', Stt W' (upd (upd (upd M1 (8, 5) (rowP 5 1 (.slice (some ⟨g, 0, none⟩) (s.dz.length + 64) cp) (s.dz.length + 64) (bv (s.dz ++ marks 0 64)))) (1, i) (segO (wrS s.at_ s.dz (A.s i)))) (2, i) (refO (wrS s.at_ s.dz (A.s i)))) → Calls Tryd.prog 33 #[Value.slice (some ⟨g, 0, none⟩) (s.dz.length + 64) cp] W' fun e w' => e = .returned (.tuple #[]) ∧ Hid (AftP o A M (n + 1) w')) := fun g cp W' h => by
    have e5 : (upd (upd (upd M1 (8, 5) (rowP 5 1 (.slice (some ⟨g, 0, none⟩) (s.dz.length + 64) cp) (s.dz.length + 64) (bv (s.dz ++ marks 0 64)))) (1, i) (segO (wrS s.at_ s.dz (A.s i)))) (2, i) (refO (wrS s.at_ s.dz (A.s i)))) (8, 5) = rowP 5 1 (.slice (some ⟨g, 0, none⟩) (s.dz.length + 64) cp) (s.dz.length + 64) (bv (s.dz ++ marks 0 64)) := (upd_ne (by simp)).trans ((upd_ne (by simp)).trans (upd_eq _ _ _))
    refine (stt_call (c := (8, 5)) (p' := rowP 5 1 (Value.slice (some ⟨g, 0, none⟩) (s.dz.length + 64) cp) (s.dz.length + 64) (bv (marks (-1) (s.dz.length + 64) ++ (s.dz ++ marks 0 64).drop (s.dz.length + 64)))) e5 h (fun F hF hB => (over_any g cp (s.dz.length + 64) (s.dz.length + 64) 0 (s.dz ++ marks 0 64) W' (by omega) (Nat.le_refl _) (by simp [marks_len]) hF.1).mono fun e w' ⟨he, p1, _, _, p2⟩ => ⟨he, ⟨p1, hF.2⟩, Kp.ofGrown p2 (fun k e _ => hF.2 k e)⟩)).mono fun e w' ⟨he, hq⟩ => ⟨he, ?_⟩
    obtain ⟨q1, q2⟩ := inv_slot (i := i) (S := wrS s.at_ s.dz (A.s i)) (M' := upd (upd M1 (1, i) (segO (wrS s.at_ s.dz (A.s i)))) (2, i) (refO (wrS s.at_ s.dz (A.s i)))) hI1 (wrS_have _ _ _).1 (wrS_have _ _ _).2 (by simp [upd]) (by simp [upd]) (fun d h1 h2 => by simp [upd, h1, h2])
    exact HLV.out _ ⟨_, _, stt_forget (8, 5) hq.out (by simp [upd, h5]) (fun d hd => by simp [upd, hd]), q1, q2, (hA.slot _ _).up (by omega), ptr_set (wrS_have _ _ _)⟩
  clear hO1 h5 hrd hw0 hr0 hl h85
  obtain ⟨c0, c3, -, -, -, c7⟩ := stt_c hS1 hM8
  have HS1 := hidS hS1
  clear hS1 hs hd hS0 h8 hI0 hI1 hA hM8 hM9 hM7
  go_enter Tryd.func17, Tryd.ntmps17
  go_wp2_with (first
    | (go_at_call 29; with_reducible refine (HL.out _ HS1.out).mono ?_; rintro e w1 ⟨g, cp, rfl, hcp, HQ1⟩; obtain ⟨-, d3, -, -, -, d7⟩ := HC2.out _ _ _ HQ1.out)
    | fail)
  have hc1 : s.dz.length ≤ cp := by omega
  have hc2 : (s.dz.length : Int) ≤ (cp : Int) := by omega
  go_region_held3 (fun w' => w'.cell? ⟨W.heap.size, 3, none⟩ = some (.int .u32 s.at_) ∧ w'.cell? ⟨W.heap.size, 7, none⟩ = some (.slice s.da s.dz.length s.dc)) ((first | exact ⟨d3, d7⟩ | exact ⟨(HC3.out _ _ _ HQ2.out).2.1, (HC3.out _ _ _ HQ2.out).2.2.2.2.2⟩)) (first
    | (go_at_call 47; with_reducible refine (HW.out _ _ _ hcp (by (repeat (first | exact HQ1.out | with_reducible refine stt_drew ?_)))).mono ?_; rintro e w2 ⟨rfl, HQ2⟩)
    | fail)
  obtain ⟨-, f3, -, -, -, f7⟩ := HC3.out _ _ _ HQ2.out
  go_wp2_with (first
    | (go_at_call 32; with_reducible refine (HK.out _ _ _ HQ2.out).mono ?_; rintro e w3 ⟨rfl, HQ3⟩; obtain ⟨-, k3, -, -, -, k7⟩ := HC3.out _ _ _ HQ3.out)
    | (go_at_call 48; with_reducible refine (HR.out _ _ _ HQ3.out).mono ?_; rintro e w4 ⟨rfl, HQ4⟩)
    | (go_at_call 33; with_reducible refine (HO.out _ _ _ HQ4.out).mono ?_; rintro e w5 ⟨rfl, HQ5⟩)
    | fail)
  go_ret
  exact ⟨rfl, HQ5⟩
theorem windows_any (o n : Nat) (A : Wd) (M : Col → Pc) (i : Nat) (hi : i < 4) (s : Stp) (W : World) (hS : Stt W M) (hI : Inv o A M) (hA : WfA A n) (hn : n < 5800000000000) (h8 : M (8, 4) = noP) (h85 : M (8, 5) = noP) (hs : StpOk s) (w0 : World) (hw0 : M (9, 0) = outP w0) (hr0 : Reads w0 s.da s.dz w0.heap.size) (hl : s.dz.length ≤ 140737488351232) :
    Calls Tryd.prog 17 #[.pointer (some ⟨o, 0, none⟩), .agg (stpC s), haveV (A.s i), wantV (A.s i)] W fun e w' => e = .returned (.bool true) ∧ Hid (AftP o A M (n + 1) w') := by
  by_cases e8 : s.d = 8
  · exact windows8 o n A M i hi s W hS hI hA hn h8 hs e8
  by_cases e9 : s.d = 9
  · exact windows9 o n A M i hi s W hS hI hA hn h8 hs e9
  by_cases e10 : s.d = 10
  · exact windows10 o n A M i hi s W hS hI hA hn h8 hs w0 hw0 hr0 hl h85 e10
  by_cases e11 : s.d = 11
  · exact windows11 o n A M i hi s W hS hI hA hn h8 hs e11
  · exact windows_no o n A M _ _ s W hS hI hA h8 (by omega)
end Go.Proofs.YtnjglagfpghbjaaDoor
namespace Go.Proofs.YtnjglagfpghbjaaDoor
open Go.RowKit Go.WideShapes
set_option maxRecDepth 100000

theorem stt_hv {W : World} {M : Col → Pc} {o : Nat} {A : Wd} {t : TypeId} (h : Stt W M) (hc : M (0, 0) = objP o (wldC A) t) (i : Nat) (hi : i < 4) : W.cell? ⟨o, i, none⟩ = some (haveV (A.s i)) ∧ W.cell? ⟨o, 4 + i, none⟩ = some (wantV (A.s i)) := by
  match i, hi with
  | 0, _ => exact ⟨stt_cell h hc 0 _ rfl, stt_cell h hc 4 _ rfl⟩
  | 1, _ => exact ⟨stt_cell h hc 1 _ rfl, stt_cell h hc 5 _ rfl⟩
  | 2, _ => exact ⟨stt_cell h hc 2 _ rfl, stt_cell h hc 6 _ rfl⟩
  | 3, _ => exact ⟨stt_cell h hc 3 _ rfl, stt_cell h hc 7 _ rfl⟩
set_option maxHeartbeats 1000000 in
theorem rest14 (o n : Nat) (A : Wd) (M : Col → Pc) (i : Nat) (hi : i < 4) (s : Stp) (W : World) (hS0 : Stt W M) (hI0 : Inv o A M) (hA : WfA A n) (hn : n < 5800000000000) (h8 : M (8, 6) = noP) (hs : StpOk s) (j : Nat) (hj : j < 4) (hd : s.d = 14) :
    Calls Tryd.prog 18 #[.pointer (some ⟨o, 0, none⟩), .agg (stpC s), .int .i64 i, .int .i64 j] W fun e w' => e = .returned (.bool true) ∧ Hid (AftP o A M (n + 1) w') := by
  have hS1 := stt_stp (8, 6) s hS0
  have hI1 := inv_far (j := 6) (p := objP W.heap.size (stpC s) 34) hI0
  have HLV := hidS (fun w' => AftP.leave (o := o) (A := A) (j := 6) (n := n + 1) (p := objP W.heap.size (stpC s) 34) (w' := w') h8)
  have hM8 : upd M (8, 6) (objP W.heap.size (stpC s) 34) (8, 6) = objP W.heap.size (stpC s) 34 := upd_eq _ _ _
  have hdI : (s.d : Int) = 14 := by omega
  have hM9 : ∀ j, upd M (8, 6) (objP W.heap.size (stpC s) 34) (9, j) = M (9, j) := fun j => upd_ne (by simp)
  have hM7 : ∀ j, j ≠ 6 → upd M (8, 6) (objP W.heap.size (stpC s) 34) (8, j) = M (8, j) := fun j hj => upd_ne (by simp [hj])
  generalize upd M (8, 6) (objP W.heap.size (stpC s) 34) = M1 at *
  have _u := And.intro hn (And.intro hs hi)
  clear _u
  have _v := hj
  clear _v
  obtain ⟨hv, wv⟩ := stt_hv hS1 hI1.obj i hi
  have hiI : (i : Int) < 4 := by omega
  have HC1 := hidS (fun W' h => stt_c (W := W') (M := upd M1 (1, i) (segO (mapS (lgG s.on) (A.s i)))) (c := (8, 6)) h ((upd_ne (by simp)).trans hM8))
  have HL := hidS (fun W' h => stt_call (W := W') (M := M1) (c := (1, i)) (hI1.seg i hi) h (fun F h hB => lg_h (A.s i) s.on F W' h hB))
  have HR := hidS (fun W' h => stt_call (W := W') (M := upd M1 (1, i) (segO (mapS (lgG s.on) (A.s i)))) (c := (2, i)) ((upd_ne (by simp)).trans (hI1.ref i hi)) h (fun F h hB => lg_w (A.s i) s.on F W' h hB))
  have HF : Hid (∀ W', Stt W' (upd (upd M1 (1, i) (segO (mapS (lgG s.on) (A.s i)))) (2, i) (refO (mapS (lgG s.on) (A.s i)))) → AftP o A M (n + 1) W') := fun W' h => by
    obtain ⟨q1, q2⟩ := inv_slot (i := i) (S := mapS (lgG s.on) (A.s i)) (M' := upd (upd M1 (1, i) (segO (mapS (lgG s.on) (A.s i)))) (2, i) (refO (mapS (lgG s.on) (A.s i)))) hI1 (mapS_have _ _).1 (mapS_have _ _).2 (by simp [upd]) (by simp [upd]) (fun d h1 h2 => by simp [upd, h1, h2])
    exact HLV.out _ ⟨_, _, h, q1, q2, (hA.slot _ _).up (by omega), ptr_set (mapS_have _ _)⟩
  obtain ⟨c0, -, -, -, c6, -⟩ := stt_c hS1 hM8
  have HS1 := hidS hS1
  clear hS1 hs hd hS0 h8 hI0 hI1 hA hM8 hM9 hM7
  go_enter Tryd.func18, Tryd.ntmps18
  go_wp2_with (first
    | (go_at_call 8; with_reducible refine (HL.out _ HS1.out).mono ?_; rintro e w1 ⟨rfl, HQ1⟩; obtain ⟨-, -, -, -, d6, -⟩ := HC1.out _ HQ1.out)
    | (go_at_call 9; with_reducible refine (HR.out _ HQ1.out).mono ?_; rintro e w2 ⟨rfl, HQ2⟩)
    | fail)
  go_ret
  exact ⟨rfl, HF.out _ HQ2.out⟩
set_option maxHeartbeats 1000000 in
theorem rest13 (o n : Nat) (A : Wd) (M : Col → Pc) (i : Nat) (hi : i < 4) (s : Stp) (W : World) (hS0 : Stt W M) (hI0 : Inv o A M) (hA : WfA A n) (hn : n < 5800000000000) (h8 : M (8, 6) = noP) (hs : StpOk s) (j : Nat) (hj : j < 4) (hd : s.d = 13) :
    Calls Tryd.prog 18 #[.pointer (some ⟨o, 0, none⟩), .agg (stpC s), .int .i64 i, .int .i64 j] W fun e w' => e = .returned (.bool true) ∧ Hid (AftP o A M (n + 1) w') := by
  have hS1 := stt_stp (8, 6) s hS0
  have hI1 := inv_far (j := 6) (p := objP W.heap.size (stpC s) 34) hI0
  have HLV := hidS (fun w' => AftP.leave (o := o) (A := A) (j := 6) (n := n + 1) (p := objP W.heap.size (stpC s) 34) (w' := w') h8)
  have hM8 : upd M (8, 6) (objP W.heap.size (stpC s) 34) (8, 6) = objP W.heap.size (stpC s) 34 := upd_eq _ _ _
  have hdI : (s.d : Int) = 13 := by omega
  have hM9 : ∀ j, upd M (8, 6) (objP W.heap.size (stpC s) 34) (9, j) = M (9, j) := fun j => upd_ne (by simp)
  have hM7 : ∀ j, j ≠ 6 → upd M (8, 6) (objP W.heap.size (stpC s) 34) (8, j) = M (8, j) := fun j hj => upd_ne (by simp [hj])
  generalize upd M (8, 6) (objP W.heap.size (stpC s) 34) = M1 at *
  have _u := And.intro hn (And.intro hs hi)
  clear _u
  have _v := hj
  clear _v
  obtain ⟨hv, wv⟩ := stt_hv hS1 hI1.obj i hi
  have hiI : (i : Int) < 4 := by omega
  obtain ⟨hv2, wv2⟩ := stt_hv hS1 hI1.obj j hj
  have hjI : (j : Int) < 4 := by omega
  have HC := hidS (fun W' h => stt_hv (W := W') h hI1.obj j hj)
  have HL : Hid (∀ W', Stt W' M1 → Calls Tryd.prog 49 #[haveV (A.s i), haveV (A.s j)] W' fun e w' => e = .returned (.bool (smB (A.s i) (A.s j))) ∧ Hid (Stt w' M1)) := fun W' h => by
    obtain ⟨F, hF⟩ := stt_get h (hI1.seg i hi)
    obtain ⟨G, hG⟩ := stt_get h (hI1.seg j hj)
    exact (sm_h (A.s i) (A.s j) F G W' hF hG).mono fun e w' ⟨he, m, hw⟩ => ⟨he, by rw [hw]; exact stt_drewN m h⟩
  have HR : Hid (∀ W', Stt W' M1 → Calls Tryd.prog 50 #[wantV (A.s i), wantV (A.s j)] W' fun e w' => e = .returned (.bool (smB (A.s i) (A.s j))) ∧ Hid (Stt w' M1)) := fun W' h => by
    obtain ⟨F, hF⟩ := stt_get h (hI1.ref i hi)
    obtain ⟨G, hG⟩ := stt_get h (hI1.ref j hj)
    exact (sm_w (A.s i) (A.s j) F G W' hF hG).mono fun e w' ⟨he, m, hw⟩ => ⟨he, by rw [hw]; exact stt_drewN m h⟩
  have HF : Hid (∀ W', Stt W' M1 → AftP o A M (n + 1) W') := fun W' h => HLV.out _ ⟨_, _, h, hI1, Kee.refl _, hA.up (by omega), fun _ => ⟨rfl, rfl⟩⟩
  obtain ⟨c0, -, -, -, -, -⟩ := stt_c hS1 hM8
  have HS1 := hidS hS1
  clear hS1 hs hd hS0 h8 hI0 hI1 hA hM8 hM9 hM7
  go_enter Tryd.func18, Tryd.ntmps18
  go_wp2_with fail
  go_region_held3 (fun w' => w'.cell? ⟨o, j, none⟩ = some (haveV (A.s j)) ∧ w'.cell? ⟨o, 4 + j, none⟩ = some (wantV (A.s j))) ((first | exact ⟨hv2, wv2⟩ | exact HC.out _ HQ2.out | exact HC.out _ HQ1.out)) (first
    | (go_at_call 49; with_reducible refine (HL.out _ (by (repeat (first | exact HS1.out | with_reducible refine stt_drew ?_)))).mono ?_; rintro e w1 ⟨rfl, HQ1⟩)
    | (go_at_call 50; with_reducible refine (HR.out _ (by (repeat (first | exact HQ1.out | with_reducible refine stt_drew ?_)))).mono ?_; rintro e w2 ⟨rfl, HQ2⟩)
    | fail)
  go_wp2_with fail
  go_ret
  exact ⟨by simp, HF.out _ HQ2.out⟩
set_option maxHeartbeats 1000000 in
theorem rest16 (o n : Nat) (A : Wd) (M : Col → Pc) (i : Nat) (hi : i < 4) (s : Stp) (W : World) (hS0 : Stt W M) (hI0 : Inv o A M) (hA : WfA A n) (hn : n < 5800000000000) (h8 : M (8, 6) = noP) (hs : StpOk s) (j : Nat) (hj : j < 4) (w0 : World) (hw0 : M (9, 0) = outP w0) (hT : TabA w0) (h1w : 1 < w0.heap.size) (hd : s.d = 16) :
    Calls Tryd.prog 18 #[.pointer (some ⟨o, 0, none⟩), .agg (stpC s), .int .i64 i, .int .i64 j] W fun e w' => e = .returned (.bool true) ∧ Hid (AftP o A M (n + 1) w') := by
  have hS1 := stt_stp (8, 6) s hS0
  have hI1 := inv_far (j := 6) (p := objP W.heap.size (stpC s) 34) hI0
  have HLV := hidS (fun w' => AftP.leave (o := o) (A := A) (j := 6) (n := n + 1) (p := objP W.heap.size (stpC s) 34) (w' := w') h8)
  have hM8 : upd M (8, 6) (objP W.heap.size (stpC s) 34) (8, 6) = objP W.heap.size (stpC s) 34 := upd_eq _ _ _
  have hdI : (s.d : Int) = 16 := by omega
  have hM9 : ∀ j, upd M (8, 6) (objP W.heap.size (stpC s) 34) (9, j) = M (9, j) := fun j => upd_ne (by simp)
  have hM7 : ∀ j, j ≠ 6 → upd M (8, 6) (objP W.heap.size (stpC s) 34) (8, j) = M (8, j) := fun j hj => upd_ne (by simp [hj])
  generalize upd M (8, 6) (objP W.heap.size (stpC s) 34) = M1 at *
  have _u := And.intro hn (And.intro hs hi)
  clear _u
  have _v := hj
  clear _v
  obtain ⟨hv, wv⟩ := stt_hv hS1 hI1.obj i hi
  have hiI : (i : Int) < 4 := by omega
  have hO1 : M1 (9, 0) = outP w0 := (hM9 0).trans hw0
  have HL : Hid (∀ W', Stt W' M1 → Calls Tryd.prog 51 #[haveV (A.s i)] W' fun e w' => e = .returned (.int .i64 (biV (A.s i))) ∧ Hid (Stt w' M1)) := fun W' h => by
    obtain ⟨F, hF⟩ := stt_get h (hI1.seg i hi)
    exact (bi_h (A.s i) F W' hF (hT.below (stt_out h hO1) h1w)).mono fun e w' ⟨he, hw⟩ => ⟨he, by rw [hw]; exact h⟩
  have HR : Hid (∀ W', Stt W' M1 → Calls Tryd.prog 52 #[wantV (A.s i)] W' fun e w' => e = .returned (.int .i64 (biV (A.s i))) ∧ Hid (Stt w' M1)) := fun W' h => by
    obtain ⟨F, hF⟩ := stt_get h (hI1.ref i hi)
    exact (bi_w (A.s i) F W' hF).mono fun e w' ⟨he, hw⟩ => ⟨he, by rw [hw]; exact h⟩
  have HF : Hid (∀ W', Stt W' M1 → AftP o A M (n + 1) W') := fun W' h => HLV.out _ ⟨_, _, h, hI1, Kee.refl _, hA.up (by omega), fun _ => ⟨rfl, rfl⟩⟩
  clear hO1 hw0 hT h1w
  obtain ⟨c0, -, -, -, -, -⟩ := stt_c hS1 hM8
  have HS1 := hidS hS1
  clear hS1 hs hd hS0 h8 hI0 hI1 hA hM8 hM9 hM7
  go_enter Tryd.func18, Tryd.ntmps18
  go_wp2_with (first
    | (go_at_call 51; with_reducible refine (HL.out _ HS1.out).mono ?_; rintro e w1 ⟨rfl, HQ1⟩)
    | (go_at_call 52; with_reducible refine (HR.out _ HQ1.out).mono ?_; rintro e w2 ⟨rfl, HQ2⟩)
    | fail)
  go_ret
  exact ⟨rfl, HF.out _ HQ2.out⟩
set_option maxHeartbeats 1000000 in
theorem rest_no (o n : Nat) (A : Wd) (M : Col → Pc) (i j : Nat) (hi : i < 4) (s : Stp) (W : World) (hS : Stt W M) (hI : Inv o A M) (hA : WfA A n) (h8 : M (8, 6) = noP) (hd : s.d < 13 ∨ 16 < s.d) :
    Calls Tryd.prog 18 #[.pointer (some ⟨o, 0, none⟩), .agg (stpC s), .int .i64 i, .int .i64 j] W fun e w' => e = .returned (.bool true) ∧ Hid (AftP o A M (n + 1) w') := by
  have hS0 := stt_stp (8, 6) s hS
  obtain ⟨c0, -, -, -, -, -⟩ := stt_c hS0 (upd_eq _ _ _)
  obtain ⟨hv, wv⟩ := stt_hv hS0 ((upd_ne (by simp)).trans hI.obj) i hi
  have hiI : (i : Int) < 4 := by omega
  have HF : Hid (AftP o A M (n + 1) (W.alloc (.cells (stpC s) 34))) := ⟨A, M, stt_forget (M' := M) (8, 6) hS0 h8 (fun d hd => by simp [upd, hd]), hI, Kee.refl _, hA.up (by omega), fun _ => ⟨rfl, rfl⟩⟩
  have d13 : ¬ (s.d : Int) = 13 := by omega
  have d14 : ¬ (s.d : Int) = 14 := by omega
  have d15 : ¬ (s.d : Int) = 15 := by omega
  have d16 : ¬ (s.d : Int) = 16 := by omega
  clear hS hS0 h8 hd hI hA
  go_enter Tryd.func18, Tryd.ntmps18
  go_wp2_with fail
  go_ret
  exact ⟨rfl, HF⟩
end Go.Proofs.YtnjglagfpghbjaaDoor
