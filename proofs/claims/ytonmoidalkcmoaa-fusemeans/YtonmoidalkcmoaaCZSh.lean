import Derived.Test.YtonmoidalkcmoaaCZMk
namespace Go.Proofs.Ytonmoidalkcmoaa
open Go.RowKit Go.WideShapes Go.Shelf
set_option maxRecDepth 100000
def shK : Nat → Shp
  | 1 => shRow [ptSingle lkAny]
  | 2 => shFold 2
  | 3 => shFold 3
  | 4 => shFold 4
  | 5 => shRow [ptConst layA, ptSingle lkBin]
  | 6 => shRow [ptConst layA, ptSingle lkCmp]
  | 7 => shRow [ptConst layA, ptSingle lkArg]
  | 8 => shRow [ptConst layA, ptSingle (lkOnly 5)]
  | 9 => shRow [ptConst layA, ptSingle lkLoad]
  | 10 => shRow [ptConst layA, ptSingle lkStore]
  | 11 => shRow [ptSingle lkLocal, ptSingle lkArg]
  | 12 => shRow [ptSingle lkLocal, ptSingle lkLoad]
  | 13 => shRow [ptSingle lkLocal, ptSingle (lkOnly 31), ptSingle lkBin]
  | 14 => shRow [ptSingle lkLocal, ptSingle (lkOnly 31), ptSingle lkCmp]
  | 15 => shRow [ptSingle lkLocal, ptSingle lkSame, ptSingle (lkOnly 31), ptConst layB, ptSingle lkHarm, ptSingle (lkOnly 34)]
  | _ => fun _ => fz0
theorem PtS.form {B : Nat} {w : World} {v : Value} {pt : Pt} (h : PtS B w v pt) : ∃ g lb, v = .func (.func g) #[] lb := by obtain ⟨g, lb, h1, _⟩ := h; exact ⟨g, lb, h1⟩
theorem LkS.form {B : Nat} {w : World} {v : Value} {lk : Lk} (h : LkS B w v lk) : ∃ g lb, v = .func (.func g) #[] lb := by obtain ⟨g, lb, h1, _⟩ := h; exact ⟨g, lb, h1⟩
theorem ShS.form {B : Nat} {w : World} {v : Value} {sh : Shp} (h : ShS B w v sh) : ∃ g lb, v = .func (.func g) #[] lb := by obtain ⟨g, lb, h1, _⟩ := h; exact ⟨g, lb, h1⟩
theorem lkBin_len (p : Nat × Nat) (f : Fz) : (lkBin p f).1.len = f.len := rfl
theorem lkHarm_len (p : Nat × Nat) (f : Fz) : (lkHarm p f).1.len = f.len := by unfold lkHarm; split <;> rfl
theorem pss1 {B : Nat} {w : World} {v : Value} {pt : Pt} {t : TypeId} (h : PtS B w v pt) (ho : PtOk pt) : PsS B (w.alloc (.cells #[v] t)) w.heap.size [pt] := by
  intro j hj
  have hb := bel1 w (.cells #[v] t)
  match j, hj with
  | 0, _ => exact ⟨v, pt, rfl, ho, by rw [obj_cell (heap_alloc_new w _)]; rfl, h.next hb⟩
theorem pss2 {B : Nat} {w : World} {v1 v2 : Value} {p1 p2 : Pt} {t : TypeId} (h1 : PtS B w v1 p1) (o1 : PtOk p1) (h2 : PtS B w v2 p2) (o2 : PtOk p2) : PsS B (w.alloc (.cells #[v1, v2] t)) w.heap.size [p1, p2] := by
  intro j hj
  have hb := bel1 w (.cells #[v1, v2] t)
  match j, hj with
  | 0, _ => exact ⟨v1, p1, rfl, o1, by rw [obj_cell (heap_alloc_new w _)]; rfl, h1.next hb⟩
  | 1, _ => exact ⟨v2, p2, rfl, o2, by rw [obj_cell (heap_alloc_new w _)]; rfl, h2.next hb⟩
theorem pss3 {B : Nat} {w : World} {v1 v2 v3 : Value} {p1 p2 p3 : Pt} {t : TypeId} (h1 : PtS B w v1 p1) (o1 : PtOk p1) (h2 : PtS B w v2 p2) (o2 : PtOk p2) (h3 : PtS B w v3 p3) (o3 : PtOk p3) : PsS B (w.alloc (.cells #[v1, v2, v3] t)) w.heap.size [p1, p2, p3] := by
  intro j hj
  have hb := bel1 w (.cells #[v1, v2, v3] t)
  match j, hj with
  | 0, _ => exact ⟨v1, p1, rfl, o1, by rw [obj_cell (heap_alloc_new w _)]; rfl, h1.next hb⟩
  | 1, _ => exact ⟨v2, p2, rfl, o2, by rw [obj_cell (heap_alloc_new w _)]; rfl, h2.next hb⟩
  | 2, _ => exact ⟨v3, p3, rfl, o3, by rw [obj_cell (heap_alloc_new w _)]; rfl, h3.next hb⟩
theorem pss6 {B : Nat} {w : World} {v1 v2 v3 v4 v5 v6 : Value} {p1 p2 p3 p4 p5 p6 : Pt} {t : TypeId} (h1 : PtS B w v1 p1) (o1 : PtOk p1) (h2 : PtS B w v2 p2) (o2 : PtOk p2) (h3 : PtS B w v3 p3) (o3 : PtOk p3) (h4 : PtS B w v4 p4) (o4 : PtOk p4) (h5 : PtS B w v5 p5) (o5 : PtOk p5) (h6 : PtS B w v6 p6) (o6 : PtOk p6) : PsS B (w.alloc (.cells #[v1, v2, v3, v4, v5, v6] t)) w.heap.size [p1, p2, p3, p4, p5, p6] := by
  intro j hj
  have hb := bel1 w (.cells #[v1, v2, v3, v4, v5, v6] t)
  match j, hj with
  | 0, _ => exact ⟨v1, p1, rfl, o1, by rw [obj_cell (heap_alloc_new w _)]; rfl, h1.next hb⟩
  | 1, _ => exact ⟨v2, p2, rfl, o2, by rw [obj_cell (heap_alloc_new w _)]; rfl, h2.next hb⟩
  | 2, _ => exact ⟨v3, p3, rfl, o3, by rw [obj_cell (heap_alloc_new w _)]; rfl, h3.next hb⟩
  | 3, _ => exact ⟨v4, p4, rfl, o4, by rw [obj_cell (heap_alloc_new w _)]; rfl, h4.next hb⟩
  | 4, _ => exact ⟨v5, p5, rfl, o5, by rw [obj_cell (heap_alloc_new w _)]; rfl, h5.next hb⟩
  | 5, _ => exact ⟨v6, p6, rfl, o6, by rw [obj_cell (heap_alloc_new w _)]; rfl, h6.next hb⟩
theorem lkAny_st {B : Nat} (w : World) : LkS B w (.func (.func 49) #[] #[]) lkAny := ⟨_, _, rfl, enters_of Try.func49 (by kernel_rfl) rfl, fun W _ p f hp _ => isAny_any p f W⟩
theorem lkLocal_st {B : Nat} (w : World) : LkS B w (.func (.func 41) #[] #[]) lkLocal := ⟨_, _, rfl, enters_of Try.func41 (by kernel_rfl) rfl, fun W _ p f hp _ => isLocal_any p f W⟩
theorem lkArg_st {B : Nat} (w : World) : LkS B w (.func (.func 42) #[] #[]) lkArg := ⟨_, _, rfl, enters_of Try.func42 (by kernel_rfl) rfl, fun W _ p f hp _ => isArg_any p f W⟩
theorem lkLoad_st {B : Nat} (w : World) : LkS B w (.func (.func 43) #[] #[]) lkLoad := ⟨_, _, rfl, enters_of Try.func43 (by kernel_rfl) rfl, fun W _ p f hp _ => isLoad_any p f W⟩
theorem lkStore_st {B : Nat} (w : World) : LkS B w (.func (.func 44) #[] #[]) lkStore := ⟨_, _, rfl, enters_of Try.func44 (by kernel_rfl) rfl, fun W _ p f hp _ => isStore_any p f W⟩
theorem lkCmp_st {B : Nat} (w : World) : LkS B w (.func (.func 47) #[] #[]) lkCmp := ⟨_, _, rfl, enters_of Try.func47 (by kernel_rfl) rfl, fun W _ p f hp _ => isComparison_any p f W⟩
theorem lkSame_st {B : Nat} (w : World) : LkS B w (.func (.func 51) #[] #[]) lkSame := ⟨_, _, rfl, enters_of Try.func51 (by kernel_rfl) rfl, fun W _ p f hp _ => isSameLocal_any p f W⟩
theorem lkBin_st {B : Nat} (w : World) : LkS B w (.func (.func 46) #[] #[]) lkBin := ⟨_, _, rfl, enters_of Try.func46 (by kernel_rfl) rfl, fun W _ p f hp _ => isBinary_any p f W hp⟩
theorem lkHarm_st {B : Nat} (w : World) : LkS B w (.func (.func 53) #[] #[]) lkHarm := ⟨_, _, rfl, enters_of Try.func53 (by kernel_rfl) rfl, fun W _ p f hp _ => isHarmless_any p f W hp⟩
theorem layA_st {B : Nat} (w : World) : LyS B w (.func (.func 39) #[] #[]) layA := ⟨_, _, rfl, enters_of Try.func39 (by kernel_rfl) rfl, fun W _ f x => intoA_any f x W⟩
theorem layB_st {B : Nat} (w : World) : LyS B w (.func (.func 52) #[] #[]) layB := ⟨_, _, rfl, enters_of Try.func52 (by kernel_rfl) rfl, fun W _ f x => intoB_any f x W⟩
theorem ok_bin : PtOk (ptSingle lkBin) := single_ok lkBin_len
theorem ok_harm : PtOk (ptSingle lkHarm) := single_ok lkHarm_len
theorem ok_any : PtOk (ptSingle lkAny) := single_ok (fun _ _ => rfl)
theorem ok_local : PtOk (ptSingle lkLocal) := single_ok (fun _ _ => rfl)
theorem ok_arg : PtOk (ptSingle lkArg) := single_ok (fun _ _ => rfl)
theorem ok_load : PtOk (ptSingle lkLoad) := single_ok (fun _ _ => rfl)
theorem ok_store : PtOk (ptSingle lkStore) := single_ok (fun _ _ => rfl)
theorem ok_cmp : PtOk (ptSingle lkCmp) := single_ok (fun _ _ => rfl)
theorem ok_same : PtOk (ptSingle lkSame) := single_ok (fun _ _ => rfl)
theorem ok_only (k : Nat) : PtOk (ptSingle (lkOnly k)) := single_ok (fun _ _ => rfl)
theorem ok_c : PtOk (ptConst layA) := const_ok (fun _ _ => rfl)
theorem ok_cb : PtOk (ptConst layB) := const_ok (fun _ _ => rfl)
theorem sizeSh : (Try.prog.info? 72).map (·.size) = some 16 := by kernel_rfl
theorem undSh : ∃ n e, Try.prog.underlying 72 = some (.array n e) := by
  have h : (match Try.prog.underlying 72 with | some (.array _ _) => true | _ => false) = true := by kernel_rfl
  split at h
  · exact ⟨_, _, by assumption⟩
  · cases h
theorem resSh {fn : Func} {p : Tmp} (hf : fn.results = #[.cell p 72]) (W : World) (b : Nat) (cs : Array Value) (hs : cs.size = 16) (hb : W.heap[b]? = some (.cells cs 72)) (tmps : Array Value) (h2 : tmps.getD p undef = .pointer (some ⟨b, 0, none⟩)) :
    (results fn tmps).run Try.prog W = .ok (.agg cs) W := by
  obtain ⟨n, e, hu⟩ := undSh
  exact results_cell_row (p := p) (ty := 72) hf tmps W b 72 cs (0, 0) _ h2 hb hu rfl (by rw [sizeSh, hs])
set_option maxHeartbeats 4000000 in
theorem shapes_any (w : World) :
    Calls Try.prog 25 #[] w fun e w' => ∃ cs : Array Value, e = .returned (.agg cs) ∧ cs.size = 16 ∧ (∀ k, 1 ≤ k → k ≤ 15 → ShS (w.heap.size + 1) w' (cs.getD k .nilFunc) (shK k)) ∧ (∀ k, k < 16 → (cs.getD k .nilFunc).oneCell' = true) ∧ Below w.heap.size w w' := by
  go_enter Try.func25, Try.ntmps25
  go_wp2_with fail
  obtain ⟨w0, hw0⟩ : ∃ w0, w.alloc (.cells #[.nilFunc, .nilFunc, .nilFunc, .nilFunc, .nilFunc, .nilFunc, .nilFunc, .nilFunc, .nilFunc, .nilFunc, .nilFunc, .nilFunc, .nilFunc, .nilFunc, .nilFunc, .nilFunc] 72) = w0 := ⟨_, rfl⟩
  rw [hw0]
  have X0 : Hid (Below w.heap.size w w0 ∧ w.heap.size < w0.heap.size ∧ w0.heap[w.heap.size]? = some (.cells #[.nilFunc, .nilFunc, .nilFunc, .nilFunc, .nilFunc, .nilFunc, .nilFunc, .nilFunc, .nilFunc, .nilFunc, .nilFunc, .nilFunc, .nilFunc, .nilFunc, .nilFunc, .nilFunc] 72)) := dhid (by rw [← hw0]; exact ⟨bel1 _ _, by simp, heap_alloc_new _ _⟩)
  clear hw0
  refine (constantInto_any (B := w.heap.size + 1) _ layA w0 (layA_st _) X0.out.2.1).mono ?_
  rintro e w1 ⟨u, rfl, hc, hb⟩
  obtain ⟨gc, lc, rfl⟩ := hc.form
  replace hc := dhid hc
  have X1 := dhid (And.intro (X0.out.1.trans (hb.mono X0.out.1.size)) (And.intro (Nat.lt_of_lt_of_le X0.out.2.1 hb.size) ((hb.block _ X0.out.2.1).trans X0.out.2.2)))
  clear X0 hb
  go_wp2_with fail
  refine (single_any (B := w.heap.size + 1) _ lkLocal w1 (lkLocal_st _) X1.out.2.1).mono ?_
  rintro e w2 ⟨u, rfl, hlo, hb⟩
  obtain ⟨glo, llo, rfl⟩ := hlo.form
  replace hlo := dhid hlo
  replace hc := dhid (hc.out.next hb)
  have X2 := dhid (And.intro (X1.out.1.trans (hb.mono X1.out.1.size)) (And.intro (Nat.lt_of_lt_of_le X1.out.2.1 hb.size) ((hb.block _ X1.out.2.1).trans X1.out.2.2)))
  clear X1 hb
  go_wp2_with fail
  refine (single_any (B := w.heap.size + 1) _ lkArg w2 (lkArg_st _) X2.out.2.1).mono ?_
  rintro e w3 ⟨u, rfl, har, hb⟩
  obtain ⟨gar, lar, rfl⟩ := har.form
  replace har := dhid har
  replace hc := dhid (hc.out.next hb)
  replace hlo := dhid (hlo.out.next hb)
  have X3 := dhid (And.intro (X2.out.1.trans (hb.mono X2.out.1.size)) (And.intro (Nat.lt_of_lt_of_le X2.out.2.1 hb.size) ((hb.block _ X2.out.2.1).trans X2.out.2.2)))
  clear X2 hb
  go_wp2_with fail
  refine (single_any (B := w.heap.size + 1) _ lkLoad w3 (lkLoad_st _) X3.out.2.1).mono ?_
  rintro e w4 ⟨u, rfl, hld, hb⟩
  obtain ⟨gld, lld, rfl⟩ := hld.form
  replace hld := dhid hld
  replace hc := dhid (hc.out.next hb)
  replace hlo := dhid (hlo.out.next hb)
  replace har := dhid (har.out.next hb)
  have X4 := dhid (And.intro (X3.out.1.trans (hb.mono X3.out.1.size)) (And.intro (Nat.lt_of_lt_of_le X3.out.2.1 hb.size) ((hb.block _ X3.out.2.1).trans X3.out.2.2)))
  clear X3 hb
  go_wp2_with fail
  refine (single_any (B := w.heap.size + 1) _ lkStore w4 (lkStore_st _) X4.out.2.1).mono ?_
  rintro e w5 ⟨u, rfl, hst, hb⟩
  obtain ⟨gst, lst, rfl⟩ := hst.form
  replace hst := dhid hst
  replace hc := dhid (hc.out.next hb)
  replace hlo := dhid (hlo.out.next hb)
  replace har := dhid (har.out.next hb)
  replace hld := dhid (hld.out.next hb)
  have X5 := dhid (And.intro (X4.out.1.trans (hb.mono X4.out.1.size)) (And.intro (Nat.lt_of_lt_of_le X4.out.2.1 hb.size) ((hb.block _ X4.out.2.1).trans X4.out.2.2)))
  clear X4 hb
  go_wp2_with fail
  refine (only_any (B := w.heap.size + 1) 31 w5 X5.out.2.1).mono ?_
  rintro e w6 ⟨u, rfl, ho4, hb⟩
  obtain ⟨go4, lo4, rfl⟩ := ho4.form
  replace ho4 := dhid ho4
  replace hc := dhid (hc.out.next hb)
  replace hlo := dhid (hlo.out.next hb)
  replace har := dhid (har.out.next hb)
  replace hld := dhid (hld.out.next hb)
  replace hst := dhid (hst.out.next hb)
  have X6 := dhid (And.intro (X5.out.1.trans (hb.mono X5.out.1.size)) (And.intro (Nat.lt_of_lt_of_le X5.out.2.1 hb.size) ((hb.block _ X5.out.2.1).trans X5.out.2.2)))
  clear X5 hb
  go_wp2_with fail
  refine (single_any _ (lkOnly 31) w6 ho4.out X6.out.2.1).mono ?_
  rintro e w7 ⟨u, rfl, hl4, hb⟩
  obtain ⟨gl4, ll4, rfl⟩ := hl4.form
  replace hl4 := dhid hl4
  replace hc := dhid (hc.out.next hb)
  replace hlo := dhid (hlo.out.next hb)
  replace har := dhid (har.out.next hb)
  replace hld := dhid (hld.out.next hb)
  replace hst := dhid (hst.out.next hb)
  clear ho4
  have X7 := dhid (And.intro (X6.out.1.trans (hb.mono X6.out.1.size)) (And.intro (Nat.lt_of_lt_of_le X6.out.2.1 hb.size) ((hb.block _ X6.out.2.1).trans X6.out.2.2)))
  clear X6 hb
  go_wp2_with fail
  refine (only_any (B := w.heap.size + 1) 34 w7 X7.out.2.1).mono ?_
  rintro e w8 ⟨u, rfl, hos, hb⟩
  obtain ⟨gos, los, rfl⟩ := hos.form
  replace hos := dhid hos
  replace hc := dhid (hc.out.next hb)
  replace hlo := dhid (hlo.out.next hb)
  replace har := dhid (har.out.next hb)
  replace hld := dhid (hld.out.next hb)
  replace hst := dhid (hst.out.next hb)
  replace hl4 := dhid (hl4.out.next hb)
  have X8 := dhid (And.intro (X7.out.1.trans (hb.mono X7.out.1.size)) (And.intro (Nat.lt_of_lt_of_le X7.out.2.1 hb.size) ((hb.block _ X7.out.2.1).trans X7.out.2.2)))
  clear X7 hb
  go_wp2_with fail
  refine (single_any _ (lkOnly 34) w8 hos.out X8.out.2.1).mono ?_
  rintro e w9 ⟨u, rfl, hs4v, hb⟩
  obtain ⟨gs4v, ls4v, rfl⟩ := hs4v.form
  replace hs4v := dhid hs4v
  replace hc := dhid (hc.out.next hb)
  replace hlo := dhid (hlo.out.next hb)
  replace har := dhid (har.out.next hb)
  replace hld := dhid (hld.out.next hb)
  replace hst := dhid (hst.out.next hb)
  replace hl4 := dhid (hl4.out.next hb)
  clear hos
  have X9 := dhid (And.intro (X8.out.1.trans (hb.mono X8.out.1.size)) (And.intro (Nat.lt_of_lt_of_le X8.out.2.1 hb.size) ((hb.block _ X8.out.2.1).trans X8.out.2.2)))
  clear X8 hb
  go_wp2_with fail
  refine (single_any (B := w.heap.size + 1) _ lkBin w9 (lkBin_st _) X9.out.2.1).mono ?_
  rintro e w10 ⟨u, rfl, hbi, hb⟩
  obtain ⟨gbi, lbi, rfl⟩ := hbi.form
  replace hbi := dhid hbi
  replace hc := dhid (hc.out.next hb)
  replace hlo := dhid (hlo.out.next hb)
  replace har := dhid (har.out.next hb)
  replace hld := dhid (hld.out.next hb)
  replace hst := dhid (hst.out.next hb)
  replace hl4 := dhid (hl4.out.next hb)
  replace hs4v := dhid (hs4v.out.next hb)
  have X10 := dhid (And.intro (X9.out.1.trans (hb.mono X9.out.1.size)) (And.intro (Nat.lt_of_lt_of_le X9.out.2.1 hb.size) ((hb.block _ X9.out.2.1).trans X9.out.2.2)))
  clear X9 hb
  go_wp2_with fail
  refine (single_any (B := w.heap.size + 1) _ lkCmp w10 (lkCmp_st _) X10.out.2.1).mono ?_
  rintro e w11 ⟨u, rfl, hcm, hb⟩
  obtain ⟨gcm, lcm, rfl⟩ := hcm.form
  replace hcm := dhid hcm
  replace hc := dhid (hc.out.next hb)
  replace hlo := dhid (hlo.out.next hb)
  replace har := dhid (har.out.next hb)
  replace hld := dhid (hld.out.next hb)
  replace hst := dhid (hst.out.next hb)
  replace hl4 := dhid (hl4.out.next hb)
  replace hs4v := dhid (hs4v.out.next hb)
  replace hbi := dhid (hbi.out.next hb)
  have X11 := dhid (And.intro (X10.out.1.trans (hb.mono X10.out.1.size)) (And.intro (Nat.lt_of_lt_of_le X10.out.2.1 hb.size) ((hb.block _ X10.out.2.1).trans X10.out.2.2)))
  clear X10 hb
  go_wp2_with fail
  refine (single_any (B := w.heap.size + 1) _ lkAny w11 (lkAny_st _) X11.out.2.1).mono ?_
  rintro e w12 ⟨u, rfl, han, hb⟩
  obtain ⟨gan, lan, rfl⟩ := han.form
  replace han := dhid han
  replace hc := dhid (hc.out.next hb)
  replace hlo := dhid (hlo.out.next hb)
  replace har := dhid (har.out.next hb)
  replace hld := dhid (hld.out.next hb)
  replace hst := dhid (hst.out.next hb)
  replace hl4 := dhid (hl4.out.next hb)
  replace hs4v := dhid (hs4v.out.next hb)
  replace hbi := dhid (hbi.out.next hb)
  replace hcm := dhid (hcm.out.next hb)
  have X12 := dhid (And.intro (X11.out.1.trans (hb.mono X11.out.1.size)) (And.intro (Nat.lt_of_lt_of_le X11.out.2.1 hb.size) ((hb.block _ X11.out.2.1).trans X11.out.2.2)))
  clear X11 hb
  have Q13 := dhid (pss1 (t := 88) han.out ok_any)
  go_wp2_with fail
  refine (row_any w12.heap.size 1 _ _ (by simp) Q13.out (by decide) (by have := X12.out.2.1; simp; omega) X12.out.2.1).mono ?_
  rintro e w13 ⟨u, rfl, hS1, hb⟩
  replace hb := (bel1 w12 _).trans (hb.mono (by simp))
  clear Q13
  obtain ⟨gS1, lS1, rfl⟩ := hS1.form
  replace hS1 := dhid hS1
  replace hc := dhid (hc.out.next hb)
  replace hlo := dhid (hlo.out.next hb)
  replace har := dhid (har.out.next hb)
  replace hld := dhid (hld.out.next hb)
  replace hst := dhid (hst.out.next hb)
  replace hl4 := dhid (hl4.out.next hb)
  replace hs4v := dhid (hs4v.out.next hb)
  replace hbi := dhid (hbi.out.next hb)
  replace hcm := dhid (hcm.out.next hb)
  clear han
  have X13 := dhid (And.intro (X12.out.1.trans (hb.mono X12.out.1.size)) (And.intro (Nat.lt_of_lt_of_le X12.out.2.1 hb.size) ((hb.block _ X12.out.2.1).trans X12.out.2.2)))
  clear X12 hb
  go_wp2_with fail
  refine (folded_any (B := w.heap.size + 1) 2 w13 X13.out.2.1).mono ?_
  rintro e w14 ⟨u, rfl, hS2, hb⟩
  obtain ⟨gS2, lS2, rfl⟩ := hS2.form
  replace hS2 := dhid hS2
  replace hc := dhid (hc.out.next hb)
  replace hlo := dhid (hlo.out.next hb)
  replace har := dhid (har.out.next hb)
  replace hld := dhid (hld.out.next hb)
  replace hst := dhid (hst.out.next hb)
  replace hl4 := dhid (hl4.out.next hb)
  replace hs4v := dhid (hs4v.out.next hb)
  replace hbi := dhid (hbi.out.next hb)
  replace hcm := dhid (hcm.out.next hb)
  replace hS1 := dhid (hS1.out.next hb)
  have X14 := dhid (And.intro (X13.out.1.trans (hb.mono X13.out.1.size)) (And.intro (Nat.lt_of_lt_of_le X13.out.2.1 hb.size) ((hb.block _ X13.out.2.1).trans X13.out.2.2)))
  clear X13 hb
  go_wp2_with fail
  refine (folded_any (B := w.heap.size + 1) 3 w14 X14.out.2.1).mono ?_
  rintro e w15 ⟨u, rfl, hS3, hb⟩
  obtain ⟨gS3, lS3, rfl⟩ := hS3.form
  replace hS3 := dhid hS3
  replace hc := dhid (hc.out.next hb)
  replace hlo := dhid (hlo.out.next hb)
  replace har := dhid (har.out.next hb)
  replace hld := dhid (hld.out.next hb)
  replace hst := dhid (hst.out.next hb)
  replace hl4 := dhid (hl4.out.next hb)
  replace hs4v := dhid (hs4v.out.next hb)
  replace hbi := dhid (hbi.out.next hb)
  replace hcm := dhid (hcm.out.next hb)
  replace hS1 := dhid (hS1.out.next hb)
  replace hS2 := dhid (hS2.out.next hb)
  have X15 := dhid (And.intro (X14.out.1.trans (hb.mono X14.out.1.size)) (And.intro (Nat.lt_of_lt_of_le X14.out.2.1 hb.size) ((hb.block _ X14.out.2.1).trans X14.out.2.2)))
  clear X14 hb
  go_wp2_with fail
  refine (folded_any (B := w.heap.size + 1) 4 w15 X15.out.2.1).mono ?_
  rintro e w16 ⟨u, rfl, hS4, hb⟩
  obtain ⟨gS4, lS4, rfl⟩ := hS4.form
  replace hS4 := dhid hS4
  replace hc := dhid (hc.out.next hb)
  replace hlo := dhid (hlo.out.next hb)
  replace har := dhid (har.out.next hb)
  replace hld := dhid (hld.out.next hb)
  replace hst := dhid (hst.out.next hb)
  replace hl4 := dhid (hl4.out.next hb)
  replace hs4v := dhid (hs4v.out.next hb)
  replace hbi := dhid (hbi.out.next hb)
  replace hcm := dhid (hcm.out.next hb)
  replace hS1 := dhid (hS1.out.next hb)
  replace hS2 := dhid (hS2.out.next hb)
  replace hS3 := dhid (hS3.out.next hb)
  have X16 := dhid (And.intro (X15.out.1.trans (hb.mono X15.out.1.size)) (And.intro (Nat.lt_of_lt_of_le X15.out.2.1 hb.size) ((hb.block _ X15.out.2.1).trans X15.out.2.2)))
  clear X15 hb
  have Q17 := dhid (pss2 (t := 88) hc.out ok_c hbi.out ok_bin)
  go_wp2_with fail
  refine (row_any w16.heap.size 2 _ _ (by simp) Q17.out (by decide) (by have := X16.out.2.1; simp; omega) X16.out.2.1).mono ?_
  rintro e w17 ⟨u, rfl, hS5, hb⟩
  replace hb := (bel1 w16 _).trans (hb.mono (by simp))
  clear Q17
  obtain ⟨gS5, lS5, rfl⟩ := hS5.form
  replace hS5 := dhid hS5
  replace hc := dhid (hc.out.next hb)
  replace hlo := dhid (hlo.out.next hb)
  replace har := dhid (har.out.next hb)
  replace hld := dhid (hld.out.next hb)
  replace hst := dhid (hst.out.next hb)
  replace hl4 := dhid (hl4.out.next hb)
  replace hs4v := dhid (hs4v.out.next hb)
  replace hbi := dhid (hbi.out.next hb)
  replace hcm := dhid (hcm.out.next hb)
  replace hS1 := dhid (hS1.out.next hb)
  replace hS2 := dhid (hS2.out.next hb)
  replace hS3 := dhid (hS3.out.next hb)
  replace hS4 := dhid (hS4.out.next hb)
  have X17 := dhid (And.intro (X16.out.1.trans (hb.mono X16.out.1.size)) (And.intro (Nat.lt_of_lt_of_le X16.out.2.1 hb.size) ((hb.block _ X16.out.2.1).trans X16.out.2.2)))
  clear X16 hb
  have Q18 := dhid (pss2 (t := 88) hc.out ok_c hcm.out ok_cmp)
  go_wp2_with fail
  refine (row_any w17.heap.size 2 _ _ (by simp) Q18.out (by decide) (by have := X17.out.2.1; simp; omega) X17.out.2.1).mono ?_
  rintro e w18 ⟨u, rfl, hS6, hb⟩
  replace hb := (bel1 w17 _).trans (hb.mono (by simp))
  clear Q18
  obtain ⟨gS6, lS6, rfl⟩ := hS6.form
  replace hS6 := dhid hS6
  replace hc := dhid (hc.out.next hb)
  replace hlo := dhid (hlo.out.next hb)
  replace har := dhid (har.out.next hb)
  replace hld := dhid (hld.out.next hb)
  replace hst := dhid (hst.out.next hb)
  replace hl4 := dhid (hl4.out.next hb)
  replace hs4v := dhid (hs4v.out.next hb)
  replace hbi := dhid (hbi.out.next hb)
  replace hcm := dhid (hcm.out.next hb)
  replace hS1 := dhid (hS1.out.next hb)
  replace hS2 := dhid (hS2.out.next hb)
  replace hS3 := dhid (hS3.out.next hb)
  replace hS4 := dhid (hS4.out.next hb)
  replace hS5 := dhid (hS5.out.next hb)
  have X18 := dhid (And.intro (X17.out.1.trans (hb.mono X17.out.1.size)) (And.intro (Nat.lt_of_lt_of_le X17.out.2.1 hb.size) ((hb.block _ X17.out.2.1).trans X17.out.2.2)))
  clear X17 hb
  have Q19 := dhid (pss2 (t := 88) hc.out ok_c har.out ok_arg)
  go_wp2_with fail
  refine (row_any w18.heap.size 2 _ _ (by simp) Q19.out (by decide) (by have := X18.out.2.1; simp; omega) X18.out.2.1).mono ?_
  rintro e w19 ⟨u, rfl, hS7, hb⟩
  replace hb := (bel1 w18 _).trans (hb.mono (by simp))
  clear Q19
  obtain ⟨gS7, lS7, rfl⟩ := hS7.form
  replace hS7 := dhid hS7
  replace hc := dhid (hc.out.next hb)
  replace hlo := dhid (hlo.out.next hb)
  replace har := dhid (har.out.next hb)
  replace hld := dhid (hld.out.next hb)
  replace hst := dhid (hst.out.next hb)
  replace hl4 := dhid (hl4.out.next hb)
  replace hs4v := dhid (hs4v.out.next hb)
  replace hbi := dhid (hbi.out.next hb)
  replace hcm := dhid (hcm.out.next hb)
  replace hS1 := dhid (hS1.out.next hb)
  replace hS2 := dhid (hS2.out.next hb)
  replace hS3 := dhid (hS3.out.next hb)
  replace hS4 := dhid (hS4.out.next hb)
  replace hS5 := dhid (hS5.out.next hb)
  replace hS6 := dhid (hS6.out.next hb)
  have X19 := dhid (And.intro (X18.out.1.trans (hb.mono X18.out.1.size)) (And.intro (Nat.lt_of_lt_of_le X18.out.2.1 hb.size) ((hb.block _ X18.out.2.1).trans X18.out.2.2)))
  clear X18 hb
  go_wp2_with fail
  refine (only_any (B := w.heap.size + 1) 5 w19 X19.out.2.1).mono ?_
  rintro e w20 ⟨u, rfl, hoc, hb⟩
  obtain ⟨goc, loc, rfl⟩ := hoc.form
  replace hoc := dhid hoc
  replace hc := dhid (hc.out.next hb)
  replace hlo := dhid (hlo.out.next hb)
  replace har := dhid (har.out.next hb)
  replace hld := dhid (hld.out.next hb)
  replace hst := dhid (hst.out.next hb)
  replace hl4 := dhid (hl4.out.next hb)
  replace hs4v := dhid (hs4v.out.next hb)
  replace hbi := dhid (hbi.out.next hb)
  replace hcm := dhid (hcm.out.next hb)
  replace hS1 := dhid (hS1.out.next hb)
  replace hS2 := dhid (hS2.out.next hb)
  replace hS3 := dhid (hS3.out.next hb)
  replace hS4 := dhid (hS4.out.next hb)
  replace hS5 := dhid (hS5.out.next hb)
  replace hS6 := dhid (hS6.out.next hb)
  replace hS7 := dhid (hS7.out.next hb)
  have X20 := dhid (And.intro (X19.out.1.trans (hb.mono X19.out.1.size)) (And.intro (Nat.lt_of_lt_of_le X19.out.2.1 hb.size) ((hb.block _ X19.out.2.1).trans X19.out.2.2)))
  clear X19 hb
  go_wp2_with fail
  refine (single_any _ (lkOnly 5) w20 hoc.out X20.out.2.1).mono ?_
  rintro e w21 ⟨u, rfl, hca, hb⟩
  obtain ⟨gca, lca, rfl⟩ := hca.form
  replace hca := dhid hca
  replace hc := dhid (hc.out.next hb)
  replace hlo := dhid (hlo.out.next hb)
  replace har := dhid (har.out.next hb)
  replace hld := dhid (hld.out.next hb)
  replace hst := dhid (hst.out.next hb)
  replace hl4 := dhid (hl4.out.next hb)
  replace hs4v := dhid (hs4v.out.next hb)
  replace hbi := dhid (hbi.out.next hb)
  replace hcm := dhid (hcm.out.next hb)
  replace hS1 := dhid (hS1.out.next hb)
  replace hS2 := dhid (hS2.out.next hb)
  replace hS3 := dhid (hS3.out.next hb)
  replace hS4 := dhid (hS4.out.next hb)
  replace hS5 := dhid (hS5.out.next hb)
  replace hS6 := dhid (hS6.out.next hb)
  replace hS7 := dhid (hS7.out.next hb)
  clear hoc
  have X21 := dhid (And.intro (X20.out.1.trans (hb.mono X20.out.1.size)) (And.intro (Nat.lt_of_lt_of_le X20.out.2.1 hb.size) ((hb.block _ X20.out.2.1).trans X20.out.2.2)))
  clear X20 hb
  have Q22 := dhid (pss2 (t := 88) hc.out ok_c hca.out (ok_only 5))
  go_wp2_with fail
  refine (row_any w21.heap.size 2 _ _ (by simp) Q22.out (by decide) (by have := X21.out.2.1; simp; omega) X21.out.2.1).mono ?_
  rintro e w22 ⟨u, rfl, hS8, hb⟩
  replace hb := (bel1 w21 _).trans (hb.mono (by simp))
  clear Q22
  obtain ⟨gS8, lS8, rfl⟩ := hS8.form
  replace hS8 := dhid hS8
  replace hc := dhid (hc.out.next hb)
  replace hlo := dhid (hlo.out.next hb)
  replace har := dhid (har.out.next hb)
  replace hld := dhid (hld.out.next hb)
  replace hst := dhid (hst.out.next hb)
  replace hl4 := dhid (hl4.out.next hb)
  replace hs4v := dhid (hs4v.out.next hb)
  replace hbi := dhid (hbi.out.next hb)
  replace hcm := dhid (hcm.out.next hb)
  replace hS1 := dhid (hS1.out.next hb)
  replace hS2 := dhid (hS2.out.next hb)
  replace hS3 := dhid (hS3.out.next hb)
  replace hS4 := dhid (hS4.out.next hb)
  replace hS5 := dhid (hS5.out.next hb)
  replace hS6 := dhid (hS6.out.next hb)
  replace hS7 := dhid (hS7.out.next hb)
  clear hca
  have X22 := dhid (And.intro (X21.out.1.trans (hb.mono X21.out.1.size)) (And.intro (Nat.lt_of_lt_of_le X21.out.2.1 hb.size) ((hb.block _ X21.out.2.1).trans X21.out.2.2)))
  clear X21 hb
  have Q23 := dhid (pss2 (t := 88) hc.out ok_c hld.out ok_load)
  go_wp2_with fail
  refine (row_any w22.heap.size 2 _ _ (by simp) Q23.out (by decide) (by have := X22.out.2.1; simp; omega) X22.out.2.1).mono ?_
  rintro e w23 ⟨u, rfl, hS9, hb⟩
  replace hb := (bel1 w22 _).trans (hb.mono (by simp))
  clear Q23
  obtain ⟨gS9, lS9, rfl⟩ := hS9.form
  replace hS9 := dhid hS9
  replace hc := dhid (hc.out.next hb)
  replace hlo := dhid (hlo.out.next hb)
  replace har := dhid (har.out.next hb)
  replace hld := dhid (hld.out.next hb)
  replace hst := dhid (hst.out.next hb)
  replace hl4 := dhid (hl4.out.next hb)
  replace hs4v := dhid (hs4v.out.next hb)
  replace hbi := dhid (hbi.out.next hb)
  replace hcm := dhid (hcm.out.next hb)
  replace hS1 := dhid (hS1.out.next hb)
  replace hS2 := dhid (hS2.out.next hb)
  replace hS3 := dhid (hS3.out.next hb)
  replace hS4 := dhid (hS4.out.next hb)
  replace hS5 := dhid (hS5.out.next hb)
  replace hS6 := dhid (hS6.out.next hb)
  replace hS7 := dhid (hS7.out.next hb)
  replace hS8 := dhid (hS8.out.next hb)
  have X23 := dhid (And.intro (X22.out.1.trans (hb.mono X22.out.1.size)) (And.intro (Nat.lt_of_lt_of_le X22.out.2.1 hb.size) ((hb.block _ X22.out.2.1).trans X22.out.2.2)))
  clear X22 hb
  have Q24 := dhid (pss2 (t := 88) hc.out ok_c hst.out ok_store)
  go_wp2_with fail
  refine (row_any w23.heap.size 2 _ _ (by simp) Q24.out (by decide) (by have := X23.out.2.1; simp; omega) X23.out.2.1).mono ?_
  rintro e w24 ⟨u, rfl, hS10, hb⟩
  replace hb := (bel1 w23 _).trans (hb.mono (by simp))
  clear Q24
  obtain ⟨gS10, lS10, rfl⟩ := hS10.form
  replace hS10 := dhid hS10
  replace hlo := dhid (hlo.out.next hb)
  replace har := dhid (har.out.next hb)
  replace hld := dhid (hld.out.next hb)
  replace hl4 := dhid (hl4.out.next hb)
  replace hs4v := dhid (hs4v.out.next hb)
  replace hbi := dhid (hbi.out.next hb)
  replace hcm := dhid (hcm.out.next hb)
  replace hS1 := dhid (hS1.out.next hb)
  replace hS2 := dhid (hS2.out.next hb)
  replace hS3 := dhid (hS3.out.next hb)
  replace hS4 := dhid (hS4.out.next hb)
  replace hS5 := dhid (hS5.out.next hb)
  replace hS6 := dhid (hS6.out.next hb)
  replace hS7 := dhid (hS7.out.next hb)
  replace hS8 := dhid (hS8.out.next hb)
  replace hS9 := dhid (hS9.out.next hb)
  clear hc
  clear hst
  have X24 := dhid (And.intro (X23.out.1.trans (hb.mono X23.out.1.size)) (And.intro (Nat.lt_of_lt_of_le X23.out.2.1 hb.size) ((hb.block _ X23.out.2.1).trans X23.out.2.2)))
  clear X23 hb
  have Q25 := dhid (pss2 (t := 88) hlo.out ok_local har.out ok_arg)
  go_wp2_with fail
  refine (row_any w24.heap.size 2 _ _ (by simp) Q25.out (by decide) (by have := X24.out.2.1; simp; omega) X24.out.2.1).mono ?_
  rintro e w25 ⟨u, rfl, hS11, hb⟩
  replace hb := (bel1 w24 _).trans (hb.mono (by simp))
  clear Q25
  obtain ⟨gS11, lS11, rfl⟩ := hS11.form
  replace hS11 := dhid hS11
  replace hlo := dhid (hlo.out.next hb)
  replace hld := dhid (hld.out.next hb)
  replace hl4 := dhid (hl4.out.next hb)
  replace hs4v := dhid (hs4v.out.next hb)
  replace hbi := dhid (hbi.out.next hb)
  replace hcm := dhid (hcm.out.next hb)
  replace hS1 := dhid (hS1.out.next hb)
  replace hS2 := dhid (hS2.out.next hb)
  replace hS3 := dhid (hS3.out.next hb)
  replace hS4 := dhid (hS4.out.next hb)
  replace hS5 := dhid (hS5.out.next hb)
  replace hS6 := dhid (hS6.out.next hb)
  replace hS7 := dhid (hS7.out.next hb)
  replace hS8 := dhid (hS8.out.next hb)
  replace hS9 := dhid (hS9.out.next hb)
  replace hS10 := dhid (hS10.out.next hb)
  clear har
  have X25 := dhid (And.intro (X24.out.1.trans (hb.mono X24.out.1.size)) (And.intro (Nat.lt_of_lt_of_le X24.out.2.1 hb.size) ((hb.block _ X24.out.2.1).trans X24.out.2.2)))
  clear X24 hb
  have Q26 := dhid (pss2 (t := 88) hlo.out ok_local hld.out ok_load)
  go_wp2_with fail
  refine (row_any w25.heap.size 2 _ _ (by simp) Q26.out (by decide) (by have := X25.out.2.1; simp; omega) X25.out.2.1).mono ?_
  rintro e w26 ⟨u, rfl, hS12, hb⟩
  replace hb := (bel1 w25 _).trans (hb.mono (by simp))
  clear Q26
  obtain ⟨gS12, lS12, rfl⟩ := hS12.form
  replace hS12 := dhid hS12
  replace hlo := dhid (hlo.out.next hb)
  replace hl4 := dhid (hl4.out.next hb)
  replace hs4v := dhid (hs4v.out.next hb)
  replace hbi := dhid (hbi.out.next hb)
  replace hcm := dhid (hcm.out.next hb)
  replace hS1 := dhid (hS1.out.next hb)
  replace hS2 := dhid (hS2.out.next hb)
  replace hS3 := dhid (hS3.out.next hb)
  replace hS4 := dhid (hS4.out.next hb)
  replace hS5 := dhid (hS5.out.next hb)
  replace hS6 := dhid (hS6.out.next hb)
  replace hS7 := dhid (hS7.out.next hb)
  replace hS8 := dhid (hS8.out.next hb)
  replace hS9 := dhid (hS9.out.next hb)
  replace hS10 := dhid (hS10.out.next hb)
  replace hS11 := dhid (hS11.out.next hb)
  clear hld
  have X26 := dhid (And.intro (X25.out.1.trans (hb.mono X25.out.1.size)) (And.intro (Nat.lt_of_lt_of_le X25.out.2.1 hb.size) ((hb.block _ X25.out.2.1).trans X25.out.2.2)))
  clear X25 hb
  have Q27 := dhid (pss3 (t := 88) hlo.out ok_local hl4.out (ok_only 31) hbi.out ok_bin)
  go_wp2_with fail
  refine (row_any w26.heap.size 3 _ _ (by simp) Q27.out (by decide) (by have := X26.out.2.1; simp; omega) X26.out.2.1).mono ?_
  rintro e w27 ⟨u, rfl, hS13, hb⟩
  replace hb := (bel1 w26 _).trans (hb.mono (by simp))
  clear Q27
  obtain ⟨gS13, lS13, rfl⟩ := hS13.form
  replace hS13 := dhid hS13
  replace hlo := dhid (hlo.out.next hb)
  replace hl4 := dhid (hl4.out.next hb)
  replace hs4v := dhid (hs4v.out.next hb)
  replace hcm := dhid (hcm.out.next hb)
  replace hS1 := dhid (hS1.out.next hb)
  replace hS2 := dhid (hS2.out.next hb)
  replace hS3 := dhid (hS3.out.next hb)
  replace hS4 := dhid (hS4.out.next hb)
  replace hS5 := dhid (hS5.out.next hb)
  replace hS6 := dhid (hS6.out.next hb)
  replace hS7 := dhid (hS7.out.next hb)
  replace hS8 := dhid (hS8.out.next hb)
  replace hS9 := dhid (hS9.out.next hb)
  replace hS10 := dhid (hS10.out.next hb)
  replace hS11 := dhid (hS11.out.next hb)
  replace hS12 := dhid (hS12.out.next hb)
  clear hbi
  have X27 := dhid (And.intro (X26.out.1.trans (hb.mono X26.out.1.size)) (And.intro (Nat.lt_of_lt_of_le X26.out.2.1 hb.size) ((hb.block _ X26.out.2.1).trans X26.out.2.2)))
  clear X26 hb
  have Q28 := dhid (pss3 (t := 88) hlo.out ok_local hl4.out (ok_only 31) hcm.out ok_cmp)
  go_wp2_with fail
  refine (row_any w27.heap.size 3 _ _ (by simp) Q28.out (by decide) (by have := X27.out.2.1; simp; omega) X27.out.2.1).mono ?_
  rintro e w28 ⟨u, rfl, hS14, hb⟩
  replace hb := (bel1 w27 _).trans (hb.mono (by simp))
  clear Q28
  obtain ⟨gS14, lS14, rfl⟩ := hS14.form
  replace hS14 := dhid hS14
  replace hlo := dhid (hlo.out.next hb)
  replace hl4 := dhid (hl4.out.next hb)
  replace hs4v := dhid (hs4v.out.next hb)
  replace hS1 := dhid (hS1.out.next hb)
  replace hS2 := dhid (hS2.out.next hb)
  replace hS3 := dhid (hS3.out.next hb)
  replace hS4 := dhid (hS4.out.next hb)
  replace hS5 := dhid (hS5.out.next hb)
  replace hS6 := dhid (hS6.out.next hb)
  replace hS7 := dhid (hS7.out.next hb)
  replace hS8 := dhid (hS8.out.next hb)
  replace hS9 := dhid (hS9.out.next hb)
  replace hS10 := dhid (hS10.out.next hb)
  replace hS11 := dhid (hS11.out.next hb)
  replace hS12 := dhid (hS12.out.next hb)
  replace hS13 := dhid (hS13.out.next hb)
  clear hcm
  have X28 := dhid (And.intro (X27.out.1.trans (hb.mono X27.out.1.size)) (And.intro (Nat.lt_of_lt_of_le X27.out.2.1 hb.size) ((hb.block _ X27.out.2.1).trans X27.out.2.2)))
  clear X27 hb
  go_wp2_with fail
  refine (single_any (B := w.heap.size + 1) _ lkSame w28 (lkSame_st _) X28.out.2.1).mono ?_
  rintro e w29 ⟨u, rfl, hsa, hb⟩
  obtain ⟨gsa, lsa, rfl⟩ := hsa.form
  replace hsa := dhid hsa
  replace hlo := dhid (hlo.out.next hb)
  replace hl4 := dhid (hl4.out.next hb)
  replace hs4v := dhid (hs4v.out.next hb)
  replace hS1 := dhid (hS1.out.next hb)
  replace hS2 := dhid (hS2.out.next hb)
  replace hS3 := dhid (hS3.out.next hb)
  replace hS4 := dhid (hS4.out.next hb)
  replace hS5 := dhid (hS5.out.next hb)
  replace hS6 := dhid (hS6.out.next hb)
  replace hS7 := dhid (hS7.out.next hb)
  replace hS8 := dhid (hS8.out.next hb)
  replace hS9 := dhid (hS9.out.next hb)
  replace hS10 := dhid (hS10.out.next hb)
  replace hS11 := dhid (hS11.out.next hb)
  replace hS12 := dhid (hS12.out.next hb)
  replace hS13 := dhid (hS13.out.next hb)
  replace hS14 := dhid (hS14.out.next hb)
  have X29 := dhid (And.intro (X28.out.1.trans (hb.mono X28.out.1.size)) (And.intro (Nat.lt_of_lt_of_le X28.out.2.1 hb.size) ((hb.block _ X28.out.2.1).trans X28.out.2.2)))
  clear X28 hb
  go_wp2_with fail
  refine (constantInto_any (B := w.heap.size + 1) _ layB w29 (layB_st _) X29.out.2.1).mono ?_
  rintro e w30 ⟨u, rfl, hcb, hb⟩
  obtain ⟨gcb, lcb, rfl⟩ := hcb.form
  replace hcb := dhid hcb
  replace hlo := dhid (hlo.out.next hb)
  replace hl4 := dhid (hl4.out.next hb)
  replace hs4v := dhid (hs4v.out.next hb)
  replace hS1 := dhid (hS1.out.next hb)
  replace hS2 := dhid (hS2.out.next hb)
  replace hS3 := dhid (hS3.out.next hb)
  replace hS4 := dhid (hS4.out.next hb)
  replace hS5 := dhid (hS5.out.next hb)
  replace hS6 := dhid (hS6.out.next hb)
  replace hS7 := dhid (hS7.out.next hb)
  replace hS8 := dhid (hS8.out.next hb)
  replace hS9 := dhid (hS9.out.next hb)
  replace hS10 := dhid (hS10.out.next hb)
  replace hS11 := dhid (hS11.out.next hb)
  replace hS12 := dhid (hS12.out.next hb)
  replace hS13 := dhid (hS13.out.next hb)
  replace hS14 := dhid (hS14.out.next hb)
  replace hsa := dhid (hsa.out.next hb)
  have X30 := dhid (And.intro (X29.out.1.trans (hb.mono X29.out.1.size)) (And.intro (Nat.lt_of_lt_of_le X29.out.2.1 hb.size) ((hb.block _ X29.out.2.1).trans X29.out.2.2)))
  clear X29 hb
  go_wp2_with fail
  refine (single_any (B := w.heap.size + 1) _ lkHarm w30 (lkHarm_st _) X30.out.2.1).mono ?_
  rintro e w31 ⟨u, rfl, hha, hb⟩
  obtain ⟨gha, lha, rfl⟩ := hha.form
  replace hha := dhid hha
  replace hlo := dhid (hlo.out.next hb)
  replace hl4 := dhid (hl4.out.next hb)
  replace hs4v := dhid (hs4v.out.next hb)
  replace hS1 := dhid (hS1.out.next hb)
  replace hS2 := dhid (hS2.out.next hb)
  replace hS3 := dhid (hS3.out.next hb)
  replace hS4 := dhid (hS4.out.next hb)
  replace hS5 := dhid (hS5.out.next hb)
  replace hS6 := dhid (hS6.out.next hb)
  replace hS7 := dhid (hS7.out.next hb)
  replace hS8 := dhid (hS8.out.next hb)
  replace hS9 := dhid (hS9.out.next hb)
  replace hS10 := dhid (hS10.out.next hb)
  replace hS11 := dhid (hS11.out.next hb)
  replace hS12 := dhid (hS12.out.next hb)
  replace hS13 := dhid (hS13.out.next hb)
  replace hS14 := dhid (hS14.out.next hb)
  replace hsa := dhid (hsa.out.next hb)
  replace hcb := dhid (hcb.out.next hb)
  have X31 := dhid (And.intro (X30.out.1.trans (hb.mono X30.out.1.size)) (And.intro (Nat.lt_of_lt_of_le X30.out.2.1 hb.size) ((hb.block _ X30.out.2.1).trans X30.out.2.2)))
  clear X30 hb
  have Q32 := dhid (pss6 (t := 88) hlo.out ok_local hsa.out ok_same hl4.out (ok_only 31) hcb.out ok_cb hha.out ok_harm hs4v.out (ok_only 34))
  go_wp2_with fail
  refine (row_any w31.heap.size 6 _ _ (by simp) Q32.out (by decide) (by have := X31.out.2.1; simp; omega) X31.out.2.1).mono ?_
  rintro e w32 ⟨u, rfl, hS15, hb⟩
  replace hb := (bel1 w31 _).trans (hb.mono (by simp))
  clear Q32
  obtain ⟨gS15, lS15, rfl⟩ := hS15.form
  replace hS15 := dhid hS15
  replace hS1 := dhid (hS1.out.next hb)
  replace hS2 := dhid (hS2.out.next hb)
  replace hS3 := dhid (hS3.out.next hb)
  replace hS4 := dhid (hS4.out.next hb)
  replace hS5 := dhid (hS5.out.next hb)
  replace hS6 := dhid (hS6.out.next hb)
  replace hS7 := dhid (hS7.out.next hb)
  replace hS8 := dhid (hS8.out.next hb)
  replace hS9 := dhid (hS9.out.next hb)
  replace hS10 := dhid (hS10.out.next hb)
  replace hS11 := dhid (hS11.out.next hb)
  replace hS12 := dhid (hS12.out.next hb)
  replace hS13 := dhid (hS13.out.next hb)
  replace hS14 := dhid (hS14.out.next hb)
  clear hlo
  clear hl4
  clear hs4v
  clear hsa
  clear hcb
  clear hha
  have X32 := dhid (And.intro (X31.out.1.trans (hb.mono X31.out.1.size)) (And.intro (Nat.lt_of_lt_of_le X31.out.2.1 hb.size) ((hb.block _ X31.out.2.1).trans X31.out.2.2)))
  clear X31 hb
  go_wp2_with (refine wpList_store_rowD rfl _ _ _ rfl w.heap.size _ #[.nilFunc, .func (.func gS1) #[] lS1, .func (.func gS2) #[] lS2, .func (.func gS3) #[] lS3, .func (.func gS4) #[] lS4, .func (.func gS5) #[] lS5, .func (.func gS6) #[] lS6, .func (.func gS7) #[] lS7, .func (.func gS8) #[] lS8, .func (.func gS9) #[] lS9, .func (.func gS10) #[] lS10, .func (.func gS11) #[] lS11, .func (.func gS12) #[] lS12, .func (.func gS13) #[] lS13, .func (.func gS14) #[] lS14, .func (.func gS15) #[] lS15] rfl rfl X32.out.2.2 (by rw [sizeSh]; rfl) rfl (by simp [Value.oneCell']) ?_)
  have hk := KpSetRow (S := fun i => i = w.heap.size) w32 w.heap.size #[.nilFunc, .func (.func gS1) #[] lS1, .func (.func gS2) #[] lS2, .func (.func gS3) #[] lS3, .func (.func gS4) #[] lS4, .func (.func gS5) #[] lS5, .func (.func gS6) #[] lS6, .func (.func gS7) #[] lS7, .func (.func gS8) #[] lS8, .func (.func gS9) #[] lS9, .func (.func gS10) #[] lS10, .func (.func gS11) #[] lS11, .func (.func gS12) #[] lS12, .func (.func gS13) #[] lS13, .func (.func gS14) #[] lS14, .func (.func gS15) #[] lS15] rfl
  have hB : Below w.heap.size w (w32.setRow w.heap.size #[.nilFunc, .func (.func gS1) #[] lS1, .func (.func gS2) #[] lS2, .func (.func gS3) #[] lS3, .func (.func gS4) #[] lS4, .func (.func gS5) #[] lS5, .func (.func gS6) #[] lS6, .func (.func gS7) #[] lS7, .func (.func gS8) #[] lS8, .func (.func gS9) #[] lS9, .func (.func gS10) #[] lS10, .func (.func gS11) #[] lS11, .func (.func gS12) #[] lS12, .func (.func gS13) #[] lS13, .func (.func gS14) #[] lS14, .func (.func gS15) #[] lS15]) := X32.out.1.trans (hk.below X32.out.1.size (fun i e => by omega))
  refine bodyPost_ret (resSh (p := 0) (by kernel_rfl) _ w.heap.size #[.nilFunc, .func (.func gS1) #[] lS1, .func (.func gS2) #[] lS2, .func (.func gS3) #[] lS3, .func (.func gS4) #[] lS4, .func (.func gS5) #[] lS5, .func (.func gS6) #[] lS6, .func (.func gS7) #[] lS7, .func (.func gS8) #[] lS8, .func (.func gS9) #[] lS9, .func (.func gS10) #[] lS10, .func (.func gS11) #[] lS11, .func (.func gS12) #[] lS12, .func (.func gS13) #[] lS13, .func (.func gS14) #[] lS14, .func (.func gS15) #[] lS15] rfl (setRow_heap _ _ _ _ _ _ X32.out.2.2) _ rfl) rfl ⟨_, rfl, rfl, ?_, ?_, hB⟩
  · intro k h1 h2
    have hF : Fr (w.heap.size + 1) w32 (w32.setRow w.heap.size #[.nilFunc, .func (.func gS1) #[] lS1, .func (.func gS2) #[] lS2, .func (.func gS3) #[] lS3, .func (.func gS4) #[] lS4, .func (.func gS5) #[] lS5, .func (.func gS6) #[] lS6, .func (.func gS7) #[] lS7, .func (.func gS8) #[] lS8, .func (.func gS9) #[] lS9, .func (.func gS10) #[] lS10, .func (.func gS11) #[] lS11, .func (.func gS12) #[] lS12, .func (.func gS13) #[] lS13, .func (.func gS14) #[] lS14, .func (.func gS15) #[] lS15]) := ⟨hk.size, fun i cs t fr q1 q2 => (hk.block i (Array.getElem?_eq_some_iff.1 q2).1 (by omega)).trans q2⟩
    have hc : k = 1 ∨ k = 2 ∨ k = 3 ∨ k = 4 ∨ k = 5 ∨ k = 6 ∨ k = 7 ∨ k = 8 ∨ k = 9 ∨ k = 10 ∨ k = 11 ∨ k = 12 ∨ k = 13 ∨ k = 14 ∨ k = 15 := by omega
    rcases hc with rfl | rfl | rfl | rfl | rfl | rfl | rfl | rfl | rfl | rfl | rfl | rfl | rfl | rfl | rfl
    · exact hS1.out.nextF hF
    · exact hS2.out.nextF hF
    · exact hS3.out.nextF hF
    · exact hS4.out.nextF hF
    · exact hS5.out.nextF hF
    · exact hS6.out.nextF hF
    · exact hS7.out.nextF hF
    · exact hS8.out.nextF hF
    · exact hS9.out.nextF hF
    · exact hS10.out.nextF hF
    · exact hS11.out.nextF hF
    · exact hS12.out.nextF hF
    · exact hS13.out.nextF hF
    · exact hS14.out.nextF hF
    · exact hS15.out.nextF hF
  · intro k h1
    have hc : k = 0 ∨ k = 1 ∨ k = 2 ∨ k = 3 ∨ k = 4 ∨ k = 5 ∨ k = 6 ∨ k = 7 ∨ k = 8 ∨ k = 9 ∨ k = 10 ∨ k = 11 ∨ k = 12 ∨ k = 13 ∨ k = 14 ∨ k = 15 := by omega
    rcases hc with rfl | rfl | rfl | rfl | rfl | rfl | rfl | rfl | rfl | rfl | rfl | rfl | rfl | rfl | rfl | rfl <;> rfl
end Go.Proofs.Ytonmoidalkcmoaa
