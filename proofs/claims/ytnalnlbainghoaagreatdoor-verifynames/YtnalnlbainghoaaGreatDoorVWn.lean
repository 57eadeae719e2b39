import Derived.Test.YtnalnlbainghoaaGreatDoorFDp
import Derived.Test.YtnalnlbainghoaaGreatDoorCVRw
namespace Go.Proofs.YtnalnlbainghoaaGreatDoor
open Go.RowKit Go.WideShapes Go.Shelf
set_option maxRecDepth 100000
attribute [local go_sem] Oper.semAt_some

/-- a procedure with its need -/
abbrev Pn := Nat × Nat × Nat × Int
/-- procedures with their needs, as they lie in memory -/
def pnv (P : List Pn) : List Value := P.flatMap fun p => [.int .u32 (p.1 : Nat), .int .u32 (p.2.1 : Nat), .int .u32 (p.2.2.1 : Nat), .int .i64 p.2.2.2]
theorem pnv_append (P Q : List Pn) : pnv (P ++ Q) = pnv P ++ pnv Q := by simp [pnv]
theorem pnv_len (P : List Pn) : (pnv P).length = P.length * 4 := by
  induction P with
  | nil => rfl
  | cons a t ih => simp only [pnv, List.flatMap_cons, List.length_append, List.length_cons, List.length_nil] at *; omega
theorem pnv_all (d : Pn) : ∀ (P : List Pn) (m : Nat), m < P.length → (pnv P)[m * 4]? = some (.int .u32 ((P.getD m d).1 : Nat)) ∧ (pnv P)[m * 4 + 1]? = some (.int .u32 ((P.getD m d).2.1 : Nat)) ∧ (pnv P)[m * 4 + 2]? = some (.int .u32 ((P.getD m d).2.2.1 : Nat)) ∧ (pnv P)[m * 4 + 3]? = some (.int .i64 (P.getD m d).2.2.2)
  | [], m, h => by simp at h
  | a :: t, 0, _ => ⟨rfl, rfl, rfl, rfl⟩
  | a :: t, m + 1, h => by
    have := pnv_all d t m (by simpa using h)
    rw [show (m + 1) * 4 = m * 4 + 4 by omega]
    simpa [pnv] using this
/-- the first k procedures with their needs -/
def pnL (Ps : List (Nat × Nat × Nat)) (N : List Int) (k : Nat) : List Pn := (List.range k).map fun i => ((Ps.getD i (0, 0, 0)).1, (Ps.getD i (0, 0, 0)).2.1, (Ps.getD i (0, 0, 0)).2.2, N.getD i 0)
theorem pnL_len (Ps : List (Nat × Nat × Nat)) (N : List Int) (k : Nat) : (pnL Ps N k).length = k := by simp [pnL]
theorem pnL_succ (Ps : List (Nat × Nat × Nat)) (N : List Int) (k : Nat) : pnL Ps N (k + 1) = pnL Ps N k ++ [((Ps.getD k (0, 0, 0)).1, (Ps.getD k (0, 0, 0)).2.1, (Ps.getD k (0, 0, 0)).2.2, N.getD k 0)] := by
  unfold pnL
  rw [List.range_succ, List.map_append]
  rfl
theorem pnL_get (Ps : List (Nat × Nat × Nat)) (N : List Int) {n k : Nat} (h : k < n) (d : Pn) : (pnL Ps N n).getD k d = ((Ps.getD k (0, 0, 0)).1, (Ps.getD k (0, 0, 0)).2.1, (Ps.getD k (0, 0, 0)).2.2, N.getD k 0) := by
  simp [pnL, List.getD_eq_getElem?_getD, h]
/-- what abides while the procedures get their needs -/
def WnI (w4 : World) (kp pp : Nat) (Ps : List (Nat × Nat × Nat)) (N : List Int) (pre : List Nat) (U : World) : Prop :=
  Kp (fun i => i = kp) w4 U ∧ ∃ v, U.heap[kp]? = some (.cells #[.pointer (some ⟨pp, 0, none⟩), v] 53 (0, 0)) ∧ U.ownsRow w4.heap.size 39 4 v pre.length (pnv (pnL Ps N pre.length))
theorem WnI.step {w4 : World} {kp pp : Nat} {Ps : List (Nat × Nat × Nat)} {N : List Int} {pre : List Nat} {A C : World} {row : Option Nat} (h : WnI w4 kp pp Ps N pre A) (hg : A.grownBy C row) (hr : ∀ r, row = some r → w4.heap.size ≤ r ∧ ∃ o : Obj, A.heap[r]? = some o ∧ o.isCells = false) : WnI w4 kp pp Ps N pre C := by
  obtain ⟨h1, v, h2, h3⟩ := h
  have hk : Kp (fun k => row = some k) A C := Kp.ofGrown hg (fun i e _ => e)
  have no : ∀ b cs t fr, A.heap[b]? = some (.cells cs t fr) → ¬ row = some b := fun b cs t fr hb e => by
    obtain ⟨_, o, ho, hc⟩ := hr b e
    rw [hb] at ho
    cases ho
    cases hc
  refine ⟨h1.trans hk (fun i hi e => by have := (hr i e).1; omega), v, (hk.block kp (Array.getElem?_eq_some_iff.1 h2).1 (no _ _ _ _ h2)).trans h2, hk.own h3 (fun k e q => ?_)⟩
  rcases h3.2 with hn | ⟨g', cap', cur', e1, e2, e3, e4⟩
  · rw [hn.1] at e
    cases e
  · rw [e1] at e
    cases e
    exact no _ _ _ _ e3 q
theorem infoPn : (Tryz.prog.info? 39).map (fun i => (i.zero, i.size, i.bytes)) = some (some (.agg #[.int .u32 0, .int .u32 0, .int .u32 0, .int .i64 0]), 4, 24) := by kernel_rfl
theorem own_monoX {w : World} {B B' e sz n : Nat} {v : Value} {xs : List Value} (h : w.ownsRow B e sz v n xs) (hle : B' ≤ B) : w.ownsRow B' e sz v n xs :=
  ⟨h.1, h.2.imp id (fun ⟨g, cap, cur, a, b, c⟩ => ⟨g, cap, cur, a, Nat.le_trans hle b, c⟩)⟩
theorem new_cell (W : World) (cs : Array Value) (t j b : Nat) (hb : b = W.heap.size) : (W.alloc (.cells cs t)).cell? ((⟨b, 0, none⟩ : Addr).add j) = cs[j]? := by
  subst hb
  rw [add_plain, Nat.zero_add]
  exact obj_cell (heap_alloc_last W _) j
set_option maxHeartbeats 8000000 in
theorem wneeds_any {w : World} {B pp p1 g1 p2 g2 n : Nat} {lv : Value} {Ps : List (Nat × Nat × Nat)} {A C : List Nat} (hP : PrS w B pp p1 g1 p2 g2 n lv Ps A C) (hml : Ps.length ≤ 16384) (an : Option Addr) (cN : Nat) (N : List Int) (hN : N.length = Ps.length) (hnr : ∀ k, k < N.length → ∃ b off, an = some ⟨b, off, none⟩ ∧ b < w.heap.size ∧ w.cell? ⟨b, off + k, none⟩ = some (.int .i64 (N.getD k 0))) :
    Calls Tryz.prog 19 #[.pointer (some ⟨pp, 0, none⟩), .slice an N.length cN] w fun e w' => ∃ v, e = .returned (.agg #[.pointer (some ⟨pp, 0, none⟩), v]) ∧ w'.ownsRow w.heap.size 39 4 v Ps.length (pnv (pnL Ps N Ps.length)) ∧ Below w.heap.size w w' := by
  obtain ⟨al, capl, rfl, hrd⟩ := hP.reads
  have HA : Hid (∀ W, Below w.heap.size w W → CallsIn Fence.wide 29 Tryz.prog 49 #[.pointer (some ⟨pp, 0, none⟩)] W fun e w' => e = .returned (.func (.func 76) #[] #[.pointer (some ⟨W.heap.size, 0, none⟩)]) ∧ w' = W.alloc (.cells #[.slice al Ps.length capl] 36)) := hidS (fun W hW => callsIn_wide.2 (pall_any pp Ps.length capl al W (hP.below hW).c0 (hP.below hW).c1))
  have HH := hidS (And.intro hrd hnr)
  refine (callsIn_wide (n := 30)).1 ?_
  refine callsIn_of_wp_marks Tryz.func19 rfl trivial ?_ rfl
  simp only [Tryz.ntmps19, List.size_toArray, List.length_cons, List.length_nil, Nat.reduceAdd, Nat.reduceSub, Array.replicate_succ, Array.replicate_zero, List.push_toArray, List.append_toArray, List.nil_append, List.cons_append]
  have HNl := hidS hN
  clear hP hrd hnr hN
  gi_wp2_with fail
  refine ⟨trivial, (HA.out _ (belP (belP (belP (Below.refl _ _))))).mono ?_⟩
  rintro en w4 ⟨rfl, hw4⟩
  obtain ⟨kf, hkf⟩ : ∃ k, w.heap.size = k := ⟨_, rfl⟩
  have hb4 : Below w.heap.size w w4 := by rw [hw4]; exact belP (belP (belP (belP (Below.refl _ _))))
  have hz4 : w4.heap.size = kf + 4 := by rw [hw4, ← hkf]; simp only [World.size_alloc]
  have on4 : Boxed w4 kf 54 (.slice an N.length cN) := by
    rw [hw4, ← hkf]
    exact (((Boxed.new w 54 (.slice an N.length cN)).alloc _).alloc _).alloc _
  have or4 : w4.heap[kf + 1]? = some (.cells #[.pointer none, .slice none 0 0] 53 (0, 0)) := by
    have := heap_alloc_new (w.alloc (Obj.cells #[.slice an N.length cN] 54)) (Obj.cells #[.pointer none, .slice none 0 0] 53)
    rw [World.size_alloc, hkf] at this
    rw [hw4, Below.heap_alloc _ _ _ (by simp only [World.size_alloc]; omega), Below.heap_alloc _ _ _ (by simp only [World.size_alloc]; omega)]
    exact this
  have op4 : w4.heap[kf + 2]? = some (.cells #[.pointer (some ⟨pp, 0, none⟩), .slice none 0 0] 53 (0, 0)) := by
    have := heap_alloc_new ((w.alloc (Obj.cells #[.slice an N.length cN] 54)).alloc (Obj.cells #[.pointer none, .slice none 0 0] 53)) (Obj.cells #[.pointer (some ⟨pp, 0, none⟩), .slice none 0 0] 53)
    rw [World.size_alloc, World.size_alloc, hkf] at this
    rw [hw4, Below.heap_alloc _ _ _ (by simp only [World.size_alloc]; omega)]
    exact this
  have ol4 : Boxed w4 (kf + 3) 36 (.slice al Ps.length capl) := by
    have := Boxed.new (((w.alloc (Obj.cells #[.slice an N.length cN] 54)).alloc (Obj.cells #[.pointer none, .slice none 0 0] 53)).alloc (Obj.cells #[.pointer (some ⟨pp, 0, none⟩), .slice none 0 0] 53)) 36 (.slice al Ps.length capl)
    rw [World.size_alloc, World.size_alloc, World.size_alloc, hkf] at this
    rw [hw4]
    exact this
  simp only [World.size_alloc, Nat.add_assoc, Nat.reduceAdd]
  rw [hkf] at hb4 ⊢
  have HIN : Hid (∀ V, Kp (fun i => i = kf + 2) w4 V → InA Ps (kf + 3) al capl kf V ∧ Below kf w V) := hidS (fun V hk => by
    have hbV : Below kf w V := hb4.trans (hk.below (by omega) (fun i e => by omega))
    have := HH.out.1
    rw [hkf] at this
    exact ⟨⟨(hk.block (kf + 3) ol4.lt (by show ¬ _ = kf + 2; omega)).trans ol4, this.below hbV⟩, hbV⟩)
  clear hw4 HA
  gi_wp2_with fail
  refine with_tmpsP fun T hT => ?_
  have HT := hidS hT
  clear hT
  refine range_outer (F := Fence.wide) rfl (by decide) (gf := 76) (lb := #[.pointer (some ⟨kf + 3, 0, none⟩)]) (by rw [HT.out]; rfl) trivial (enters_of Tryz.func76 (by kernel_rfl) rfl)
    (seqA (30 - 1) (by decide) (kf + 3) kf al capl Ps w4 hml (HIN.out w4 (Kp.refl _ _)).1 (by omega)) KeA_t (KeA_b (w := w4)) (Below.refl _ _) (fun _ => rfl)
    (WnI w4 (kf + 2) pp Ps N)
    (fun c pre U => False)
    (fun s A C row h hg hr => h.step hg hr)
    (fun c s A C row h hg hr => h)
    ⟨Kp.refl _ _, .slice none 0 0, op4, World.ownsRow_nil _ _ _ _⟩
    (fun x a' U => ∃ kp, w4.heap.size ≤ kp ∧ a' = { tmps := (((((#[12, 13] : Array Tmp).zip (encP Ps x)).foldl (fun t (p, v) => t.setIfInBounds p v) T).setIfInBounds 6 (.int .i64 x)).setIfInBounds 7 (.pointer (some ⟨kp, 0, none⟩))), defers := [] } ∧ U.heap[kp]? = some (.cells #[.int .u32 ((Ps.getD x (0, 0, 0)).1 : Nat), .int .u32 ((Ps.getD x (0, 0, 0)).2.1 : Nat), .int .u32 ((Ps.getD x (0, 0, 0)).2.2 : Nat), .int .i64 0] 39 (0, 0)) ∧ (∀ v, U.heap[kf + 2]? = some (.cells #[.pointer (some ⟨pp, 0, none⟩), v] 53 (0, 0)) → v.ownBlock ≠ some kp))
    (fun x a' s A C row h hg hr => by
      obtain ⟨kp, h1, h2, h3, h4⟩ := h
      exact ⟨kp, h1, h2, cells_kept h3 hg (fun r e => (hr r e).2), fun v hv => h4 v ((hg.block (kf + 2) (by have := (Array.getElem?_eq_some_iff.1 h3).1; omega) (fun e => by have := (hr _ e.symm).1; omega)).symm.trans hv)⟩)
    ?assign ?body ?done (fun D c pre W _ _ h _ => h.elim)
  case assign =>
    intro l0 pre x V K hI hK
    have HF := hidS (fun kp W' (a : Act) e1 e2 e3 (h1 : w4.heap.size ≤ kp) h2 h3 h4 => hK a W' e1 e2 e3 ⟨kp, h1, h2, h3, h4⟩)
    clear hK
    obtain ⟨pb, pe, pf, hq⟩ : ∃ pb pe pf, Ps.getD x (0, 0, 0) = (pb, pe, pf) := ⟨_, _, _, rfl⟩
    simp only [encP, hq] at HF ⊢
    rw [HT.out] at HF ⊢
    have HII := hidS (And.intro (hI.step (World.grownBy_alloc V (Obj.cells #[.int .u32 (pb : Int), .int .u32 (pe : Int), .int .u32 (pf : Int), .int .i64 0] 39) none) (fun r e => by cases e)) hI.1.size)
    have HNE : Hid (∀ v, (V.alloc (Obj.cells #[.int .u32 (pb : Int), .int .u32 (pe : Int), .int .u32 (pf : Int), .int .i64 0] 39)).heap[kf + 2]? = some (.cells #[.pointer (some ⟨pp, 0, none⟩), v] 53 (0, 0)) → v.ownBlock ≠ some V.heap.size) := hidS (fun v hv e => by
      obtain ⟨h1, v0, h2, h3⟩ := hI
      rw [Below.heap_alloc _ _ _ (Array.getElem?_eq_some_iff.1 h2).1, h2] at hv
      simp only [Option.some.injEq, Obj.cells.injEq, Array.mk.injEq, List.cons.injEq, and_true, true_and] at hv
      rw [← hv] at e
      have := (h3.lt _ e).2
      omega)
    clear hI
    gi_wp2
    exact HF.out V.heap.size _ _ (Upon.alloc _ _ _) (fun h => h.step (World.grownBy_alloc _ _ none) (fun r e => by cases e)) HII.out.1 HII.out.2 (by simp) (heap_alloc_new V _) HNE.out
  case body =>
    rintro l0 pre x a' U hl0 hrec ⟨h1, v, h2, h3⟩ ⟨kp, hkp, rfl, hobj, hne⟩ hln hsp
    obtain ⟨hxp, hxm⟩ := range_at hsp
    subst hxp
    have hbU := (HIN.out U h1).2
    have hnv := hne v h2
    obtain ⟨bn, offn, rfl, hbn, hcn⟩ := HH.out.2 pre.length (by rw [HNl.out]; exact hxm)
    rw [hkf] at hbn
    have cn : U.cell? ⟨bn, offn + pre.length, none⟩ = some (.int .i64 (N.getD pre.length 0)) := (hbU.cell (p := ⟨bn, offn + pre.length, none⟩) hbn).trans hcn
    have hxN : pre.length < N.length := by rw [HNl.out]; exact hxm
    have cb : U.cell? ⟨kf, 0, none⟩ = some (.slice (some ⟨bn, offn, none⟩) N.length cN) := (h1.cell (p := ⟨kf, 0, none⟩) on4.lt (by show ¬ kf = kf + 2; omega)).trans on4.cell
    obtain ⟨i0, hi0, hy0, hy1, hy2⟩ := info_parts infoPn
    obtain ⟨la, lc, hlv⟩ : ∃ la lc, v = .slice la pre.length lc := by
      rcases h3.2 with ⟨hn, hz⟩ | ⟨g', cap', cur', e1, e2⟩
      · exact ⟨none, 0, by rw [hn, hz]⟩
      · exact ⟨_, _, e1⟩
    subst hlv
    generalize hnd : N.getD pre.length 0 = nd at cn
    obtain ⟨pb, pe, pf, hq⟩ : ∃ pb pe pf, Ps.getD pre.length (0, 0, 0) = (pb, pe, pf) := ⟨_, _, _, rfl⟩
    simp only [encP, hq] at hobj ⊢
    have hkpl : kp < U.heap.size := (Array.getElem?_eq_some_iff.1 hobj).1
    have hkp2 : kp ≠ kf + 2 := by omega
    have q0 : U.cell? ⟨kp, 0, none⟩ = some (.int .u32 (pb : Nat)) := (obj_cell hobj 0).trans rfl
    have q1 : U.cell? ⟨kp, 1, none⟩ = some (.int .u32 (pe : Nat)) := (obj_cell hobj 1).trans rfl
    have q2 : U.cell? ⟨kp, 2, none⟩ = some (.int .u32 (pf : Nat)) := (obj_cell hobj 2).trans rfl
    have q3 : U.cell? ⟨kp, 3, none⟩ = some (.int .i64 0) := (obj_cell hobj 3).trans rfl
    have f3 := obj_frozen hobj 3
    obtain ⟨U1, hU1⟩ : ∃ U1, U.setCell ⟨kp, 3, none⟩ (.int .i64 nd) = U1 := ⟨_, rfl⟩
    have hk1 : Kp (fun i => i = kp) U U1 := by rw [← hU1]; exact Kp.setCell _ _ _ rfl
    have hz1 : U1.heap.size = U.heap.size := by rw [← hU1]; simp
    have ob1 : U1.heap[kp]? = some (.cells #[.int .u32 (pb : Nat), .int .u32 (pe : Nat), .int .u32 (pf : Nat), .int .i64 nd] 39 (0, 0)) := by rw [← hU1, heap_setCell_same U kp 3 _ _ _ hobj]; rfl
    have m0 : U1.cell? ⟨kp, 0, none⟩ = some (.int .u32 (pb : Nat)) := (obj_cell ob1 0).trans rfl
    have m1 : U1.cell? ⟨kp, 1, none⟩ = some (.int .u32 (pe : Nat)) := (obj_cell ob1 1).trans rfl
    have m2 : U1.cell? ⟨kp, 2, none⟩ = some (.int .u32 (pf : Nat)) := (obj_cell ob1 2).trans rfl
    have m3 : U1.cell? ⟨kp, 3, none⟩ = some (.int .i64 nd) := (obj_cell ob1 3).trans rfl
    have hp1 : U1.heap[kf + 2]? = some (.cells #[.pointer (some ⟨pp, 0, none⟩), .slice la pre.length lc] 53 (0, 0)) := (hk1.block (kf + 2) (Array.getElem?_eq_some_iff.1 h2).1 (fun e => hkp2 e.symm)).trans h2
    have cl1 : U1.cell? ⟨kf + 2, 1, none⟩ = some (.slice la pre.length lc) := (obj_cell hp1 1).trans rfl
    have own1 := hk1.own h3 (fun k e (q : k = kp) => hnv (by rw [← q]; exact e))
    subst hU1
    have HU := hidS (And.intro h1 (And.intro hk1 (And.intro hp1 own1)))
    have hUz := h1.size
    have HQn := hidS (And.intro hnd hq)
    clear h1 h2 h3 hobj hne hrec hln hsp hbU hk1 hp1 ob1 hnd hq
    rw [HT.out]
    have hxI : (pre.length : Int) < (N.length : Int) := by omega
    gi_wp2_with (gi_at_builtin; refine wpListIn_append_own _ rfl _ _ 36 rfl w4.heap.size 39 i0 (.agg #[.int .u32 0, .int .u32 0, .int .u32 0, .int .i64 0]) 4 24 Tryz.underlying36 hi0 hy0 hy1 hy2 rfl (by decide) _ _ _ rfl (own1.alloc _) ⟨_, 0, none⟩ 1 1 [.int .u32 (pb : Nat), .int .u32 (pe : Nat), .int .u32 (pf : Nat), .int .i64 nd] rfl rfl ?g1 ?g2 ?g3 ?g4 ?g5 ?_)
    case g1 =>
      intro j u hj
      match j, hj with
      | 0, hj => simp at hj; subst hj; exact (new_cell _ _ _ _ _ (by simp)).trans rfl
      | 1, hj => simp at hj; subst hj; exact (new_cell _ _ _ _ _ (by simp)).trans rfl
      | 2, hj => simp at hj; subst hj; exact (new_cell _ _ _ _ _ (by simp)).trans rfl
      | 3, hj => simp at hj; subst hj; exact (new_cell _ _ _ _ _ (by simp)).trans rfl
    case g2 => intro u hu; simp at hu; rcases hu with rfl | rfl | rfl | rfl <;> rfl
    case g3 => unfold maxLen; omega
    case g4 => omega
    case g5 => simp; omega
    intro v' W1 own2 hg2 _
    obtain ⟨h1, hk1, hp1, ownx⟩ := HU.out
    generalize hU1 : U.setCell ⟨kp, 3, none⟩ (.int .i64 nd) = U1 at *
    have hkW : Kp (fun k => (Value.slice la pre.length lc).ownBlock = some k) U1 W1 := (Kp.alloc U1 _).trans (Kp.ofGrown (S := fun k => (Value.slice la pre.length lc).ownBlock = some k) hg2 (fun i e _ => e)) (fun _ _ q => q)
    have hlo : ∀ k, (Value.slice la pre.length lc).ownBlock = some k → w4.heap.size ≤ k ∧ ∃ cs t fr, U1.heap[k]? = some (.cells cs t fr) := fun k e => by
      refine ⟨(ownx.lt k e).1, ?_⟩
      rcases ownx.2 with hn | ⟨g', cap', cur', e1, e2, e3, e4⟩
      · rw [hn.1] at e
        cases e
      · rw [e1] at e
        cases e
        exact ⟨_, _, _, e3⟩
    have hpW : W1.heap[kf + 2]? = some (.cells #[.pointer (some ⟨pp, 0, none⟩), .slice la pre.length lc] 53 (0, 0)) := (hkW.block (kf + 2) (Array.getElem?_eq_some_iff.1 hp1).1 (fun e => by have := (hlo _ e).1; omega)).trans hp1
    have c4 : W1.cell? ⟨kf + 2, 1, none⟩ = some (.slice la pre.length lc) := (obj_cell hpW 1).trans rfl
    have f4 := obj_frozen hpW 1
    have HKW := hidS (And.intro hkW (And.intro hlo (And.intro hpW (And.intro own2 (And.intro h1 hk1)))))
    obtain ⟨g, gc, hv'⟩ : ∃ g gc, v' = .slice (some ⟨g, 0, none⟩) (pre.length + 1) gc := by
      rcases own2.2 with ⟨_, hz⟩ | ⟨g', cap', cur', e1, _⟩
      · omega
      · exact ⟨_, _, e1⟩
    subst hv'
    clear hkW hlo hpW own2 hg2 h1 hk1 hp1 ownx own1 HU m0 m1 m2 m3 q0 q1 q2 q3 f3 cl1 cn cb
    gi_wp2
    obtain ⟨hkW, hlo, hpW, own2, h1, hk1⟩ := HKW.out
    have hks := Kp.setCell (S := fun i => i = kf + 2) W1 ⟨kf + 2, 1, none⟩ (.slice (some ⟨g, 0, none⟩) (pre.length + 1) gc) rfl
    have hk2 : Kp (fun i => i = kf + 2) w4 (W1.setCell ⟨kf + 2, 1, none⟩ (.slice (some ⟨g, 0, none⟩) (pre.length + 1) gc)) := ((h1.trans hk1 (fun i hi (q : i = kp) => by omega)).trans hkW (fun i hi q => by have := (hlo i q).1; omega)).trans hks (fun _ _ q => q)
    have hup : Upon w4.heap.size U (W1.setCell ⟨kf + 2, 1, none⟩ (.slice (some ⟨g, 0, none⟩) (pre.length + 1) gc)) := by
      rw [← hU1] at hkW hlo
      exact ((Upon.setCell _ _ _).trans (upon_kp hkW (fun i e => (hlo i e).2))).trans (Upon.setCell _ _ _)
    refine ⟨hup, fun _ => (HIN.out _ hk2).1, hk2, .slice (some ⟨g, 0, none⟩) (pre.length + 1) gc, ?_, ?_⟩
    · rw [heap_setCell_same W1 (kf + 2) 1 _ _ _ hpW]; rfl
    · rw [List.length_append, List.length_singleton, pnL_succ, pnv_append, HQn.out.1, HQn.out.2, hz4]
      exact ownsRow_setCell_below (a := ⟨kf + 2, 1, none⟩) own2 (by show kf + 2 < _; omega) _
  case done =>
    rintro D1 xs U hD hS ⟨h1, v, h2, h3⟩ hd
    subst hS
    rw [List.length_range] at h3
    have c0 : U.cell? ⟨kf + 2, 0, none⟩ = some (.pointer (some ⟨pp, 0, none⟩)) := (obj_cell h2 0).trans rfl
    have c1 : U.cell? ⟨kf + 2, 1, none⟩ = some v := (obj_cell h2 1).trans rfl
    have or1 := (h1.block (kf + 1) (Array.getElem?_eq_some_iff.1 or4).1 (by show ¬ kf + 1 = kf + 2; omega)).trans or4
    obtain ⟨la, lc, hlv⟩ : ∃ la lc, v = .slice la Ps.length lc := by
      rcases h3.2 with ⟨hn, hz⟩ | ⟨g', cap', cur', e1, e2⟩
      · exact ⟨none, 0, by rw [hn, hz]⟩
      · exact ⟨_, _, e1⟩
    subst hlv
    have r0 : U.cell? ⟨kf + 1, 0, none⟩ = some (.pointer none) := (obj_cell or1 0).trans rfl
    have f0 := obj_frozen or1 0
    have or2 : (U.setCell ⟨kf + 1, 0, none⟩ (.pointer (some ⟨pp, 0, none⟩))).heap[kf + 1]? = some (.cells #[.pointer (some ⟨pp, 0, none⟩), .slice none 0 0] 53 (0, 0)) := by rw [heap_setCell_same U (kf + 1) 0 _ _ _ or1]; rfl
    have r1 : (U.setCell ⟨kf + 1, 0, none⟩ (.pointer (some ⟨pp, 0, none⟩))).cell? ⟨kf + 1, 1, none⟩ = some (.slice none 0 0) := (obj_cell or2 1).trans rfl
    have f1 := obj_frozen or2 1
    have or3 : ((U.setCell ⟨kf + 1, 0, none⟩ (.pointer (some ⟨pp, 0, none⟩))).setCell ⟨kf + 1, 1, none⟩ (.slice la Ps.length lc)).heap[kf + 1]? = some (.cells #[.pointer (some ⟨pp, 0, none⟩), .slice la Ps.length lc] 53 (0, 0)) := by rw [heap_setCell_same _ (kf + 1) 1 _ _ _ or2]; rfl
    have HD := hidS (And.intro h1 (And.intro h3 (And.intro hd or3)))
    clear h1 h2 h3 hd or1 or2 or3
    rw [HT.out]
    gi_wp2_with fail
    have HF : Hid ((((U.setCell ⟨kf + 1, 0, none⟩ (.pointer (some ⟨pp, 0, none⟩))).setCell ⟨kf + 1, 1, none⟩ (.slice la Ps.length lc)).putObj D1 (.deferred none)).heap[kf + 1]? = some (.cells #[.pointer (some ⟨pp, 0, none⟩), .slice la Ps.length lc] 53 (0, 0)) ∧ (((U.setCell ⟨kf + 1, 0, none⟩ (.pointer (some ⟨pp, 0, none⟩))).setCell ⟨kf + 1, 1, none⟩ (.slice la Ps.length lc)).putObj D1 (.deferred none)).ownsRow w.heap.size 39 4 (.slice la Ps.length lc) Ps.length (pnv (pnL Ps N Ps.length)) ∧ Below w.heap.size w (((U.setCell ⟨kf + 1, 0, none⟩ (.pointer (some ⟨pp, 0, none⟩))).setCell ⟨kf + 1, 1, none⟩ (.slice la Ps.length lc)).putObj D1 (.deferred none))) := hidS (by
      obtain ⟨h1, h3, hd, or3⟩ := HD.out
      generalize hU2 : (U.setCell ⟨kf + 1, 0, none⟩ (.pointer (some ⟨pp, 0, none⟩))).setCell ⟨kf + 1, 1, none⟩ (.slice la Ps.length lc) = U2 at *
      have hks : Kp (fun i => i = kf + 1) U U2 := by rw [← hU2]; exact (Kp.setCell (S := fun i => i = kf + 1) U ⟨kf + 1, 0, none⟩ _ rfl).trans (Kp.setCell (S := fun i => i = kf + 1) _ ⟨kf + 1, 1, none⟩ _ rfl) (fun _ _ q => q)
      have hkp : Kp (fun i => i = D1) U2 (U2.putObj D1 (.deferred none)) := Kp.ofGrown (grownBy_putObj' _ D1 (.deferred none)) (fun i e _ => by cases e; rfl)
      have hD1 : kf + 4 ≤ D1 := by omega
      have hk5 : Kp (fun i => kf ≤ i) w (U2.putObj D1 (.deferred none)) := ((((Kp.ofBelow (S := fun i => kf ≤ i) (by rw [hkf]; exact hb4)).trans h1 (fun i hi (q : i = kf + 2) => by show kf ≤ i; omega)).trans hks (fun i hi (q : i = kf + 1) => by show kf ≤ i; omega)).trans hkp (fun i hi (q : i = D1) => by show kf ≤ i; omega))
      refine ⟨(hkp.block (kf + 1) (Array.getElem?_eq_some_iff.1 or3).1 (by show ¬ kf + 1 = D1; omega)).trans or3, own_monoX (hkp.own (hks.own h3 (fun k e (q : k = kf + 1) => by have := (h3.lt k e).1; omega)) (fun k e (q : k = D1) => ?_)) (by omega), hk5.below (Nat.le_refl _) (fun i q => by rw [hkf]; exact q)⟩
      rcases h3.2 with hn | ⟨g', cap', cur', e1, e2, e3, e4⟩
      · rw [hn.1] at e
        cases e
      · rw [e1] at e
        cases e
        rw [show g' = D1 from q, hd] at e3
        cases e3)
    have HDd : Hid (((U.setCell ⟨kf + 1, 0, none⟩ (.pointer (some ⟨pp, 0, none⟩))).setCell ⟨kf + 1, 1, none⟩ (.slice la Ps.length lc)).heap[D1]? = some (.deferred (some []))) := hidS (((Below.heap_setCell _ _ _ _ (by show D1 ≠ kf + 1; omega)).trans (Below.heap_setCell _ _ _ _ (by show D1 ≠ kf + 1; omega))).trans HD.out.2.2.1)
    refine ⟨by simp, .inl ⟨_, _, rfl, run_takeDeferred HDd.out, ?_⟩⟩
    exact ⟨.agg #[.pointer (some ⟨pp, 0, none⟩), .slice la Ps.length lc], resVPd (p := 4) (by kernel_rfl) _ (kf + 1) _ rfl HF.out.1 _ rfl, _, rfl, HF.out.2.1, HF.out.2.2⟩
end Go.Proofs.YtnalnlbainghoaaGreatDoor
