import Derived.Test.YtgbpfejodpplbaaGreatDoorCFDp
import Derived.Test.YtgbpfejodpplbaaGreatDoorCVRw
import Derived.Test.YtgbpfejodpplbaaGreatDoorCPPr
import Derived.Test.YtgbpfejodpplbaaGreatDoorCFR8
import Derived.Test.YtgbpfejodpplbaaGreatDoorCPNk
import Derived.Test.YtgbpfejodpplbaaGreatDoorCFWy
import Derived.Deep.AppendLies
namespace Go.Proofs.YtgbpfejodpplbaaGreatDoor
open Go.RowKit Go.WideShapes Go.Shelf
set_option maxRecDepth 100000
attribute [local go_sem] Oper.semAt_some

/-- a procedure with its need -/
abbrev Pn := Nat × Nat × Nat × Int
/-- procedures with their needs, as they lie in memory -/
def pnv (P : List Pn) : List Value := P.flatMap fun p => [.int .u32 (p.1 : Nat), .int .u32 (p.2.1 : Nat), .int .u32 (p.2.2.1 : Nat), .int .i64 p.2.2.2]
theorem pnv_append (P Q : List Pn) : pnv (P ++ Q) = pnv P ++ pnv Q := by simp [pnv]
theorem pnv_len (P : List Pn) : (pnv P).length = P.length * 4 := by
  induction P with
  | nil => rfl
  | cons a t ih => simp only [pnv, List.flatMap_cons, List.length_append, List.length_cons, List.length_nil] at *; omega
theorem pnv_all (d : Pn) : ∀ (P : List Pn) (m : Nat), m < P.length → (pnv P)[m * 4]? = some (.int .u32 ((P.getD m d).1 : Nat)) ∧ (pnv P)[m * 4 + 1]? = some (.int .u32 ((P.getD m d).2.1 : Nat)) ∧ (pnv P)[m * 4 + 2]? = some (.int .u32 ((P.getD m d).2.2.1 : Nat)) ∧ (pnv P)[m * 4 + 3]? = some (.int .i64 (P.getD m d).2.2.2)
  | [], m, h => by simp at h
  | a :: t, 0, _ => ⟨rfl, rfl, rfl, rfl⟩
  | a :: t, m + 1, h => by
    have := pnv_all d t m (by simpa using h)
    rw [show (m + 1) * 4 = m * 4 + 4 by omega]
    simpa [pnv] using this
/-- the first k procedures with their needs -/
def pnL (Ps : List (Nat × Nat × Nat)) (N : List Int) (k : Nat) : List Pn := (List.range k).map fun i => ((Ps.getD i (0, 0, 0)).1, (Ps.getD i (0, 0, 0)).2.1, (Ps.getD i (0, 0, 0)).2.2, N.getD i 0)
theorem pnL_len (Ps : List (Nat × Nat × Nat)) (N : List Int) (k : Nat) : (pnL Ps N k).length = k := by simp [pnL]
theorem pnL_succ (Ps : List (Nat × Nat × Nat)) (N : List Int) (k : Nat) : pnL Ps N (k + 1) = pnL Ps N k ++ [((Ps.getD k (0, 0, 0)).1, (Ps.getD k (0, 0, 0)).2.1, (Ps.getD k (0, 0, 0)).2.2, N.getD k 0)] := by
  unfold pnL
  rw [List.range_succ, List.map_append]
  rfl
theorem pnL_get (Ps : List (Nat × Nat × Nat)) (N : List Int) {n k : Nat} (h : k < n) (d : Pn) : (pnL Ps N n).getD k d = ((Ps.getD k (0, 0, 0)).1, (Ps.getD k (0, 0, 0)).2.1, (Ps.getD k (0, 0, 0)).2.2, N.getD k 0) := by
  simp [pnL, List.getD_eq_getElem?_getD, h]
/-- what abides while the procedures get their needs -/
def WnI (w4 : World) (kp pp : Nat) (Ps : List (Nat × Nat × Nat)) (N : List Int) (pre : List Nat) (U : World) : Prop :=
  Kp (fun i => i = kp) w4 U ∧ ∃ v, U.heap[kp]? = some (.cells #[.pointer (some ⟨pp, 0, none⟩), v] 57 (0, 0)) ∧ U.ownsRow w4.heap.size 94 4 v pre.length (pnv (pnL Ps N pre.length))
theorem WnI.step {w4 : World} {kp pp : Nat} {Ps : List (Nat × Nat × Nat)} {N : List Int} {pre : List Nat} {A C : World} {row : Option Nat} (h : WnI w4 kp pp Ps N pre A) (hg : A.grownBy C row) (hr : ∀ r, row = some r → w4.heap.size ≤ r ∧ ∃ o : Obj, A.heap[r]? = some o ∧ o.isCells = false) : WnI w4 kp pp Ps N pre C := by
  obtain ⟨h1, v, h2, h3⟩ := h
  have hk : Kp (fun k => row = some k) A C := Kp.ofGrown hg (fun i e _ => e)
  have no : ∀ b cs t fr, A.heap[b]? = some (.cells cs t fr) → ¬ row = some b := fun b cs t fr hb e => by
    obtain ⟨_, o, ho, hc⟩ := hr b e
    rw [hb] at ho
    cases ho
    cases hc
  refine ⟨h1.trans hk (fun i hi e => by have := (hr i e).1; omega), v, (hk.block kp (Array.getElem?_eq_some_iff.1 h2).1 (no _ _ _ _ h2)).trans h2, hk.own h3 (fun k e q => ?_)⟩
  rcases h3.2 with hn | ⟨g', cap', cur', e1, e2, e3, e4⟩
  · rw [hn.1] at e
    cases e
  · rw [e1] at e
    cases e
    exact no _ _ _ _ e3 q
theorem infoPn : (Tryz.prog.info? 94).map (fun i => (i.zero, i.size, i.bytes)) = some (some (.agg #[.int .u32 0, .int .u32 0, .int .u32 0, .int .i64 0]), 4, 24) := by kernel_rfl
theorem own_monoX {w : World} {B B' e sz n : Nat} {v : Value} {xs : List Value} (h : w.ownsRow B e sz v n xs) (hle : B' ≤ B) : w.ownsRow B' e sz v n xs :=
  ⟨h.1, h.2.imp id (fun ⟨g, cap, cur, a, b, c⟩ => ⟨g, cap, cur, a, Nat.le_trans hle b, c⟩)⟩
theorem new_cell (W : World) (cs : Array Value) (t j b : Nat) (hb : b = W.heap.size) : (W.alloc (.cells cs t)).cell? ((⟨b, 0, none⟩ : Addr).add j) = cs[j]? := by
  subst hb
  rw [add_plain, Nat.zero_add]
  exact obj_cell (heap_alloc_last W _) j
set_option maxHeartbeats 8000000 in
theorem wneeds_any {w : World} {B pp p1 g1 p2 g2 n : Nat} {lv : Value} {Ps : List (Nat × Nat × Nat)} {A C : List Nat} (hP : PrS w B pp p1 g1 p2 g2 n lv Ps A C) (hml : Ps.length ≤ 16384) (an : Option Addr) (cN : Nat) (N : List Int) (hN : N.length = Ps.length) (hnr : ∀ k, k < N.length → ∃ b off, an = some ⟨b, off, none⟩ ∧ b < w.heap.size ∧ w.cell? ⟨b, off + k, none⟩ = some (.int .i64 (N.getD k 0))) :
    Calls Tryz.prog 14 #[.pointer (some ⟨pp, 0, none⟩), .slice an N.length cN] w fun e w' => ∃ v, e = .returned (.agg #[.pointer (some ⟨pp, 0, none⟩), v]) ∧ w'.ownsRow w.heap.size 94 4 v Ps.length (pnv (pnL Ps N Ps.length)) ∧ Below w.heap.size w w' := by
  obtain ⟨al, capl, rfl, hrd⟩ := hP.reads
  have HA : Hid (∀ W, Below w.heap.size w W → CallsIn Fence.wide 29 Tryz.prog 35 #[.pointer (some ⟨pp, 0, none⟩)] W fun e w' => e = .returned (.func (.func 57) #[] #[.pointer (some ⟨W.heap.size, 0, none⟩)]) ∧ w' = W.alloc (.cells #[.slice al Ps.length capl] 55)) := hidS (fun W hW => callsIn_wide.2 (pall_any pp Ps.length capl al W (hP.below hW).c0 (hP.below hW).c1))
  have HH := hidS (And.intro hrd hnr)
  refine (callsIn_wide (n := 30)).1 ?_
  refine callsIn_of_wp_marks Tryz.func14 rfl trivial ?_ rfl
  simp only [Tryz.ntmps14, List.size_toArray, List.length_cons, List.length_nil, Nat.reduceAdd, Nat.reduceSub, Array.replicate_succ, Array.replicate_zero, List.push_toArray, List.append_toArray, List.nil_append, List.cons_append]
  have HNl := hidS hN
  clear hP hrd hnr hN
  gi_wp2_with fail
  refine ⟨trivial, (HA.out _ (belP (belP (belP (Below.refl _ _))))).mono ?_⟩
  rintro en w4 ⟨rfl, hw4⟩
  obtain ⟨kf, hkf⟩ : ∃ k, w.heap.size = k := ⟨_, rfl⟩
  have hb4 : Below w.heap.size w w4 := by rw [hw4]; exact belP (belP (belP (belP (Below.refl _ _))))
  have hz4 : w4.heap.size = kf + 4 := by rw [hw4, ← hkf]; simp only [World.size_alloc]
  have on4 : Boxed w4 kf 52 (.slice an N.length cN) := by
    rw [hw4, ← hkf]
    exact (((Boxed.new w 52 (.slice an N.length cN)).alloc _).alloc _).alloc _
  have or4 : w4.heap[kf + 1]? = some (.cells #[.pointer none, .slice none 0 0] 57 (0, 0)) := by
    have := heap_alloc_new (w.alloc (Obj.cells #[.slice an N.length cN] 52)) (Obj.cells #[.pointer none, .slice none 0 0] 57)
    rw [World.size_alloc, hkf] at this
    rw [hw4, Below.heap_alloc _ _ _ (by simp only [World.size_alloc]; omega), Below.heap_alloc _ _ _ (by simp only [World.size_alloc]; omega)]
    exact this
  have op4 : w4.heap[kf + 2]? = some (.cells #[.pointer (some ⟨pp, 0, none⟩), .slice none 0 0] 57 (0, 0)) := by
    have := heap_alloc_new ((w.alloc (Obj.cells #[.slice an N.length cN] 52)).alloc (Obj.cells #[.pointer none, .slice none 0 0] 57)) (Obj.cells #[.pointer (some ⟨pp, 0, none⟩), .slice none 0 0] 57)
    rw [World.size_alloc, World.size_alloc, hkf] at this
    rw [hw4, Below.heap_alloc _ _ _ (by simp only [World.size_alloc]; omega)]
    exact this
  have ol4 : Boxed w4 (kf + 3) 55 (.slice al Ps.length capl) := by
    have := Boxed.new (((w.alloc (Obj.cells #[.slice an N.length cN] 52)).alloc (Obj.cells #[.pointer none, .slice none 0 0] 57)).alloc (Obj.cells #[.pointer (some ⟨pp, 0, none⟩), .slice none 0 0] 57)) 55 (.slice al Ps.length capl)
    rw [World.size_alloc, World.size_alloc, World.size_alloc, hkf] at this
    rw [hw4]
    exact this
  simp only [World.size_alloc, Nat.add_assoc, Nat.reduceAdd]
  rw [hkf] at hb4 ⊢
  have HIN : Hid (∀ V, Kp (fun i => i = kf + 2) w4 V → InA Ps (kf + 3) al capl kf V ∧ Below kf w V) := hidS (fun V hk => by
    have hbV : Below kf w V := hb4.trans (hk.below (by omega) (fun i e => by omega))
    have := HH.out.1
    rw [hkf] at this
    exact ⟨⟨(hk.block (kf + 3) ol4.lt (by show ¬ _ = kf + 2; omega)).trans ol4, this.below hbV⟩, hbV⟩)
  clear hw4 HA
  gi_wp2_with fail
  refine with_tmpsP fun T hT => ?_
  have HT := hidS hT
  clear hT
  refine range_outer (F := Fence.wide) rfl (by decide) (gf := 57) (lb := #[.pointer (some ⟨kf + 3, 0, none⟩)]) (by rw [HT.out]; rfl) trivial (enters_of Tryz.func57 (by kernel_rfl) rfl)
    (seqA (30 - 1) (by decide) (kf + 3) kf al capl Ps w4 hml (HIN.out w4 (Kp.refl _ _)).1 (by omega)) KeA_t (KeA_b (w := w4)) (Below.refl _ _) (fun _ => rfl)
    (WnI w4 (kf + 2) pp Ps N)
    (fun c pre U => False)
    (fun s A C row h hg hr => h.step hg hr)
    (fun c s A C row h hg hr => h)
    ⟨Kp.refl _ _, .slice none 0 0, op4, World.ownsRow_nil _ _ _ _⟩
    (fun x a' U => ∃ kp, w4.heap.size ≤ kp ∧ a' = { tmps := (((((#[12, 13] : Array Tmp).zip (encP Ps x)).foldl (fun t (p, v) => t.setIfInBounds p v) T).setIfInBounds 6 (.int .i64 x)).setIfInBounds 7 (.pointer (some ⟨kp, 0, none⟩))), defers := [] } ∧ U.heap[kp]? = some (.cells #[.int .u32 ((Ps.getD x (0, 0, 0)).1 : Nat), .int .u32 ((Ps.getD x (0, 0, 0)).2.1 : Nat), .int .u32 ((Ps.getD x (0, 0, 0)).2.2 : Nat), .int .i64 0] 94 (0, 0)) ∧ (∀ v, U.heap[kf + 2]? = some (.cells #[.pointer (some ⟨pp, 0, none⟩), v] 57 (0, 0)) → v.ownBlock ≠ some kp))
    (fun x a' s A C row h hg hr => by
      obtain ⟨kp, h1, h2, h3, h4⟩ := h
      exact ⟨kp, h1, h2, cells_kept h3 hg (fun r e => (hr r e).2), fun v hv => h4 v ((hg.block (kf + 2) (by have := (Array.getElem?_eq_some_iff.1 h3).1; omega) (fun e => by have := (hr _ e.symm).1; omega)).symm.trans hv)⟩)
    ?assign ?body ?done (fun D c pre W _ _ h _ => h.elim)
  case assign =>
    intro l0 pre x V K hI hK
    have HF := hidS (fun kp W' (a : Act) e1 e2 e3 (h1 : w4.heap.size ≤ kp) h2 h3 h4 => hK a W' e1 e2 e3 ⟨kp, h1, h2, h3, h4⟩)
    clear hK
    obtain ⟨pb, pe, pf, hq⟩ : ∃ pb pe pf, Ps.getD x (0, 0, 0) = (pb, pe, pf) := ⟨_, _, _, rfl⟩
    simp only [encP, hq] at HF ⊢
    rw [HT.out] at HF ⊢
    have HII := hidS (And.intro (hI.step (World.grownBy_alloc V (Obj.cells #[.int .u32 (pb : Int), .int .u32 (pe : Int), .int .u32 (pf : Int), .int .i64 0] 94) none) (fun r e => by cases e)) hI.1.size)
    have HNE : Hid (∀ v, (V.alloc (Obj.cells #[.int .u32 (pb : Int), .int .u32 (pe : Int), .int .u32 (pf : Int), .int .i64 0] 94)).heap[kf + 2]? = some (.cells #[.pointer (some ⟨pp, 0, none⟩), v] 57 (0, 0)) → v.ownBlock ≠ some V.heap.size) := hidS (fun v hv e => by
      obtain ⟨h1, v0, h2, h3⟩ := hI
      rw [Below.heap_alloc _ _ _ (Array.getElem?_eq_some_iff.1 h2).1, h2] at hv
      simp only [Option.some.injEq, Obj.cells.injEq, Array.mk.injEq, List.cons.injEq, and_true, true_and] at hv
      rw [← hv] at e
      have := (h3.lt _ e).2
      omega)
    clear hI
    gi_wp2
    exact HF.out V.heap.size _ _ (Upon.alloc _ _ _) (fun h => h.step (World.grownBy_alloc _ _ none) (fun r e => by cases e)) HII.out.1 HII.out.2 (by simp) (heap_alloc_new V _) HNE.out
  case body =>
    rintro l0 pre x a' U hl0 hrec ⟨h1, v, h2, h3⟩ ⟨kp, hkp, rfl, hobj, hne⟩ hln hsp
    obtain ⟨hxp, hxm⟩ := range_at hsp
    subst hxp
    have hbU := (HIN.out U h1).2
    have hnv := hne v h2
    obtain ⟨bn, offn, rfl, hbn, hcn⟩ := HH.out.2 pre.length (by rw [HNl.out]; exact hxm)
    rw [hkf] at hbn
    have cn : U.cell? ⟨bn, offn + pre.length, none⟩ = some (.int .i64 (N.getD pre.length 0)) := (hbU.cell (p := ⟨bn, offn + pre.length, none⟩) hbn).trans hcn
    have hxN : pre.length < N.length := by rw [HNl.out]; exact hxm
    have cb : U.cell? ⟨kf, 0, none⟩ = some (.slice (some ⟨bn, offn, none⟩) N.length cN) := (h1.cell (p := ⟨kf, 0, none⟩) on4.lt (by show ¬ kf = kf + 2; omega)).trans on4.cell
    obtain ⟨i0, hi0, hy0, hy1, hy2⟩ := info_parts infoPn
    obtain ⟨la, lc, hlv⟩ : ∃ la lc, v = .slice la pre.length lc := by
      rcases h3.2 with ⟨hn, hz⟩ | ⟨g', cap', cur', e1, e2⟩
      · exact ⟨none, 0, by rw [hn, hz]⟩
      · exact ⟨_, _, e1⟩
    subst hlv
    generalize hnd : N.getD pre.length 0 = nd at cn
    obtain ⟨pb, pe, pf, hq⟩ : ∃ pb pe pf, Ps.getD pre.length (0, 0, 0) = (pb, pe, pf) := ⟨_, _, _, rfl⟩
    simp only [encP, hq] at hobj ⊢
    have hkpl : kp < U.heap.size := (Array.getElem?_eq_some_iff.1 hobj).1
    have hkp2 : kp ≠ kf + 2 := by omega
    have q0 : U.cell? ⟨kp, 0, none⟩ = some (.int .u32 (pb : Nat)) := (obj_cell hobj 0).trans rfl
    have q1 : U.cell? ⟨kp, 1, none⟩ = some (.int .u32 (pe : Nat)) := (obj_cell hobj 1).trans rfl
    have q2 : U.cell? ⟨kp, 2, none⟩ = some (.int .u32 (pf : Nat)) := (obj_cell hobj 2).trans rfl
    have q3 : U.cell? ⟨kp, 3, none⟩ = some (.int .i64 0) := (obj_cell hobj 3).trans rfl
    have f3 := obj_frozen hobj 3
    obtain ⟨U1, hU1⟩ : ∃ U1, U.setCell ⟨kp, 3, none⟩ (.int .i64 nd) = U1 := ⟨_, rfl⟩
    have hk1 : Kp (fun i => i = kp) U U1 := by rw [← hU1]; exact Kp.setCell _ _ _ rfl
    have hz1 : U1.heap.size = U.heap.size := by rw [← hU1]; simp
    have ob1 : U1.heap[kp]? = some (.cells #[.int .u32 (pb : Nat), .int .u32 (pe : Nat), .int .u32 (pf : Nat), .int .i64 nd] 94 (0, 0)) := by rw [← hU1, heap_setCell_same U kp 3 _ _ _ hobj]; rfl
    have m0 : U1.cell? ⟨kp, 0, none⟩ = some (.int .u32 (pb : Nat)) := (obj_cell ob1 0).trans rfl
    have m1 : U1.cell? ⟨kp, 1, none⟩ = some (.int .u32 (pe : Nat)) := (obj_cell ob1 1).trans rfl
    have m2 : U1.cell? ⟨kp, 2, none⟩ = some (.int .u32 (pf : Nat)) := (obj_cell ob1 2).trans rfl
    have m3 : U1.cell? ⟨kp, 3, none⟩ = some (.int .i64 nd) := (obj_cell ob1 3).trans rfl
    have hp1 : U1.heap[kf + 2]? = some (.cells #[.pointer (some ⟨pp, 0, none⟩), .slice la pre.length lc] 57 (0, 0)) := (hk1.block (kf + 2) (Array.getElem?_eq_some_iff.1 h2).1 (fun e => hkp2 e.symm)).trans h2
    have cl1 : U1.cell? ⟨kf + 2, 1, none⟩ = some (.slice la pre.length lc) := (obj_cell hp1 1).trans rfl
    have own1 := hk1.own h3 (fun k e (q : k = kp) => hnv (by rw [← q]; exact e))
    subst hU1
    have HU := hidS (And.intro h1 (And.intro hk1 (And.intro hp1 own1)))
    have hUz := h1.size
    have HQn := hidS (And.intro hnd hq)
    clear h1 h2 h3 hobj hne hrec hln hsp hbU hk1 hp1 ob1 hnd hq
    rw [HT.out]
    have hxI : (pre.length : Int) < (N.length : Int) := by omega
    gi_wp2_with (gi_at_builtin; refine wpListIn_append_own _ rfl _ _ 55 rfl w4.heap.size 94 i0 (.agg #[.int .u32 0, .int .u32 0, .int .u32 0, .int .i64 0]) 4 24 Tryz.underlying55 hi0 hy0 hy1 hy2 rfl (by decide) _ _ _ rfl (own1.alloc _) ⟨_, 0, none⟩ 1 1 [.int .u32 (pb : Nat), .int .u32 (pe : Nat), .int .u32 (pf : Nat), .int .i64 nd] rfl rfl ?g1 ?g2 ?g3 ?g4 ?g5 ?_)
    case g1 =>
      intro j u hj
      match j, hj with
      | 0, hj => simp at hj; subst hj; exact (new_cell _ _ _ _ _ (by simp)).trans rfl
      | 1, hj => simp at hj; subst hj; exact (new_cell _ _ _ _ _ (by simp)).trans rfl
      | 2, hj => simp at hj; subst hj; exact (new_cell _ _ _ _ _ (by simp)).trans rfl
      | 3, hj => simp at hj; subst hj; exact (new_cell _ _ _ _ _ (by simp)).trans rfl
    case g2 => intro u hu; simp at hu; rcases hu with rfl | rfl | rfl | rfl <;> rfl
    case g3 => unfold maxLen; omega
    case g4 => omega
    case g5 => simp; omega
    intro v' W1 own2 hg2 _
    obtain ⟨h1, hk1, hp1, ownx⟩ := HU.out
    generalize hU1 : U.setCell ⟨kp, 3, none⟩ (.int .i64 nd) = U1 at *
    have hkW : Kp (fun k => (Value.slice la pre.length lc).ownBlock = some k) U1 W1 := (Kp.alloc U1 _).trans (Kp.ofGrown (S := fun k => (Value.slice la pre.length lc).ownBlock = some k) hg2 (fun i e _ => e)) (fun _ _ q => q)
    have hlo : ∀ k, (Value.slice la pre.length lc).ownBlock = some k → w4.heap.size ≤ k ∧ ∃ cs t fr, U1.heap[k]? = some (.cells cs t fr) := fun k e => by
      refine ⟨(ownx.lt k e).1, ?_⟩
      rcases ownx.2 with hn | ⟨g', cap', cur', e1, e2, e3, e4⟩
      · rw [hn.1] at e
        cases e
      · rw [e1] at e
        cases e
        exact ⟨_, _, _, e3⟩
    have hpW : W1.heap[kf + 2]? = some (.cells #[.pointer (some ⟨pp, 0, none⟩), .slice la pre.length lc] 57 (0, 0)) := (hkW.block (kf + 2) (Array.getElem?_eq_some_iff.1 hp1).1 (fun e => by have := (hlo _ e).1; omega)).trans hp1
    have c4 : W1.cell? ⟨kf + 2, 1, none⟩ = some (.slice la pre.length lc) := (obj_cell hpW 1).trans rfl
    have f4 := obj_frozen hpW 1
    have HKW := hidS (And.intro hkW (And.intro hlo (And.intro hpW (And.intro own2 (And.intro h1 hk1)))))
    obtain ⟨g, gc, hv'⟩ : ∃ g gc, v' = .slice (some ⟨g, 0, none⟩) (pre.length + 1) gc := by
      rcases own2.2 with ⟨_, hz⟩ | ⟨g', cap', cur', e1, _⟩
      · omega
      · exact ⟨_, _, e1⟩
    subst hv'
    clear hkW hlo hpW own2 hg2 h1 hk1 hp1 ownx own1 HU m0 m1 m2 m3 q0 q1 q2 q3 f3 cl1 cn cb
    gi_wp2
    obtain ⟨hkW, hlo, hpW, own2, h1, hk1⟩ := HKW.out
    have hks := Kp.setCell (S := fun i => i = kf + 2) W1 ⟨kf + 2, 1, none⟩ (.slice (some ⟨g, 0, none⟩) (pre.length + 1) gc) rfl
    have hk2 : Kp (fun i => i = kf + 2) w4 (W1.setCell ⟨kf + 2, 1, none⟩ (.slice (some ⟨g, 0, none⟩) (pre.length + 1) gc)) := ((h1.trans hk1 (fun i hi (q : i = kp) => by omega)).trans hkW (fun i hi q => by have := (hlo i q).1; omega)).trans hks (fun _ _ q => q)
    have hup : Upon w4.heap.size U (W1.setCell ⟨kf + 2, 1, none⟩ (.slice (some ⟨g, 0, none⟩) (pre.length + 1) gc)) := by
      rw [← hU1] at hkW hlo
      exact ((Upon.setCell _ _ _).trans (upon_kp hkW (fun i e => (hlo i e).2))).trans (Upon.setCell _ _ _)
    refine ⟨hup, fun _ => (HIN.out _ hk2).1, hk2, .slice (some ⟨g, 0, none⟩) (pre.length + 1) gc, ?_, ?_⟩
    · rw [heap_setCell_same W1 (kf + 2) 1 _ _ _ hpW]; rfl
    · rw [List.length_append, List.length_singleton, pnL_succ, pnv_append, HQn.out.1, HQn.out.2, hz4]
      exact ownsRow_setCell_below (a := ⟨kf + 2, 1, none⟩) own2 (by show kf + 2 < _; omega) _
  case done =>
    rintro D1 xs U hD hS ⟨h1, v, h2, h3⟩ hd
    subst hS
    rw [List.length_range] at h3
    have c0 : U.cell? ⟨kf + 2, 0, none⟩ = some (.pointer (some ⟨pp, 0, none⟩)) := (obj_cell h2 0).trans rfl
    have c1 : U.cell? ⟨kf + 2, 1, none⟩ = some v := (obj_cell h2 1).trans rfl
    have or1 := (h1.block (kf + 1) (Array.getElem?_eq_some_iff.1 or4).1 (by show ¬ kf + 1 = kf + 2; omega)).trans or4
    obtain ⟨la, lc, hlv⟩ : ∃ la lc, v = .slice la Ps.length lc := by
      rcases h3.2 with ⟨hn, hz⟩ | ⟨g', cap', cur', e1, e2⟩
      · exact ⟨none, 0, by rw [hn, hz]⟩
      · exact ⟨_, _, e1⟩
    subst hlv
    have r0 : U.cell? ⟨kf + 1, 0, none⟩ = some (.pointer none) := (obj_cell or1 0).trans rfl
    have f0 := obj_frozen or1 0
    have or2 : (U.setCell ⟨kf + 1, 0, none⟩ (.pointer (some ⟨pp, 0, none⟩))).heap[kf + 1]? = some (.cells #[.pointer (some ⟨pp, 0, none⟩), .slice none 0 0] 57 (0, 0)) := by rw [heap_setCell_same U (kf + 1) 0 _ _ _ or1]; rfl
    have r1 : (U.setCell ⟨kf + 1, 0, none⟩ (.pointer (some ⟨pp, 0, none⟩))).cell? ⟨kf + 1, 1, none⟩ = some (.slice none 0 0) := (obj_cell or2 1).trans rfl
    have f1 := obj_frozen or2 1
    have or3 : ((U.setCell ⟨kf + 1, 0, none⟩ (.pointer (some ⟨pp, 0, none⟩))).setCell ⟨kf + 1, 1, none⟩ (.slice la Ps.length lc)).heap[kf + 1]? = some (.cells #[.pointer (some ⟨pp, 0, none⟩), .slice la Ps.length lc] 57 (0, 0)) := by rw [heap_setCell_same _ (kf + 1) 1 _ _ _ or2]; rfl
    have HD := hidS (And.intro h1 (And.intro h3 (And.intro hd or3)))
    clear h1 h2 h3 hd or1 or2 or3
    rw [HT.out]
    gi_wp2_with fail
    have HF : Hid ((((U.setCell ⟨kf + 1, 0, none⟩ (.pointer (some ⟨pp, 0, none⟩))).setCell ⟨kf + 1, 1, none⟩ (.slice la Ps.length lc)).putObj D1 (.deferred none)).heap[kf + 1]? = some (.cells #[.pointer (some ⟨pp, 0, none⟩), .slice la Ps.length lc] 57 (0, 0)) ∧ (((U.setCell ⟨kf + 1, 0, none⟩ (.pointer (some ⟨pp, 0, none⟩))).setCell ⟨kf + 1, 1, none⟩ (.slice la Ps.length lc)).putObj D1 (.deferred none)).ownsRow w.heap.size 94 4 (.slice la Ps.length lc) Ps.length (pnv (pnL Ps N Ps.length)) ∧ Below w.heap.size w (((U.setCell ⟨kf + 1, 0, none⟩ (.pointer (some ⟨pp, 0, none⟩))).setCell ⟨kf + 1, 1, none⟩ (.slice la Ps.length lc)).putObj D1 (.deferred none))) := hidS (by
      obtain ⟨h1, h3, hd, or3⟩ := HD.out
      generalize hU2 : (U.setCell ⟨kf + 1, 0, none⟩ (.pointer (some ⟨pp, 0, none⟩))).setCell ⟨kf + 1, 1, none⟩ (.slice la Ps.length lc) = U2 at *
      have hks : Kp (fun i => i = kf + 1) U U2 := by rw [← hU2]; exact (Kp.setCell (S := fun i => i = kf + 1) U ⟨kf + 1, 0, none⟩ _ rfl).trans (Kp.setCell (S := fun i => i = kf + 1) _ ⟨kf + 1, 1, none⟩ _ rfl) (fun _ _ q => q)
      have hkp : Kp (fun i => i = D1) U2 (U2.putObj D1 (.deferred none)) := Kp.ofGrown (grownBy_putObj' _ D1 (.deferred none)) (fun i e _ => by cases e; rfl)
      have hD1 : kf + 4 ≤ D1 := by omega
      have hk5 : Kp (fun i => kf ≤ i) w (U2.putObj D1 (.deferred none)) := ((((Kp.ofBelow (S := fun i => kf ≤ i) (by rw [hkf]; exact hb4)).trans h1 (fun i hi (q : i = kf + 2) => by show kf ≤ i; omega)).trans hks (fun i hi (q : i = kf + 1) => by show kf ≤ i; omega)).trans hkp (fun i hi (q : i = D1) => by show kf ≤ i; omega))
      refine ⟨(hkp.block (kf + 1) (Array.getElem?_eq_some_iff.1 or3).1 (by show ¬ kf + 1 = D1; omega)).trans or3, own_monoX (hkp.own (hks.own h3 (fun k e (q : k = kf + 1) => by have := (h3.lt k e).1; omega)) (fun k e (q : k = D1) => ?_)) (by omega), hk5.below (Nat.le_refl _) (fun i q => by rw [hkf]; exact q)⟩
      rcases h3.2 with hn | ⟨g', cap', cur', e1, e2, e3, e4⟩
      · rw [hn.1] at e
        cases e
      · rw [e1] at e
        cases e
        rw [show g' = D1 from q, hd] at e3
        cases e3)
    have HDd : Hid (((U.setCell ⟨kf + 1, 0, none⟩ (.pointer (some ⟨pp, 0, none⟩))).setCell ⟨kf + 1, 1, none⟩ (.slice la Ps.length lc)).heap[D1]? = some (.deferred (some []))) := hidS (((Below.heap_setCell _ _ _ _ (by show D1 ≠ kf + 1; omega)).trans (Below.heap_setCell _ _ _ _ (by show D1 ≠ kf + 1; omega))).trans HD.out.2.2.1)
    refine ⟨by simp, .inl ⟨_, _, rfl, run_takeDeferred HDd.out, ?_⟩⟩
    exact ⟨.agg #[.pointer (some ⟨pp, 0, none⟩), .slice la Ps.length lc], resVPd (p := 4) (by kernel_rfl) _ (kf + 1) _ rfl HF.out.1 _ rfl, _, rfl, HF.out.2.1, HF.out.2.2⟩
end Go.Proofs.YtgbpfejodpplbaaGreatDoor
namespace Go.Proofs.YtgbpfejodpplbaaGreatDoor
open Go.RowKit Go.WideShapes Go.Shelf
set_option maxRecDepth 100000
set_option linter.unusedSimpArgs false
attribute [local go_sem] Oper.semAt_some

theorem Tryz.infoSl : (Tryz.prog.info? 23).map (fun i => (i.zero, i.size, i.bytes)) = some (some (.slice none 0 0), 1, 24) := by kernel_rfl
/-- words that lie in a row of their own -/
def JRo (U : World) (a : Option Addr) (l : List Nat) : Prop := 0 < l.length → ∃ b off cs, a = some ⟨b, off, none⟩ ∧ U.heap[b]? = some (.cells cs 25 (0, 0)) ∧ ∀ j, j < l.length → cs[off + j]? = some (.int .u32 (l.getD j 0 : Nat))
theorem JRo.jrd {U : World} {a : Option Addr} {l : List Nat} (h : JRo U a l) : JRd U a l U.heap.size := fun q => by
  obtain ⟨b, off, cs, h1, h2, h3⟩ := h q
  exact ⟨b, off, h1, (Array.getElem?_eq_some_iff.1 h2).1, fun j hj => (obj_cell h2 (off + j)).trans (h3 j hj)⟩
theorem JRo.kept {S : Nat → Prop} {U U' : World} {a : Option Addr} {l : List Nat} (h : JRo U a l) (hk : Kp S U U') (hs : ∀ i, S i → ∀ cs, U.heap[i]? ≠ some (.cells cs 25 (0, 0))) : JRo U' a l := fun q => by
  obtain ⟨b, off, cs, h1, h2, h3⟩ := h q
  exact ⟨b, off, cs, h1, (hk.block b (Array.getElem?_eq_some_iff.1 h2).1 (fun e => hs b e cs h2)).trans h2, h3⟩
theorem jro_own {U : World} {B : Nat} {v : Value} {l : List Nat} (h : U.ownsRow B 25 1 v l.length (dv l)) : ∃ a c, v = .slice a l.length c ∧ JRo U a l := by
  rcases h with ⟨hl, ⟨hn, hz⟩ | ⟨g, c, cur, e1, e2, e3, e4, e5, e6, e7⟩⟩
  · exact ⟨none, 0, by rw [hn, hz], fun q => by omega⟩
  · refine ⟨_, c, e1, fun q => ⟨g, 0, cur, rfl, e3, fun j hj => ?_⟩⟩
    have h1 := congrArg (fun z : List Value => z[j]?) e7
    simp only [Nat.mul_one] at h1
    rw [List.getElem?_take, if_pos hj] at h1
    rw [Nat.zero_add, ← Array.getElem?_toList, h1]
    simp [dv, List.getElem?_eq_getElem hj, List.getD_eq_getElem?_getD]
abbrev ctOps (ps : String) : Array Oper := #[{ dst := some 31, op := Op.load 81 (Operand.tmp 10), type := 81, pos := ps, after := #[], guard := none }, { dst := some 32, op := Op.load 81 (Operand.tmp 10), type := 81, pos := ps, after := #[], guard := none }, { dst := some 33, op := Op.nilCheck (Operand.tmp 32), type := 0, pos := ps, after := #[{ on := 1, ground := Ground.data }], guard := none }, { dst := some 34, op := Op.fieldAddr 118 (Operand.tmp 33) 2, type := 0, pos := ps, after := #[{ on := 2, ground := Ground.data }], guard := none }, { dst := some 35, op := Op.load 116 (Operand.tmp 34), type := 116, pos := ps, after := #[{ on := 3, ground := Ground.data }], guard := none }, { dst := some 36, op := Op.load 49 (Operand.tmp 7), type := 49, pos := ps, after := #[], guard := none }, { dst := some 37, op := Op.move (Operand.tmp 11), type := 3, pos := ps, after := #[], guard := none }, { dst := some 38, op := Op.call { callee := Callee.value (Operand.func 52), args := #[Operand.tmp 36, Operand.tmp 37], argTypes := #[49, 3] }, type := 23, pos := ps, after := #[{ on := 5, ground := Ground.data }, { on := 6, ground := Ground.data }], guard := none }, { dst := some 39, op := Op.buildSlice 116 1 #[(0, Operand.tmp 38)], type := 116, pos := ps, after := #[{ on := 7, ground := Ground.data }], guard := none }, { dst := some 40, op := Op.call { callee := Callee.builtin Builtin.append, args := #[Operand.tmp 35, Operand.tmp 39], argTypes := #[116, 116] }, type := 116, pos := ps, after := #[{ on := 4, ground := Ground.data }, { on := 8, ground := Ground.data }, { on := 7, ground := Ground.chain }], guard := none }, { dst := some 41, op := Op.nilCheck (Operand.tmp 31), type := 0, pos := ps, after := #[{ on := 0, ground := Ground.data }, { on := 0, ground := Ground.phase }, { on := 1, ground := Ground.phase }, { on := 2, ground := Ground.phase }, { on := 3, ground := Ground.phase }, { on := 4, ground := Ground.phase }, { on := 5, ground := Ground.phase }, { on := 6, ground := Ground.phase }, { on := 7, ground := Ground.phase }, { on := 8, ground := Ground.phase }, { on := 9, ground := Ground.phase }], guard := none }, { dst := some 42, op := Op.fieldAddr 118 (Operand.tmp 41) 2, type := 0, pos := ps, after := #[{ on := 10, ground := Ground.data }, { on := 0, ground := Ground.phase }, { on := 1, ground := Ground.phase }, { on := 2, ground := Ground.phase }, { on := 3, ground := Ground.phase }, { on := 4, ground := Ground.phase }, { on := 5, ground := Ground.phase }, { on := 6, ground := Ground.phase }, { on := 7, ground := Ground.phase }, { on := 8, ground := Ground.phase }, { on := 9, ground := Ground.phase }], guard := none }, { dst := none, op := Op.store 116 (Operand.tmp 42) (Operand.tmp 40), type := 0, pos := ps, after := #[{ on := 11, ground := Ground.data }, { on := 9, ground := Ground.data }, { on := 9, ground := Ground.chain }, { on := 0, ground := Ground.phase }, { on := 1, ground := Ground.phase }, { on := 2, ground := Ground.phase }, { on := 3, ground := Ground.phase }, { on := 4, ground := Ground.phase }, { on := 5, ground := Ground.phase }, { on := 6, ground := Ground.phase }, { on := 7, ground := Ground.phase }, { on := 8, ground := Ground.phase }, { on := 9, ground := Ground.phase }], guard := none }]
set_option maxHeartbeats 4000000 in
theorem ct_lay {ps : String} {l n : Nat} {Q : Exit → Act → World → Prop} {w : World} {t0 t1 t2 t3 t4 t5 t6 t8 t9 t12 t13 t14 t15 t16 t17 t18 t19 t20 t21 t22 t23 t24 t25 t26 t27 t28 t29 t30 t31 t32 t33 t34 t35 t36 t37 t38 t39 t40 t41 t42 t43 : Value} (kf kb kc pp i B m : Nat) (tv cv0 : Value) (ts : List Value) (tg : List Nat)
    (hB : B ≤ w.heap.size) (hm : m ≤ 16384) (hown : w.ownsRow B 23 1 tv m ts) (hlt : kf < B ∧ kb < B ∧ kc < B)
    (c0 : w.cell? ⟨kb, 0, none⟩ = some (.pointer (some ⟨kc, 0, none⟩))) (ob : w.heap[kc]? = some (.cells #[cv0, .pointer (some ⟨pp, 0, none⟩), tv] 118 (0, 0))) (c2 : w.cell? ⟨kf, 0, none⟩ = some (.pointer (some ⟨pp, 0, none⟩)))
    (hC : ∀ W, Below w.heap.size w W → Calls Tryz.prog 52 #[.pointer (some ⟨pp, 0, none⟩), .int .i64 i] W fun e w' => ∃ v, e = .returned v ∧ w'.ownsRow W.heap.size 25 1 v tg.length (dv tg) ∧ Below W.heap.size W w')
    (hQ : ∀ c (a : Act) d v w, Q (.panic c) (a.put d v) w → Q (.panic c) a w)
    (hK : ∀ a' tv' w' ra rc, w'.ownsRow B 23 1 tv' (m + 1) (ts ++ [.slice ra tg.length rc]) → JRo w' ra tg → Kp (fun k => tv.ownBlock = some k) w w' → Q .normal a' (w'.setCell ⟨kc, 2, none⟩ tv')) :
    (Code.region 7 (ctOps ps) true).wpIn (Fence.wide.inRound l) (n + 1) Tryz.prog Q { tmps := (t0 :: t1 :: t2 :: t3 :: t4 :: t5 :: t6 :: .pointer (some ⟨kf, 0, none⟩) :: t8 :: t9 :: .pointer (some ⟨kb, 0, none⟩) :: .int .i64 (i : Int) :: t12 :: t13 :: t14 :: t15 :: t16 :: t17 :: t18 :: t19 :: t20 :: t21 :: t22 :: t23 :: t24 :: t25 :: t26 :: t27 :: t28 :: t29 :: t30 :: t31 :: t32 :: t33 :: t34 :: t35 :: t36 :: t37 :: t38 :: t39 :: t40 :: t41 :: t42 :: t43 :: []).toArray, defers := [] } w := by
  have c1 : w.cell? ⟨kc, 2, none⟩ = some tv := (obj_cell ob 2).trans rfl
  have hS : (fun V : World => V.cell? ⟨kb, 0, none⟩ = some (.pointer (some ⟨kc, 0, none⟩)) ∧ V.cell? ⟨kc, 2, none⟩ = some tv ∧ V.cell? ⟨kf, 0, none⟩ = some (.pointer (some ⟨pp, 0, none⟩))) w.drew := ⟨c0, c1, c2⟩
  obtain ⟨i0, hi, hz0, hz1, hz2⟩ := info_parts Tryz.infoSl
  have hSK : ∀ (V : World) (T : Nat → Prop), Kp T w V → (∀ k, k < w.heap.size → T k → B ≤ k) → (fun V : World => V.cell? ⟨kb, 0, none⟩ = some (.pointer (some ⟨kc, 0, none⟩)) ∧ V.cell? ⟨kc, 2, none⟩ = some tv ∧ V.cell? ⟨kf, 0, none⟩ = some (.pointer (some ⟨pp, 0, none⟩))) V := fun V T hk hT => by
    have nT : ∀ k, k < B → ¬ T k := fun k hl q => by have := hT k (by omega) q; omega
    exact ⟨(hk.cell (p := ⟨kb, 0, none⟩) (Nat.lt_of_lt_of_le hlt.2.1 hB) (nT _ hlt.2.1)).trans c0, (hk.cell (p := ⟨kc, 2, none⟩) (Nat.lt_of_lt_of_le hlt.2.2 hB) (nT _ hlt.2.2)).trans c1, (hk.cell (p := ⟨kf, 0, none⟩) (Nat.lt_of_lt_of_le hlt.1 hB) (nT _ hlt.1)).trans c2⟩
  refine region_G (fun V : World => V.cell? ⟨kb, 0, none⟩ = some (.pointer (some ⟨kc, 0, none⟩)) ∧ V.cell? ⟨kc, 2, none⟩ = some tv ∧ V.cell? ⟨kf, 0, none⟩ = some (.pointer (some ⟨pp, 0, none⟩))) 12 (fun i o h => List.all_eq_true.1 (show (ctOps ps).toList.all noDefer = true by kernel_rfl) o (List.mem_of_getElem? (by simpa using h))) (by first | assumption | kernel_rfl) ?_
  refine wpAnyG_take (i := 0) (oi := { dst := some 31, op := Op.load 81 (Operand.tmp 10), type := 81, pos := ps, after := #[], guard := none }) (v := ?_) rfl rfl (by kernel_rfl) (by kernel_rfl) (by kernel_rfl) (fun _ _ _ h => hQ _ _ _ _ _ h) (by kernel_rfl) ⟨Or.inl ⟨by rfl, ?_⟩, fun _ => rfl⟩ hS ?_
  rotate_left
  · intro w' hS'; obtain ⟨s0, s1, s2⟩ := hS'; go_simp; try with_reducible rfl
  simp only [Act.put, List.setIfInBounds_toArray, List.set_cons_zero, List.set_cons_succ]
  refine wpAnyG_take (i := 1) (oi := { dst := some 32, op := Op.load 81 (Operand.tmp 10), type := 81, pos := ps, after := #[], guard := none }) (v := ?_) rfl rfl (by kernel_rfl) (by kernel_rfl) (by kernel_rfl) (fun _ _ _ h => hQ _ _ _ _ _ h) (by kernel_rfl) ⟨Or.inl ⟨by rfl, ?_⟩, fun _ => rfl⟩ hS ?_
  rotate_left
  · intro w' hS'; obtain ⟨s0, s1, s2⟩ := hS'; go_simp; try with_reducible rfl
  simp only [Act.put, List.setIfInBounds_toArray, List.set_cons_zero, List.set_cons_succ]
  refine wpAnyG_take (i := 2) (oi := { dst := some 33, op := Op.nilCheck (Operand.tmp 32), type := 0, pos := ps, after := #[{ on := 1, ground := Ground.data }], guard := none }) (v := ?_) rfl rfl (by kernel_rfl) (by kernel_rfl) (by kernel_rfl) (fun _ _ _ h => hQ _ _ _ _ _ h) (by kernel_rfl) ⟨Or.inl ⟨by rfl, ?_⟩, fun _ => rfl⟩ hS ?_
  rotate_left
  · intro w' hS'; obtain ⟨s0, s1, s2⟩ := hS'; go_simp; try with_reducible rfl
  simp only [Act.put, List.setIfInBounds_toArray, List.set_cons_zero, List.set_cons_succ]
  refine wpAnyG_take (i := 3) (oi := { dst := some 34, op := Op.fieldAddr 118 (Operand.tmp 33) 2, type := 0, pos := ps, after := #[{ on := 2, ground := Ground.data }], guard := none }) (v := ?_) rfl rfl (by kernel_rfl) (by kernel_rfl) (by kernel_rfl) (fun _ _ _ h => hQ _ _ _ _ _ h) (by kernel_rfl) ⟨Or.inl ⟨by rfl, ?_⟩, fun _ => rfl⟩ hS ?_
  rotate_left
  · intro w' hS'; obtain ⟨s0, s1, s2⟩ := hS'; go_simp; try with_reducible rfl
  simp only [Act.put, List.setIfInBounds_toArray, List.set_cons_zero, List.set_cons_succ]
  refine wpAnyG_take (i := 4) (oi := { dst := some 35, op := Op.load 116 (Operand.tmp 34), type := 116, pos := ps, after := #[{ on := 3, ground := Ground.data }], guard := none }) (v := ?_) rfl rfl (by kernel_rfl) (by kernel_rfl) (by kernel_rfl) (fun _ _ _ h => hQ _ _ _ _ _ h) (by kernel_rfl) ⟨Or.inl ⟨by rfl, ?_⟩, fun _ => rfl⟩ hS ?_
  rotate_left
  · intro w' hS'; obtain ⟨s0, s1, s2⟩ := hS'; go_simp; try with_reducible rfl
  simp only [Act.put, List.setIfInBounds_toArray, List.set_cons_zero, List.set_cons_succ]
  refine wpAnyG_take (i := 5) (oi := { dst := some 36, op := Op.load 49 (Operand.tmp 7), type := 49, pos := ps, after := #[], guard := none }) (v := ?_) rfl rfl (by kernel_rfl) (by kernel_rfl) (by kernel_rfl) (fun _ _ _ h => hQ _ _ _ _ _ h) (by kernel_rfl) ⟨Or.inl ⟨by rfl, ?_⟩, fun _ => rfl⟩ hS ?_
  rotate_left
  · intro w' hS'; obtain ⟨s0, s1, s2⟩ := hS'; go_simp; try with_reducible rfl
  simp only [Act.put, List.setIfInBounds_toArray, List.set_cons_zero, List.set_cons_succ]
  refine wpAnyG_take (i := 6) (oi := { dst := some 37, op := Op.move (Operand.tmp 11), type := 3, pos := ps, after := #[], guard := none }) (v := ?_) rfl rfl (by kernel_rfl) (by kernel_rfl) (by kernel_rfl) (fun _ _ _ h => hQ _ _ _ _ _ h) (by kernel_rfl) ⟨Or.inl ⟨by rfl, ?_⟩, fun _ => rfl⟩ hS ?_
  rotate_left
  · intro w' hS'; obtain ⟨s0, s1, s2⟩ := hS'; go_simp; try with_reducible rfl
  simp only [Act.put, List.setIfInBounds_toArray, List.set_cons_zero, List.set_cons_succ]
  refine wpAnyG_one (i := 7) (o := { dst := some 38, op := Op.call { callee := Callee.value (Operand.func 52), args := #[Operand.tmp 36, Operand.tmp 37], argTypes := #[49, 3] }, type := 23, pos := ps, after := #[{ on := 5, ground := Ground.data }, { on := 6, ground := Ground.data }], guard := none }) (by kernel_rfl) rfl (by rfl) ?_
  refine opGe (f := 52) (args := #[.pointer (some ⟨pp, 0, none⟩), .int .i64 i]) (w' := w.drew) rfl (fun _ _ => trivial) ?_ (fun _ => Nat.succ_pos n) ?_
  · kernel_rfl
  have hcl := (callsIn_wide (n := n)).2 (hC w.drew (below_drewN (Below.refl _ _) 1))
  refine CallsIn.mono (F := Fence.wide) hcl ?_
  rintro y w1 ⟨rv, rfl, hown1, hb1⟩
  have hb1 : Below w.heap.size w w1 := ⟨hb1.os, hb1.tape, hb1.output, hb1.size, hb1.block⟩
  obtain ⟨ra, rc, rfl, hjo⟩ := jro_own hown1
  have hk1 : Kp (fun _ => False) w w1 := Kp.ofBelow hb1
  refine ⟨_, rfl, fun _ => hSK _ _ hk1 (fun _ _ q => q.elim), ?_⟩
  replace hS := hSK _ _ hk1 (fun _ _ q => q.elim)
  simp only [Act.put, List.setIfInBounds_toArray, List.set_cons_zero, List.set_cons_succ]
  refine wpAnyG_one (i := 8) (o := { dst := some 39, op := Op.buildSlice 116 1 #[(0, Operand.tmp 38)], type := 116, pos := ps, after := #[{ on := 7, ground := Ground.data }], guard := none }) (by kernel_rfl) rfl (by rfl) ?_
  refine opG (v := .slice (some ⟨w1.heap.size, 0, none⟩) 1 1) (w' := w1.alloc (.cells #[.slice ra tg.length rc] 23)) rfl rfl ?_ ⟨fun _ => ?_, ?_⟩
  · unfold execOp
    simp only [Sem.run_bind]
    rw [run_buildSlice w1 116 23 1 _ #[.slice ra tg.length rc] i0 _ Tryz.underlying116 hi hz0 (by rw [hz1]; decide) (by rw [hz1]; decide) (by rw [hz1]; kernel_rfl)]
    rfl
  · exact hSK _ _ (hk1.trans (Kp.alloc (S := fun _ => False) w1 _) (fun _ _ q => q)) (fun _ _ q => q.elim)
  simp only [Act.put, List.setIfInBounds_toArray, List.set_cons_zero, List.set_cons_succ]
  have hkd : Kp (fun _ => False) w (w1.alloc (.cells #[.slice ra tg.length rc] 23)) := hk1.trans (Kp.alloc (S := fun _ => False) w1 _) (fun _ _ q => q)
  have hjo2 : JRo (w1.alloc (.cells #[.slice ra tg.length rc] 23)) ra tg := hjo.kept (Kp.alloc (S := fun _ => False) w1 _) (fun _ q => q.elim)
  have hzW : (w1.alloc (.cells #[.slice ra tg.length rc] 23)).heap.size = w1.heap.size + 1 := by simp
  have hnews : ∀ j u, [Value.slice ra tg.length rc][j]? = some u → (w1.alloc (.cells #[.slice ra tg.length rc] 23)).cell? ((⟨w1.heap.size, 0, none⟩ : Addr).add j) = some u := by
    intro j u hj
    match j, hj with
    | 0, hj => simp at hj; subst hj; exact (obj_cell (heap_alloc_new w1 _) 0).trans rfl
    | k + 1, hj => simp at hj
  generalize w1.alloc (.cells #[.slice ra tg.length rc] 23) = W1 at hkd hjo2 hnews hzW ⊢
  have hown2 := hkd.own hown (fun _ _ q => q)
  obtain ⟨tv', w2, hr2, ho2, hg2, _, hb2⟩ := run_append_own_at (P := Tryz.prog) W1 B 116 116 23 i0 (.slice none 0 0) 1 24 Tryz.underlying116 hi hz0 hz1 hz2 rfl (by decide) tv m ts hown2 ⟨w1.heap.size, 0, none⟩ 1 1 [.slice ra tg.length rc] rfl hnews (by intro u hu; simp at hu; subst hu; rfl) (by unfold maxLen; omega) (by omega) (Nat.le_trans hB hkd.size)
  have hk2a : Kp (fun k => tv.ownBlock = some k) W1 w2 := Kp.ofGrown hg2 (fun i e _ => e)
  have hk2 : Kp (fun k => tv.ownBlock = some k) w w2 := (hkd.mono (S' := fun k => tv.ownBlock = some k) (fun _ _ q => q.elim)).trans hk2a (fun _ _ q => q)
  have hjo3 : JRo w2 ra tg := hjo2.kept hk2a (fun k e cs ho => by
    rcases hown2.2 with hn | ⟨g', cap', cur', e1, e2, e3, e4⟩
    · rw [hn.1] at e
      cases e
    · rw [e1] at e
      cases e
      rw [e3] at ho
      cases ho)
  refine wpAnyG_one (i := 9) (o := { dst := some 40, op := Op.call { callee := Callee.builtin Builtin.append, args := #[Operand.tmp 35, Operand.tmp 39], argTypes := #[116, 116] }, type := 116, pos := ps, after := #[{ on := 4, ground := Ground.data }, { on := 8, ground := Ground.data }, { on := 7, ground := Ground.chain }], guard := none }) (by kernel_rfl) rfl (by rfl) ?_
  refine opG (v := tv') (w' := w2) rfl rfl ?_ ⟨fun _ => ?_, ?_⟩
  · unfold execOp
    simp only [resolve, invoke, builtin, Sem.run_bind, Sem.run_pure, Result.andThen_ok, List.map_toArray, List.map_cons, List.map_nil]
    show ((Builtin.append_ #[116, 116] 116 #[tv, .slice (some ⟨w1.heap.size, 0, none⟩) 1 1]).run Tryz.prog W1).andThen _ = _
    rw [hr2]
    rfl
  · exact hSK _ _ hk2 (fun k _ q => (hown.lt k q).1)
  simp only [Act.put, List.setIfInBounds_toArray, List.set_cons_zero, List.set_cons_succ]
  refine wpAnyG_one (i := 10) (o := { dst := some 41, op := Op.nilCheck (Operand.tmp 31), type := 0, pos := ps, after := #[{ on := 0, ground := Ground.data }, { on := 0, ground := Ground.phase }, { on := 1, ground := Ground.phase }, { on := 2, ground := Ground.phase }, { on := 3, ground := Ground.phase }, { on := 4, ground := Ground.phase }, { on := 5, ground := Ground.phase }, { on := 6, ground := Ground.phase }, { on := 7, ground := Ground.phase }, { on := 8, ground := Ground.phase }, { on := 9, ground := Ground.phase }], guard := none }) (by kernel_rfl) rfl (by rfl) ?_
  refine opG (v := .pointer (some ⟨kc, 0, none⟩)) (w' := w2) rfl rfl ?_ ⟨fun _ => hSK _ _ hk2 (fun k _ q => (hown.lt k q).1), ?_⟩
  · go_simp
  simp only [Act.put, List.setIfInBounds_toArray, List.set_cons_zero, List.set_cons_succ]
  refine wpAnyG_one (i := 11) (o := { dst := some 42, op := Op.fieldAddr 118 (Operand.tmp 41) 2, type := 0, pos := ps, after := #[{ on := 10, ground := Ground.data }, { on := 0, ground := Ground.phase }, { on := 1, ground := Ground.phase }, { on := 2, ground := Ground.phase }, { on := 3, ground := Ground.phase }, { on := 4, ground := Ground.phase }, { on := 5, ground := Ground.phase }, { on := 6, ground := Ground.phase }, { on := 7, ground := Ground.phase }, { on := 8, ground := Ground.phase }, { on := 9, ground := Ground.phase }], guard := none }) (by kernel_rfl) rfl (by rfl) ?_
  refine opG (v := .pointer (some ⟨kc, 2, none⟩)) (w' := w2) rfl rfl ?_ ⟨fun _ => hSK _ _ hk2 (fun k _ q => (hown.lt k q).1), ?_⟩
  · go_simp
  have nkc : ¬ tv.ownBlock = some kc := fun q => by have := (hown.lt kc q).1; omega
  have ob2 := (hk2.block kc (Nat.lt_of_lt_of_le hlt.2.2 hB) nkc).trans ob
  have cc := (obj_cell ob2 2).trans rfl
  have ff := obj_frozen ob2 2
  have hlv : ∃ ao2 len2 cap2, tv' = .slice ao2 len2 cap2 := by
    rcases ho2.2 with hn | ⟨g', cap', cur', e1, e2, e3, e4⟩
    · exact ⟨_, _, _, hn.1⟩
    · exact ⟨_, _, _, e1⟩
  obtain ⟨ao2, len2, cap2, rfl⟩ := hlv
  simp only [Act.put, List.setIfInBounds_toArray, List.set_cons_zero, List.set_cons_succ]
  refine wpAnyG_one (i := 12) (o := { dst := none, op := Op.store 116 (Operand.tmp 42) (Operand.tmp 40), type := 0, pos := ps, after := #[{ on := 11, ground := Ground.data }, { on := 9, ground := Ground.data }, { on := 9, ground := Ground.chain }, { on := 0, ground := Ground.phase }, { on := 1, ground := Ground.phase }, { on := 2, ground := Ground.phase }, { on := 3, ground := Ground.phase }, { on := 4, ground := Ground.phase }, { on := 5, ground := Ground.phase }, { on := 6, ground := Ground.phase }, { on := 7, ground := Ground.phase }, { on := 8, ground := Ground.phase }, { on := 9, ground := Ground.phase }], guard := none }) (by kernel_rfl) rfl (by rfl) ?_
  refine opG0 (w' := w2.setCell ⟨kc, 2, none⟩ (.slice ao2 len2 cap2)) rfl rfl ?_ ⟨fun q => absurd rfl q, ?_⟩
  · go_simp
  exact wpAnyG_done (by kernel_rfl) (hK _ _ _ ra rc ho2 hjo3 hk2) _
end Go.Proofs.YtgbpfejodpplbaaGreatDoor
namespace Go.Proofs.YtgbpfejodpplbaaGreatDoor
open Go.RowKit Go.WideShapes Go.Shelf
set_option maxRecDepth 100000
attribute [local go_sem] Oper.semAt_some

/-- what charted leaves -/
def CtP (w : World) (ao : Option Addr) (cap : Nat) (L : List (Nat × Nat)) (J : List Nat) (e : Ending) (w' : World) : Prop :=
  Below w.heap.size w w' ∧ ((∃ i x : Nat, e = .returned (.tuple #[.pointer none, .int .i64 i, .int .i64 x]) ∧ x ≠ 0 ∧ FdB L J [] i x) ∨
    (∃ kc pp ta tc, e = .returned (.tuple #[.pointer (some ⟨kc, 0, none⟩), .int .i64 0, .int .i64 0]) ∧ ChS w' kc pp ta tc ao cap L J ∧ FdG L J [] ∧ w.heap.size ≤ kc))
/-- what abides while targets are gathered -/
def CtI (W4 : World) (kc pp : Nat) (ao : Option Addr) (cap : Nat) (L : List (Nat × Nat)) (J : List Nat) (pre : List Nat) (U : World) : Prop :=
  Kp (fun i => i = kc) W4 U ∧ ∃ tv ts, U.heap[kc]? = some (.cells #[.slice ao L.length cap, .pointer (some ⟨pp, 0, none⟩), tv] 118 (0, 0)) ∧ U.ownsRow W4.heap.size 23 1 tv pre.length ts ∧ ∀ k, k < pre.length → ∃ a c, ts[k]? = some (.slice a (tgs L J k).length c) ∧ JRo U a (tgs L J k)
theorem CtI.step {W4 : World} {kc pp : Nat} {ao : Option Addr} {cap : Nat} {L : List (Nat × Nat)} {J : List Nat} {pre : List Nat} {A C : World} {row : Option Nat} (h : CtI W4 kc pp ao cap L J pre A) (hg : A.grownBy C row) (hr : ∀ r, row = some r → W4.heap.size ≤ r ∧ ∃ o : Obj, A.heap[r]? = some o ∧ o.isCells = false) : CtI W4 kc pp ao cap L J pre C := by
  obtain ⟨h1, tv, ts, h2, h3, h4⟩ := h
  have hk : Kp (fun k => row = some k) A C := Kp.ofGrown hg (fun i e _ => e)
  have no : ∀ b cs t fr, A.heap[b]? = some (.cells cs t fr) → ¬ row = some b := fun b cs t fr hb e => by
    obtain ⟨_, o, ho, hc⟩ := hr b e
    rw [hb] at ho
    cases ho
    cases hc
  refine ⟨h1.trans hk (fun i hi e => by have := (hr i e).1; omega), tv, ts, (hk.block kc (Array.getElem?_eq_some_iff.1 h2).1 (no _ _ _ _ h2)).trans h2, hk.own h3 (fun k e q => ?_), fun k hk2 => ?_⟩
  · rcases h3.2 with hn | ⟨g', cap', cur', e1, e2, e3, e4⟩
    · rw [hn.1] at e
      cases e
    · rw [e1] at e
      cases e
      exact no _ _ _ _ e3 q
  · obtain ⟨a, c, e1, e2⟩ := h4 k hk2
    exact ⟨a, c, e1, e2.kept hk (fun i e cs ho => no _ _ _ _ ho e)⟩
theorem CtI.new {W4 U w2 : World} {kc pp : Nat} {ao : Option Addr} {cap : Nat} {L : List (Nat × Nat)} {J : List Nat} {pre : List Nat} {tv tv' : Value} {ts : List Value} {ra : Option Addr} {rc : Nat} (hkc : kc < W4.heap.size)
    (h1 : Kp (fun i => i = kc) W4 U) (h2 : U.heap[kc]? = some (.cells #[.slice ao L.length cap, .pointer (some ⟨pp, 0, none⟩), tv] 118 (0, 0))) (h3 : U.ownsRow W4.heap.size 23 1 tv pre.length ts) (h4 : ∀ k, k < pre.length → ∃ a c, ts[k]? = some (.slice a (tgs L J k).length c) ∧ JRo U a (tgs L J k))
    (g1 : w2.ownsRow W4.heap.size 23 1 tv' (pre.length + 1) (ts ++ [.slice ra (tgs L J pre.length).length rc])) (g2 : JRo w2 ra (tgs L J pre.length)) (g3 : Kp (fun k => tv.ownBlock = some k) U w2) (x : Nat) :
    CtI W4 kc pp ao cap L J (pre ++ [x]) (w2.setCell ⟨kc, 2, none⟩ tv') := by
  have ntv : ∀ k, tv.ownBlock = some k → W4.heap.size ≤ k ∧ ∀ cs, U.heap[k]? ≠ some (.cells cs 25 (0, 0)) := fun k e => ⟨(h3.lt k e).1, fun cs ho => by
    rcases h3.2 with hn | ⟨g', cap', cur', e1, e2, e3, e4⟩
    · rw [hn.1] at e
      cases e
    · rw [e1] at e
      cases e
      rw [e3] at ho
      cases ho⟩
  have ob2 := (g3.block kc (Array.getElem?_eq_some_iff.1 h2).1 (fun q => by have := (ntv kc q).1; omega)).trans h2
  have hkset := Kp.setCell (S := fun i => i = kc) w2 ⟨kc, 2, none⟩ tv' rfl
  have nob : ∀ i, i = kc → ∀ cs, w2.heap[i]? ≠ some (.cells cs 25 (0, 0)) := fun i e cs ho => by
    rw [e, ob2] at ho
    cases ho
  have hlen : ts.length = pre.length := by rw [h3.1, Nat.mul_one]
  refine ⟨(h1.trans g3 (fun i hi q => by have := (ntv i q).1; omega)).trans hkset (fun _ _ q => q), tv', ts ++ [.slice ra (tgs L J pre.length).length rc], ?_, ?_, fun k hk => ?_⟩
  · rw [heap_setCell_same w2 kc 2 _ _ _ ob2]
    rfl
  · rw [List.length_append]
    exact ownsRow_setCell_below (a := ⟨kc, 2, none⟩) g1 hkc _
  · rw [List.length_append, List.length_singleton] at hk
    by_cases he : k < pre.length
    · obtain ⟨a, c, e1, e2⟩ := h4 k he
      exact ⟨a, c, by rw [List.getElem?_append_left (by omega)]; exact e1, (e2.kept g3 (fun i e => (ntv i e).2)).kept hkset nob⟩
    · have hk2 : k = pre.length := by omega
      subst hk2
      exact ⟨ra, rc, by rw [List.getElem?_append_right (by omega), hlen]; simp, g2.kept hkset nob⟩
set_option maxHeartbeats 4000000 in
theorem charted_any (ao aj : Option Addr) (cap capj : Nat) (L : List (Nat × Nat)) (J : List Nat) (w : World) (hn : L.length ≤ 9223372036854775807) (hJn : J.length ≤ 9223372036854775807) (hwf : Wfc L) (hJ : ∀ z ∈ J, z < 4294967296)
    (hr : CRd w ao L w.heap.size) (hrJ : JRd w aj J w.heap.size) (hT : TabW w) (hp : 0 < w.heap.size) :
    Calls Tryz.prog 28 #[.slice ao L.length cap, .slice aj J.length capj] w (CtP w ao cap L J) := by
  have HFd : Calls Tryz.prog 11 #[.slice ao L.length cap, .slice aj J.length capj, .slice none 0 0] w fun e w' => Below w.heap.size w w' ∧ ((∃ i x : Nat, e = .returned (.tuple #[.pointer none, .int .i64 i, .int .i64 x]) ∧ x ≠ 0 ∧ FdB L J [] i x) ∨
    (∃ (B pp p1 g1 p2 g2 : Nat) (lv : Value) (A C : List Nat), e = .returned (.tuple #[.pointer (some ⟨pp, 0, none⟩), .int .i64 0, .int .i64 0]) ∧ PrS w' B pp p1 g1 p2 g2 L.length lv (prL L) A C ∧ (∀ y, hasW A y = isEn L y) ∧ (∀ y, hasW C y = decide (y ∈ J)) ∧ (∀ k ∈ [pp, p1, g1, p2, g2], w.heap.size ≤ k) ∧ w.heap.size ≤ B ∧ FdG L J [])) := find_any ao aj none cap capj 0 L J [] w hn hJn (by simp) hwf hJ (fun j hj => absurd hj (by simp)) hr hrJ (fun q => absurd q (by simp)) hT hp
  refine (callsIn_wide (n := 30)).1 ?_
  refine callsIn_of_wp_marks Tryz.func28 rfl trivial ?_ rfl
  simp only [Tryz.ntmps28, List.size_toArray, List.length_cons, List.length_nil, Nat.reduceAdd, Nat.reduceSub, Array.replicate_succ, Array.replicate_zero, List.push_toArray, List.append_toArray, List.nil_append, List.cons_append]
  have HFi := (callsIn_wide (n := 29)).2 HFd
  gi_wp2_with fail
  refine ⟨trivial, HFi.mono ?_⟩
  rintro e w1 ⟨hb1, ⟨i1, x1, rfl, hx1, hfb⟩ | ⟨B, pp, p1, g1, p2, g2, lv, A, C, rfl, hP, hA, hC, hk1, hB1, hG⟩⟩
  · have hxI : ¬ (x1 : Int) = 0 := by omega
    have HB := hidS (And.intro hb1 (And.intro hx1 hfb))
    clear hb1 hx1 hfb HFi HFd hr hrJ hT
    gi_wp2
    refine ⟨.tuple #[.pointer none, .int .i64 i1, .int .i64 x1], by simp [results, Tryz.f28, go_sem], belP HB.out.1, .inl ⟨i1, x1, rfl, HB.out.2⟩⟩
  · obtain ⟨al, capl, rfl, hrd⟩ := hP.reads
    have hl := encX_len hG.enc
    have hml : (bgs L).length ≤ 16384 := Nat.le_trans (els_le _ _) hl
    have HPl : Hid ((prL L).length = (bgs L).length) := hidS (prs_len _ _)
    have HA : Hid (∀ W, Below w1.heap.size w1 W → CallsIn Fence.wide 29 Tryz.prog 35 #[.pointer (some ⟨pp, 0, none⟩)] W fun e w' => e = .returned (.func (.func 57) #[] #[.pointer (some ⟨W.heap.size, 0, none⟩)]) ∧ w' = W.alloc (.cells #[.slice al (prL L).length capl] 55)) := hidS (fun W hW => callsIn_wide.2 (pall_any pp (prL L).length capl al W (hP.below hW).c0 (hP.below hW).c1))
    have HP := hidS (And.intro hP (And.intro hrd (And.intro hC hG)))
    have HR := hidS (And.intro hr (And.intro hT (And.intro hp hb1)))
    clear hP hrd hC hG hA hr hrJ hT HFi HFd hk1
    gi_wp2_with ((first | refine ⟨trivial, fun _ => by omega, ?_⟩ | refine ⟨trivial, ?_⟩); gi_at_call 35; refine (HA.out _ (belP (belP (belP (Below.refl _ _))))).mono ?_; rintro en w2 ⟨rfl, hw2⟩)
    obtain ⟨kf, hkf⟩ : ∃ k, w1.heap.size = k := ⟨_, rfl⟩
    have hb2 : Below w1.heap.size w1 w2 := by rw [hw2]; exact belP (belP (belP (belP (Below.refl _ _))))
    have hz2 : w2.heap.size = kf + 4 := by rw [hw2, ← hkf]; simp only [World.size_alloc]
    have of2 : w2.heap[kf]? = some (.cells #[.pointer (some ⟨pp, 0, none⟩)] 49 (0, 0)) := by
      rw [hw2, ← hkf, Below.heap_alloc _ _ _ (by simp only [World.size_alloc]; omega), Below.heap_alloc _ _ _ (by simp only [World.size_alloc]; omega), Below.heap_alloc _ _ _ (by simp only [World.size_alloc]; omega)]
      exact heap_alloc_new _ _
    have oc2 : w2.heap[kf + 1]? = some (.cells #[.slice ao L.length cap, .pointer (some ⟨pp, 0, none⟩), .slice none 0 0] 118 (0, 0)) := by
      have := heap_alloc_new (w1.alloc (Obj.cells #[.pointer (some ⟨pp, 0, none⟩)] 49)) (Obj.cells #[.slice ao L.length cap, .pointer (some ⟨pp, 0, none⟩), .slice none 0 0] 118)
      rw [World.size_alloc, hkf] at this
      rw [hw2, Below.heap_alloc _ _ _ (by simp only [World.size_alloc]; omega), Below.heap_alloc _ _ _ (by simp only [World.size_alloc]; omega)]
      exact this
    have ob2 : w2.heap[kf + 2]? = some (.cells #[.pointer (some ⟨kf + 1, 0, none⟩)] 81 (0, 0)) := by
      have := heap_alloc_new ((w1.alloc (Obj.cells #[.pointer (some ⟨pp, 0, none⟩)] 49)).alloc (Obj.cells #[.slice ao L.length cap, .pointer (some ⟨pp, 0, none⟩), .slice none 0 0] 118)) (Obj.cells #[.pointer (some ⟨w1.heap.size + 1, 0, none⟩)] 81)
      rw [World.size_alloc, World.size_alloc, hkf] at this
      rw [hw2, Below.heap_alloc _ _ _ (by simp only [World.size_alloc]; omega), hkf]
      exact this
    have bl2 : Boxed w2 (kf + 3) 55 (.slice al (prL L).length capl) := by
      have := Boxed.new (((w1.alloc (Obj.cells #[.pointer (some ⟨pp, 0, none⟩)] 49)).alloc (Obj.cells #[.slice ao L.length cap, .pointer (some ⟨pp, 0, none⟩), .slice none 0 0] 118)).alloc (Obj.cells #[.pointer (some ⟨w1.heap.size + 1, 0, none⟩)] 81)) 55 (.slice al (prL L).length capl)
      rw [World.size_alloc, World.size_alloc, World.size_alloc, ← hw2, hkf] at this
      exact this
    rw [← hw2]
    simp only [Nat.add_assoc, Nat.reduceAdd]
    rw [hkf] at hb2 ⊢
    clear hw2 HA
    have HIN : Hid (∀ V, Kp (fun i => i = kf + 1) w2 V → InA (prL L) (kf + 3) al capl kf V) := hidS (fun V hk => ⟨(hk.block (kf + 3) bl2.lt (by show ¬ _ = kf + 1; omega)).trans bl2, by
      have hbV : Below kf w1 V := hb2.trans (hk.below (by omega) (fun i e => by omega))
      have := HP.out.2.1
      rw [hkf] at this
      exact this.below hbV⟩)
    have HW1 : Hid (∀ V, Kp (fun i => i = kf + 1) w2 V → Below w1.heap.size w1 V) := hidS (fun V hk => by rw [hkf]; exact hb2.trans (hk.below (by omega) (fun i e => by omega)))
    refine with_tmpsP fun T hT => ?_
    have HT := hidS hT
    clear hT
    refine range_outer (F := Fence.wide) rfl (by decide) (gf := 57) (lb := #[.pointer (some ⟨kf + 3, 0, none⟩)]) (by rw [HT.out]; rfl) trivial (enters_of Tryz.func57 (by kernel_rfl) rfl)
      (seqA (30 - 1) (by decide) (kf + 3) kf al capl (prL L) w2 (by rw [HPl.out]; exact hml) (HIN.out w2 (Kp.refl _ _)) (by omega)) KeA_t (KeA_b (w := w2)) (Below.refl _ _) (fun _ => rfl)
      (CtI w2 (kf + 1) pp ao cap L J)
      (fun c pre U => False)
      (fun s A C row h hg hr => h.step hg hr)
      (fun c s A C row h hg hr => h)
      ⟨Kp.refl _ _, .slice none 0 0, [], oc2, World.ownsRow_nil _ _ _ _, fun k hk => absurd hk (by simp)⟩
      (fun x a' U => a' = { tmps := ((((#[29, 30] : Array Tmp).zip (encP (prL L) x)).foldl (fun t (p, v) => t.setIfInBounds p v) T).setIfInBounds 11 (.int .i64 x)), defers := [] })
      (fun x a' => Own.from (fun t A C row h hg hr => h) _)
      ?assign ?body ?done (fun D c pre W _ _ h _ => h.elim)
    case assign =>
      intro l0 pre x V K hI hK
      have HF := hidS (fun a' (ha : _) => hK a' V (Upon.refl _ V) (fun y => y) hI ha)
      clear hK hI
      obtain ⟨pb, pe, pf, hq⟩ : ∃ pb pe pf, (prL L).getD x (0, 0, 0) = (pb, pe, pf) := ⟨_, _, _, rfl⟩
      simp only [encP, hq] at HF ⊢
      rw [HT.out]
      gi_wp2
      exact HF.out _ (by rw [HT.out]; simp)
    case body =>
      rintro l0 pre x a' U hl0 hrec ⟨h1, tv, ts, h2, h3, h4⟩ rfl hln hsp
      obtain ⟨hxp, hxm⟩ := range_at hsp
      have hbU := HW1.out U h1
      have hPU := HP.out.1.kept (S := fun i => i = kf + 1) ((Kp.ofBelow (by rw [hkf]; exact hb2)).trans h1 (fun _ _ q => q)) (fun i hi e => by omega)
      have hxb : x < (bgs L).length := by rw [← HPl.out]; exact hxm
      have hpe := prL_get L hxb
      have hC2 : rng (hasW C) (bAt L x) (bAt L (x + 1)) = tgs L J x := by
        unfold tgs
        congr 1
        funext y
        exact HP.out.2.2.1 y
      have hTU : TabW U := (HR.out.2.1.below HR.out.2.2.2 HR.out.2.2.1).below hbU (Nat.lt_of_lt_of_le HR.out.2.2.1 HR.out.2.2.2.size)
      have HTg : Hid (∀ W, Below U.heap.size U W → Calls Tryz.prog 52 #[.pointer (some ⟨pp, 0, none⟩), .int .i64 x] W fun e w' => ∃ v, e = .returned v ∧ w'.ownsRow W.heap.size 25 1 v (tgs L J x).length (dv (tgs L J x)) ∧ Below W.heap.size W w') := hidS (fun W hW => by
        have h5 := ptargets_in x W hxm hl (by rw [hpe]; exact ⟨Nat.le_trans (Nat.le_of_lt (bAt_lt hxb)) (bgs_end _), bgs_end _⟩) (hTU.below hW (Nat.lt_of_lt_of_le (Nat.lt_of_lt_of_le HR.out.2.2.1 HR.out.2.2.2.size) hbU.size)) (hPU.below hW)
        rw [hpe] at h5
        simp only at h5
        rw [hC2] at h5
        exact h5)
      have hUz := h1.size
      have c0 : U.cell? ⟨kf + 2, 0, none⟩ = some (.pointer (some ⟨kf + 1, 0, none⟩)) := (h1.cell (p := ⟨kf + 2, 0, none⟩) (by show kf + 2 < _; omega) (by show ¬ kf + 2 = kf + 1; omega)).trans ((obj_cell ob2 0).trans rfl)
      have c2 : U.cell? ⟨kf, 0, none⟩ = some (.pointer (some ⟨pp, 0, none⟩)) := (h1.cell (p := ⟨kf, 0, none⟩) (by show kf < _; omega) (by show ¬ kf = kf + 1; omega)).trans ((obj_cell of2 0).trans rfl)
      obtain ⟨pb, pe, pf, hq⟩ : ∃ pb pe pf, (prL L).getD x (0, 0, 0) = (pb, pe, pf) := ⟨_, _, _, rfl⟩
      simp only [encP, hq]
      rw [HT.out]
      simp only [List.zip_toArray, List.zip_cons_cons, List.zip_nil_right, List.foldl_toArray', List.foldl_cons, List.foldl_nil, List.setIfInBounds_toArray, List.set_cons_succ, List.set_cons_zero]
      refine wpIn_block ?_
      subst hxp
      refine ct_lay (n := 27) kf (kf + 2) (kf + 1) pp pre.length w2.heap.size pre.length tv (.slice ao L.length cap) ts (tgs L J pre.length) hUz (by omega) h3 ⟨by omega, by omega, by omega⟩ c0 h2 c2 HTg.out (fun _ _ _ _ _ h => h) ?_
      intro a' tv' w' ra rc g1 g2 g3
      have hct := CtI.new (W4 := w2) (x := pre.length) (by omega) h1 h2 h3 h4 g1 g2 g3
      have hup : Upon w2.heap.size U w' := ⟨g3.size, fun k o _ hk hc => (g3.block k (Array.getElem?_eq_some_iff.1 hk).1 (fun e => by
        rcases h3.2 with hn | ⟨g', cap', cur', e1, e2, e3, e4⟩
        · rw [hn.1] at e
          cases e
        · rw [e1] at e
          cases e
          rw [e3] at hk
          cases hk
          cases hc)).trans hk⟩
      exact ⟨hup.trans (Upon.setCell _ _ _), fun _ => HIN.out _ hct.1, hct⟩
    case done =>
      rintro D1 xs U hD hS ⟨h1, tv, ts, h2, h3, h4⟩ hd
      subst hS
      rw [List.length_range, HPl.out] at h3 h4
      have hpos := bgs_pos HP.out.2.2.2.fst
      obtain ⟨g, gc, htv⟩ : ∃ g c, tv = .slice (some ⟨g, 0, none⟩) (bgs L).length c := by
        rcases h3.2 with ⟨_, hz⟩ | ⟨g', cap', cur', e1, _⟩
        · omega
        · exact ⟨_, _, e1⟩
      subst htv
      have c0 : U.cell? ⟨kf + 2, 0, none⟩ = some (.pointer (some ⟨kf + 1, 0, none⟩)) := (h1.cell (p := ⟨kf + 2, 0, none⟩) (by show kf + 2 < _; omega) (by show ¬ kf + 2 = kf + 1; omega)).trans ((obj_cell ob2 0).trans rfl)
      have HF : Hid (ChS (U.putObj D1 (.deferred none)) (kf + 1) pp (some ⟨g, 0, none⟩) gc ao cap L J ∧ Below w.heap.size w (U.putObj D1 (.deferred none))) := hidS (by
        have hkp : Kp (fun i => i = D1) U (U.putObj D1 (.deferred none)) := Kp.ofGrown (grownBy_putObj' _ D1 (.deferred none)) (fun i e _ => by cases e; rfl)
        have hk1 : Kp (fun i => i = kf + 1 ∨ i = D1) w1 (U.putObj D1 (.deferred none)) := (((Kp.ofBelow (S := fun i => i = kf + 1) (by rw [hkf]; exact hb2)).trans h1 (fun _ _ q => q)).mono (fun _ _ q => .inl q)).trans hkp (fun _ _ q => .inr q)
        have hbU : Below w1.heap.size w1 (U.putObj D1 (.deferred none)) := hk1.below (Nat.le_refl _) (fun i e => by omega)
        have hbw := btP hb1 hbU
        have noD : ∀ b cs t fr, U.heap[b]? = some (.cells cs t fr) → ¬ b = D1 := fun b cs t fr hb e => by
          rw [e, hd] at hb
          cases hb
        have h3' := hkp.own h3 (fun k e q => by
          rcases h3.2 with hn | ⟨g', cap', cur', e1, e2, e3, e4⟩
          · cases hn.1
          · cases e1
            cases e
            exact noD _ _ _ _ e3 q)
        refine ⟨⟨(hkp.block _ (Array.getElem?_eq_some_iff.1 h2).1 (noD _ _ _ _ h2)).trans h2, ⟨B, p1, g1, p2, g2, _, A, C, HP.out.1.kept hk1 (fun i hi e => by omega)⟩, CRd.mono (CRd.below HR.out.1 hbw) hbw.size, g, 0, rfl, (h3'.lt g rfl).2, fun k hk => ?_⟩, hbw⟩
        obtain ⟨a, c, e1, e2⟩ := h4 k hk
        refine ⟨a, c, ?_, (e2.kept hkp (fun i e cs ho => noD _ _ _ _ ho e)).jrd⟩
        rw [Nat.zero_add]
        exact (h3'.cellAt k (by omega)).trans e1)
      have HD := hidS hd
      clear h1 h2 h3 h4 hd
      rw [HT.out]
      gi_wp2
      refine ⟨by simp, .inl ⟨_, _, rfl, run_takeDeferred HD.out, ?_⟩⟩
      refine ⟨.tuple #[.pointer (some ⟨kf + 1, 0, none⟩), .int .i64 0, .int .i64 0], by simp [results, Tryz.f28, go_sem], HF.out.2, .inr ⟨kf + 1, pp, some ⟨g, 0, none⟩, gc, rfl, HF.out.1, HP.out.2.2.2, by have := hb1.size; omega⟩⟩
end Go.Proofs.YtgbpfejodpplbaaGreatDoor
namespace Go.Proofs.YtgbpfejodpplbaaGreatDoor
open Go.RowKit Go.WideShapes Go.Shelf
set_option maxRecDepth 100000

/-- what flow.Depths leaves -/
def FlP (w : World) (L : List (Nat × Nat)) (J : List Nat) (e : Ending) (w' : World) : Prop :=
  Below w.heap.size w w' ∧ ((∃ i x : Nat, e = .returned (.tuple #[.slice none 0 0, .slice none 0 0, .int .i64 i, .int .i64 x]) ∧ x ≠ 0 ∧ FdB L J [] i x) ∨
    (FdG L J [] ∧ ∃ i x : Nat, e = .returned (.tuple #[.slice none 0 0, .slice none 0 0, .int .i64 i, .int .i64 x]) ∧ (x = 140 ∨ x = 141 ∨ x = 142 ∨ x = 143) ∧ FltK L J i x) ∨
    (FdG L J [] ∧ ∃ (gd cp : Nat) (nv : Value) (D N : List Int), e = .returned (.tuple #[.slice (some ⟨gd, 0, none⟩) D.length cp, nv, .int .i64 0, .int .i64 0]) ∧ DpW w' w.heap.size gd cp D ∧ w'.ownsRow w.heap.size 3 1 nv N.length (N.map fun z => Value.int .i64 z) ∧ DpK L J D N (bgs L).length))
theorem wfc_op {L : List (Nat × Nat)} (h : Wfc L) : ∀ i, i < L.length → opL L i < 256 := fun _ hi => (h.at hi).1
set_option maxHeartbeats 1000000 in
theorem fdepths_any (ao aj : Option Addr) (cap capj : Nat) (L : List (Nat × Nat)) (J : List Nat) (w : World) (hn : L.length ≤ 9223372036854775807) (hJn : J.length ≤ 9223372036854775807) (hwf : Wfc L) (hJ : ∀ z ∈ J, z < 4294967296)
    (hr : CRd w ao L w.heap.size) (hrJ : JRd w aj J w.heap.size) (hT : TabW w) (hp : 0 < w.heap.size) :
    Calls Tryz.prog 12 #[.slice ao L.length cap, .slice aj J.length capj] w (FlP w L J) := by
  have HC : Calls Tryz.prog 28 #[.slice ao L.length cap, .slice aj J.length capj] w fun e w' => Below w.heap.size w w' ∧ ((∃ i x : Nat, e = .returned (.tuple #[.pointer none, .int .i64 i, .int .i64 x]) ∧ x ≠ 0 ∧ FdB L J [] i x) ∨
    (∃ kc pp ta tc, e = .returned (.tuple #[.pointer (some ⟨kc, 0, none⟩), .int .i64 0, .int .i64 0]) ∧ ChS w' kc pp ta tc ao cap L J ∧ FdG L J [] ∧ w.heap.size ≤ kc)) := charted_any ao aj cap capj L J w hn hJn hwf hJ hr hrJ hT hp
  clear hr hrJ hT
  go_enter Tryz.func12, Tryz.ntmps12
  go_wp2_with fail
  refine HC.mono ?_
  rintro e w1 ⟨hb1, ⟨i1, x1, rfl, hx1, hfb⟩ | ⟨kc, pp, ta, tc, rfl, hS, hG, _⟩⟩
  · have hxI : ¬ (x1 : Int) = 0 := by omega
    have HF := hidS (And.intro hb1 (And.intro hx1 hfb))
    clear hb1 hx1 hfb HC
    go_wp2
    refine bodyPost_ret (v := .tuple #[.slice none 0 0, .slice none 0 0, .int .i64 i1, .int .i64 x1]) (by simp [results, Tryz.f12, go_sem]) rfl ⟨HF.out.1, .inl ⟨i1, x1, rfl, HF.out.2⟩⟩
  · have HD : Calls Tryz.prog 29 #[.pointer (some ⟨kc, 0, none⟩)] w1 fun e w' => Below w1.heap.size w1 w' ∧ ((∃ i x : Nat, e = .returned (.tuple #[.slice none 0 0, .slice none 0 0, .int .i64 i, .int .i64 x]) ∧ (x = 140 ∨ x = 141 ∨ x = 142 ∨ x = 143) ∧ FltK L J i x) ∨
      (∃ (gd cp : Nat) (nv : Value) (D N : List Int), e = .returned (.tuple #[.slice (some ⟨gd, 0, none⟩) D.length cp, nv, .int .i64 0, .int .i64 0]) ∧ DpW w' w1.heap.size gd cp D ∧ w'.ownsRow w1.heap.size 3 1 nv N.length (N.map fun z => Value.int .i64 z) ∧ DpK L J D N (bgs L).length)) := depths_any hS hG (wfc_op hwf)
    have HF := hidS (And.intro hb1 hG)
    clear hb1 hG hS HC
    go_wp2_with fail
    refine HD.mono ?_
    rintro e w2 ⟨hb2, ⟨i2, x2, rfl, hx2, hno⟩ | ⟨gd, cp, nv, D, N, rfl, hDp, hNr, hK⟩⟩
    · have HE := hidS (And.intro hb2 (And.intro hx2 hno))
      clear hb2 hx2 hno HD
      go_wp2
      refine bodyPost_ret (v := .tuple #[.slice none 0 0, .slice none 0 0, .int .i64 i2, .int .i64 x2]) (by simp [results, Tryz.f12, go_sem]) rfl ⟨btP HF.out.1 HE.out.1, .inr (.inl ⟨HF.out.2, i2, x2, rfl, HE.out.2⟩)⟩
    · have HE := hidS (And.intro hb2 (And.intro hDp (And.intro hNr hK)))
      clear hb2 hDp hNr hK HD
      go_wp2
      refine bodyPost_ret (v := .tuple #[.slice (some ⟨gd, 0, none⟩) D.length cp, nv, .int .i64 0, .int .i64 0]) (by simp [results, Tryz.f12, go_sem]) rfl ⟨btP HF.out.1 HE.out.1, .inr (.inr ⟨HF.out.2, gd, cp, nv, D, N, rfl, own_base HE.out.2.1 HF.out.1.size, own_base HE.out.2.2.1 HF.out.1.size, HE.out.2.2.2⟩)⟩
theorem nil_eqW (a : Option Addr) (n c : Nat) (w : World) : (binOp .eql 23 (.slice a n c) (.slice none 0 0)).run Tryz.prog w = .ok (.bool a.isNone) w := by
  have e : binOp .eql 23 (.slice a n c) (.slice none 0 0) = (do pure (.bool (← Op.equal 23 (.slice a n c) (.slice none 0 0)))) := rfl
  rw [e, Sem.run_bind, run_equal_slice_nil w _ _ a n c Tryz.underlying23]
  rfl
end Go.Proofs.YtgbpfejodpplbaaGreatDoor
