import Derived.Test.YtnplimdcfbgpeaaDoorCIIt
import Derived.Shelf.Abstract
import Derived.Shelf.RegionOpen
namespace Go.Proofs.YtnplimdcfbgpeaaDoor
open Go.RowKit Go.Shelf
attribute [local go_sem] Oper.semAt_some

theorem rds_stops (n : Nat) (hn1 : 1 ≤ n) (Bs : Nat) (ao : Option Addr) (cap : Nat) (zs : List Int) (w : World) (B0 : Nat) (hn : zs.length ≤ 140737488355328) (hcp : zs.length ≤ cap) (hwf : ∀ z ∈ zs, 0 ≤ z ∧ z ≤ 255)
    (hc : Boxed w Bs 24 (.slice ao zs.length cap)) (hr : Reads w ao zs B0) (hB0 : B0 ≤ w.heap.size) :
    SeqStopsK Fence.wide n Tryd.prog 79 #[.pointer (some ⟨Bs, 0, none⟩)] encI2 (Kd Bs ao cap zs B0) (fun ys => ys = items zs) (fun pre => pre <+: items zs) 16385 w :=
  fun l J Jx W hW hJ _ hY h0 => rds1_in n hn1 l Bs B0 ao cap zs J Jx W hJ hn hcp hwf hY ((hW.block Bs hc.lt).trans hc) (hr.below (hW.mono hB0)) (Nat.le_trans hB0 hW.size) h0
theorem Kd_refl (Bs : Nat) (ao : Option Addr) (cap : Nat) (zs : List Int) (B0 : Nat) (W : World) : Kd Bs ao cap zs B0 W W := ⟨id, id, fun _ _ h => h⟩
def gIt (x : It) : Nat × Nat := (x.2.1, x.2.2.1)
def okD (zs : List Int) : Bool := (items zs).all fun x => x.2.2.2.2 == 0
def dcB (zs : List Int) : List (Nat × Nat) := if okD zs then (items zs).map gIt else []
def dcI (zs : List Int) : Nat := if okD zs then 0 else ((items zs).getLastD (0, (0, 0, 0, 0))).1
def dcX (zs : List Int) : Nat := if okD zs then 0 else ((items zs).getLastD (0, (0, 0, 0, 0))).2.2.2.2
theorem boxed_step {A B : World} {row : Option Nat} {b t : Nat} {v : Value} (h : Boxed A b t v) (hg : A.grownBy B row) (hr : ∀ r, row = some r → ∃ o : Obj, A.heap[r]? = some o ∧ o.isCells = false) : Boxed B b t v :=
  h.kept hg (fun e => by
    obtain ⟨o, ho, hc⟩ := hr b e.symm
    have h' : A.heap[b]? = some (.cells #[v] t (0, 0)) := h
    rw [h'] at ho
    cases ho
    cases hc)
theorem grow_step2 {A B : World} {row : Option Nat} {b e sz n : Nat} {v : Value} {xs : List Value} (h : A.ownsRow b e sz v n xs) (hg : A.grownBy B row) (hr : ∀ r, row = some r → ∃ o : Obj, A.heap[r]? = some o ∧ o.isCells = false) : B.ownsRow b e sz v n xs := by
  refine h.kept hg ?_
  rcases h.2 with ⟨rfl, _⟩ | ⟨g, cap, cur, rfl, _, hh, _⟩
  · exact .inl rfl
  · right
    intro e
    obtain ⟨o, ho, hc⟩ := hr g e.symm
    rw [hh] at ho
    cases ho
    cases hc
theorem row_step {A B : World} {row : Option Nat} {b t : Nat} {cs : Array Value} (h : A.heap[b]? = some (.cells cs t)) (hg : A.grownBy B row) (hr : ∀ r, row = some r → ∃ o : Obj, A.heap[r]? = some o ∧ o.isCells = false) : B.heap[b]? = some (.cells cs t) := by
  refine (hg.block b (Array.getElem?_eq_some_iff.1 h).1 (fun e => ?_)).trans h
  obtain ⟨o, ho, hc⟩ := hr b e.symm
  rw [h] at ho
  cases ho
  cases hc
theorem rd_keep {W W1 : World} {o1 : Obj} {B n : Nat} {v : Value} {xs : List Value} (own : W.ownsRow B 54 2 v n xs) (hg : (W.alloc o1).grownBy W1 v.ownBlock) {b : Nat} {cs : Array Value} (h : W.heap[b]? = some (Obj.cells cs 126)) : W1.heap[b]? = some (Obj.cells cs 126) := by
  have hb := (Array.getElem?_eq_some_iff.1 h).1
  refine (hg.block b (by simp; omega) (fun e => ?_)).trans ((Below.heap_alloc _ _ _ hb).trans h)
  rcases own.2 with ⟨rfl, _⟩ | ⟨g, cap, cur, rfl, _, hh, _⟩
  · cases e
  · cases e
    rw [hh] at h
    cases h
theorem rd_set {W : World} {t c b : Nat} {u u' : Value} {cs : Array Value} (hx : Boxed W c t u) (ht : t ≠ 126) (h : W.heap[b]? = some (Obj.cells cs 126)) : (W.setCell ⟨c, 0, none⟩ u').heap[b]? = some (Obj.cells cs 126) := by
  refine ((grownBy_setCell' W c u').block b (Array.getElem?_eq_some_iff.1 h).1 (fun e => ?_)).trans h
  cases e
  have hx' : W.heap[c]? = some (.cells #[u] t (0, 0)) := hx
  rw [hx'] at h
  cases h
  exact ht rfl
theorem getLastD_snoc {α : Type} (l : List α) (x d : α) : (l ++ [x]).getLastD d = x := by simp
theorem dec_ok {zs : List Int} {ys : List It} (h : ys = items zs) (ha : ∀ x ∈ ys, x.2.2.2.2 = 0) : dcB zs = ys.map gIt ∧ dcI zs = 0 ∧ dcX zs = 0 := by
  subst h
  have : okD zs = true := by rw [okD, List.all_eq_true]; intro x hx; simp [ha x hx]
  simp [dcB, dcI, dcX, this]
theorem rds_bad (zs : List Int) : ∀ (f k p : Nat) (q : List It) (x : It) (t : List It), rds zs f k p = q ++ x :: t → ¬ x.2.2.2.2 = 0 → t = []
  | 0, _, _, q, x, t, h, _ => by rw [rds] at h; simp at h
  | f + 1, k, p, q, x, t, h, hx => by
    by_cases hp : p < zs.length
    · rw [rds_step zs f k p hp] at h
      cases q with
      | nil =>
        simp only [List.nil_append, List.cons.injEq] at h
        obtain ⟨rfl, h2⟩ := h
        rw [if_neg hx] at h2
        exact h2.symm
      | cons y q =>
        simp only [List.cons_append, List.cons.injEq] at h
        obtain ⟨rfl, h2⟩ := h
        split at h2
        · exact rds_bad zs f _ _ q x t h2 hx
        · simp at h2
    · rw [rds_end zs _ k p hp] at h; simp at h
theorem dec_bad {zs : List Int} {q : List It} {x : It} (h : q ++ [x] <+: items zs) (hx : ¬ x.2.2.2.2 = 0) : dcB zs = [] ∧ dcI zs = x.1 ∧ dcX zs = x.2.2.2.2 := by
  obtain ⟨t, ht⟩ := h
  have ht' : items zs = q ++ x :: t := by rw [← ht]; simp
  have h0 : t = [] := rds_bad zs _ _ _ q x t ht' hx
  subst h0
  have hI : items zs = q ++ [x] := ht'
  have : okD zs = false := by rw [okD, hI]; simp [hx]
  simp [dcB, dcI, dcX, this, hI]
theorem gbox2 {B b t e sz n : Nat} {w w1 : World} {v v0 : Value} {ys : List Value} {o : Obj} (h : Boxed w b t v) (hb : b < B) (own : w.ownsRow B e sz v0 n ys) (hg : (w.alloc o).grownBy w1 v0.ownBlock) : Boxed w1 b t v :=
  (h.alloc o).kept hg (fun e => by have := (own.lt b e.symm).1; omega)
theorem own_any {w : World} {B e sz n : Nat} {v : Value} {xs : List Value} (h : w.ownsRow B e sz v n xs) : ∃ a c, v = .slice a n c := by
  rcases h.2 with ⟨rfl, rfl⟩ | ⟨g, cap, cur, rfl, _⟩
  · exact ⟨_, _, rfl⟩
  · exact ⟨_, _, rfl⟩
def BoxAny (W : World) (b t : Nat) : Prop := ∃ v, Boxed W b t v
theorem any_set {W : World} {b t : Nat} {v : Value} (h : BoxAny W b t) : Boxed (W.setCell ⟨b, 0, none⟩ v) b t v := by obtain ⟨u, hu⟩ := h; exact hu.set v
theorem any_other {W : World} {b c t : Nat} {v : Value} (h : BoxAny W b t) (hne : b ≠ c) : BoxAny (W.setCell ⟨c, 0, none⟩ v) b t := by obtain ⟨u, hu⟩ := h; exact ⟨u, hu.other hne v⟩
theorem any_drew {W : World} {b t : Nat} (h : BoxAny W b t) : BoxAny W.drew b t := h
theorem own_nt {w : World} {B e sz n b : Nat} {v : Value} {xs : List Value} (h : w.ownsRow B e sz v n xs) (ha : b < B) : v.ownBlock ≠ some (⟨b, 0, none⟩ : Addr).block := fun e => by have := (h.lt b e).1; omega
theorem res3 {W : World} {b0 b1 b2 : Nat} {v0 v1 v2 : Value} {tmps : Array Value} (h0 : Boxed W b0 22 v0) (h1 : Boxed W b1 3 v1) (h2 : Boxed W b2 30 v2)
    (e0 : tmps[2]?.getD undef = .pointer (some ⟨b0, 0, none⟩)) (e1 : tmps[3]?.getD undef = .pointer (some ⟨b1, 0, none⟩)) (e2 : tmps[4]?.getD undef = .pointer (some ⟨b2, 0, none⟩)) :
    (results Tryd.f57 tmps).run Tryd.prog W = .ok (.tuple #[v0, v1, v2]) W := by
  have c0 := h0.cell; have c1 := h1.cell; have c2 := h2.cell
  simp [results, Tryd.f57, e0, e1, e2, c0, c1, c2, go_sem]
theorem heap_set_ne {W : World} {b D : Nat} {v : Value} (h : D ≠ b) : (W.setCell ⟨b, 0, none⟩ v).heap[D]? = W.heap[D]? := Below.heap_setCell _ _ _ _ h
theorem keeps_drew {W X : World} (h : KeepsOthers W X) : KeepsOthers W X.drew := ⟨h.size, h.same⟩
theorem boxed_drew {X : World} {b t : Nat} {v : Value} (h : Boxed X b t v) : Boxed X.drew b t v := h
theorem below_ge {B b : Nat} (h : B ≤ b) : B ≤ (⟨b, 0, none⟩ : Addr).block := h
set_option maxRecDepth 100000 in
set_option maxHeartbeats 4000000 in
theorem decode_any (ao : Option Addr) (cap : Nat) (zs : List Int) (w : World) (hn : zs.length ≤ 140737488355328) (hcp : zs.length ≤ cap) (hwf : ∀ z ∈ zs, 0 ≤ z ∧ z ≤ 255) (hr : Reads w ao zs w.heap.size) :
    Calls Tryd.prog 57 #[.slice ao zs.length cap] w fun e w' => ∃ v, e = .returned (.tuple #[v, .int .i64 (dcI zs), .int .i64 (dcX zs)]) ∧ w'.ownsRow w.heap.size 54 2 v (dcB zs).length (cv (dcB zs)) ∧ Below w.heap.size w w' := by
  obtain ⟨i0, hi, hz0, hz1, hz2⟩ := info_parts Tryd.infoC
  refine (callsIn_wide (n := 9)).1 ?_
  refine callsIn_of_wp_marks Tryd.func57 rfl trivial ?_ rfl
  simp only [Tryd.ntmps57, List.size_toArray, List.length_cons, List.length_nil, Nat.reduceAdd, Nat.reduceSub, Array.replicate_succ, Array.replicate_zero, List.push_toArray, List.append_toArray, List.nil_append, List.cons_append]
  gi_wp2_with (refine ⟨trivial, ?_⟩; gi_at_call 72; refine (readings_in _ _ _ _ _).mono ?_; rintro e wq ⟨rfl, hq⟩; subst wq)
  obtain ⟨W0, hW0⟩ : ∃ W0, (((((w.alloc (Obj.cells #[.slice none 0 0] 22)).alloc (Obj.cells #[.int .i64 0] 3)).alloc (Obj.cells #[.int .i64 0] 30)).alloc (Obj.cells #[.slice none 0 0] 22)).alloc (Obj.cells #[.slice ao zs.length cap] 24)) = W0 := ⟨_, rfl⟩
  have b0 : Boxed W0 (w.heap.size) 22 (.slice none 0 0) := by
    rw [← hW0]; exact ((((Boxed.new w 22 _).alloc _).alloc _).alloc _).alloc _
  have b1 : Boxed W0 (w.heap.size + 1) 3 (.int .i64 0) := by
    rw [← hW0]; have := ((((Boxed.new (w.alloc (Obj.cells #[.slice none 0 0] 22)) 3 (.int .i64 0)).alloc (Obj.cells #[.int .i64 0] 30)).alloc (Obj.cells #[.slice none 0 0] 22)).alloc (Obj.cells #[.slice ao zs.length cap] 24))
    simpa using this
  have b2 : Boxed W0 (w.heap.size + 1 + 1) 30 (.int .i64 0) := by
    rw [← hW0]; have := (((Boxed.new ((w.alloc (Obj.cells #[.slice none 0 0] 22)).alloc (Obj.cells #[.int .i64 0] 3)) 30 (.int .i64 0)).alloc (Obj.cells #[.slice none 0 0] 22)).alloc (Obj.cells #[.slice ao zs.length cap] 24))
    simpa using this
  have b3 : Boxed W0 (w.heap.size + 1 + 1 + 1) 22 (.slice none 0 0) := by
    rw [← hW0]; have := ((Boxed.new (((w.alloc (Obj.cells #[.slice none 0 0] 22)).alloc (Obj.cells #[.int .i64 0] 3)).alloc (Obj.cells #[.int .i64 0] 30)) 22 (.slice none 0 0)).alloc (Obj.cells #[.slice ao zs.length cap] 24))
    simpa using this
  have b4 : Boxed W0 (w.heap.size + 1 + 1 + 1 + 1) 24 (.slice ao zs.length cap) := by
    rw [← hW0]; have := Boxed.new ((((w.alloc (Obj.cells #[.slice none 0 0] 22)).alloc (Obj.cells #[.int .i64 0] 3)).alloc (Obj.cells #[.int .i64 0] 30)).alloc (Obj.cells #[.slice none 0 0] 22)) 24 (.slice ao zs.length cap)
    simpa using this
  have hB0 : Below w.heap.size w W0 := by rw [← hW0]; exact bel (bel (bel (bel (bel (Below.refl _ _)))))
  have hsz : W0.heap.size = w.heap.size + 5 := by rw [← hW0]; simp
  have hW0' := hW0
  rw [hW0]
  clear hW0 hW0'
  have hr0 : Reads W0 ao zs w.heap.size := hr.below hB0
  refine wpIn_rangeFunc_ownH (F := Fence.wide) rfl (by decide) (gf := 79) (lb := #[.pointer (some ⟨w.heap.size + 1 + 1 + 1 + 1, 0, none⟩)]) rfl trivial (enters_of Tryd.func79 (by kernel_rfl) rfl)
    (rds_stops (9 - 1) (by decide) (w.heap.size + 1 + 1 + 1 + 1) ao cap zs W0 w.heap.size hn hcp hwf b4 hr0 (by omega)) Kd_t (Kd_b (w := W0)) (Below.refl _ _) (fun _ => rfl)
    (fun pre W => ((∀ x ∈ pre, x.2.2.2.2 = 0) ∧ (∃ v, Boxed W (w.heap.size + 1 + 1 + 1) 22 v ∧ W.ownsRow (w.heap.size + 5) 54 2 v pre.length (cv (pre.map gIt))) ∧ Boxed W (w.heap.size) 22 (.slice none 0 0) ∧ Boxed W (w.heap.size + 1) 3 (.int .i64 0) ∧ Boxed W (w.heap.size + 1 + 1) 30 (.int .i64 0)) ∧ Below w.heap.size w W ∧ w.heap.size + 5 ≤ W.heap.size)
    (fun c pre W => (∃ q x, c = .ret ∧ pre = q ++ [x] ∧ ¬ x.2.2.2.2 = 0 ∧ Boxed W (w.heap.size) 22 (.slice none 0 0) ∧ Boxed W (w.heap.size + 1) 3 (.int .i64 x.1) ∧ Boxed W (w.heap.size + 1 + 1) 30 (.int .i64 x.2.2.2.2)) ∧ Below w.heap.size w W)
    (OwnFrom.and (Own.from (fun t A B row h hg hr => by
      obtain ⟨h0, ⟨v, h1, h2⟩, h3, h4, h5⟩ := h
      exact ⟨h0, ⟨v, boxed_step h1 hg hr, grow_step2 h2 hg hr⟩, boxed_step h3 hg hr, boxed_step h4 hg hr, boxed_step h5 hg hr⟩) _) (OwnFrom.and (ownFrom_below (Nat.le_refl _) (by omega)) (fun _ _ _ _ h hg _ => Nat.le_trans h hg.size)))
    (fun c => OwnFrom.and (Own.from (fun t A B row h hg hr => by
      obtain ⟨q, x, h1, h2, h3, h4, h5, h6⟩ := h
      exact ⟨q, x, h1, h2, h3, boxed_step h4 hg hr, boxed_step h5 hg hr, boxed_step h6 hg hr⟩) _) (ownFrom_below (Nat.le_refl _) (by omega)))
    ⟨⟨by simp, ⟨_, b3, World.ownsRow_nil _ _ _ _⟩, b0, b1, b2⟩, hB0, by omega⟩
    (fun x a' W => ∃ R, w.heap.size + 5 ≤ R ∧ W.heap[R]? = some (Obj.cells (rdA x.2) 126) ∧ a' = { tmps := #[.slice ao zs.length cap, undef, .pointer (some ⟨w.heap.size, 0, none⟩), .pointer (some ⟨w.heap.size + 1, 0, none⟩), .pointer (some ⟨w.heap.size + 1 + 1, 0, none⟩), .pointer (some ⟨w.heap.size + 1 + 1 + 1, 0, none⟩), .int .i64 x.1, .pointer (some ⟨R, 0, none⟩), .slice ao zs.length cap, .func (.func 79) #[] #[.pointer (some ⟨w.heap.size + 1 + 1 + 1 + 1, 0, none⟩)], .int .i64 x.1, .agg (rdA x.2), undef, undef, undef, undef, undef, undef, undef, undef, undef, undef, undef, undef], defers := [] })
    (fun x a' => Own.from (fun t A B row h hg hr => by
      obtain ⟨R, h1, h2, h3⟩ := h
      exact ⟨R, h1, row_step h2 hg hr, h3⟩) _)
    ?assign ?body ?done ?stop
  case assign =>
    intro l pre x W K hI hK
    obtain ⟨⟨hall, ⟨v, h3, hown⟩, h0, h1, h2⟩, hB, hWs⟩ := hI
    have hfin := fun a' (ha : _) => hK a' (W.alloc (.cells (rdA x.2) 126)) ((KeepsOthers.alloc W _).from _) ⟨fun y => y.alloc _, fun y => y.below ((Below.refl _ W).alloc (by omega) _), fun b cs y => (Below.heap_alloc _ _ _ (Array.getElem?_eq_some_iff.1 y).1).trans y⟩ ⟨⟨hall, ⟨v, h3.alloc _, hown.alloc _⟩, h0.alloc _, h1.alloc _, h2.alloc _⟩, hB.alloc (by omega) _, by simp; omega⟩ ⟨W.heap.size, by omega, heap_alloc_last W _, ha⟩
    have HF := hid_of hfin
    clear hfin hK hall h3 hown h0 h1 h2
    gi_wp2
    exact HF.out _ rfl
  case body =>
    rintro l pre x a' W hl hrec ⟨⟨hall, ⟨v, h3, hown⟩, h0, h1, h2⟩, hB, hWs⟩ ⟨R, hR5, hRh, rfl⟩ hlen
    obtain ⟨d0, d1, d2, d3⟩ := rdCells hRh
    have c0 := h0.cell; have f0 := h0.frozen; have c1 := h1.cell; have f1 := h1.frozen; have c2 := h2.cell; have f2 := h2.frozen; have c3 := h3.cell
    have HA := hid_of hall
    clear hall hrec hwf hr0 hr
    by_cases he : x.2.2.2.2 = 0
    · rw [he] at d3
      have d3' : W.cell? ⟨R, 3, none⟩ = some (.int .i64 0) := d3
      clear d3
      gi_wp2_with (gi_at_builtin; refine wpListIn_append_own _ rfl _ _ 22 rfl (w.heap.size + 5) 54 i0 (.agg #[.int .u8 0, .int .u32 0]) 2 8 Tryd.underlying22 hi hz0 hz1 hz2 rfl (by decide) _ _ _ rfl (hown.alloc _) ⟨_, 0, none⟩ 1 1 [.int .u8 x.2.1, .int .u32 x.2.2.1] rfl rfl ?g1 ?g2 ?g3 ?g4 ?g5 ?_)
      case g1 =>
        intro j u hj
        match j, hj with
        | 0, hj => simp at hj; subst hj; simp [Addr.add]
        | 1, hj => simp at hj; subst hj; simp [Addr.add]
      case g2 => intro u hu; simp at hu; rcases hu with rfl | rfl <;> rfl
      case g3 => unfold maxLen; omega
      case g4 => omega
      case g5 => simp; omega
      intro v' W1 own1 hg1 _
      obtain ⟨g, gc, rfl, _⟩ := own_form own1 (by omega)
      have hbx := gbox2 h3 (by omega) hown hg1
      have c4 := hbx.cell
      have f4 := hbx.frozen
      have hsz1 : W.heap.size ≤ W1.heap.size := by have := hg1.size; simp at this; omega
      gi_wp2
      have hBW : Below w.heap.size W (W1.setCell ⟨w.heap.size + 1 + 1 + 1, 0, none⟩ (.slice (some ⟨g, 0, none⟩) (pre.length + 1) gc)) := by
        refine Below.setCell ?_ (p := ⟨w.heap.size + 1 + 1 + 1, 0, none⟩) (by show w.heap.size ≤ w.heap.size + 1 + 1 + 1; omega) _
        exact ((Below.refl _ W).alloc (by omega) _).grown hg1 (by simp; omega) (fun k e => by have := (hown.lt k e).1; omega)
      refine ⟨?_, ⟨?_, ?_, ?_⟩, ⟨?_, ⟨_, hbx.set _, ?_⟩, ?_, ?_, ?_⟩, ?_, ?_⟩
      · refine ((((KeepsOthers.alloc W _).trans (KeepsOthers.of_grownBy hg1 ?_)).trans (KeepsOthers.setCell _ _ _)).from _)
        intro j o hj ho
        rcases (hown.alloc _).2 with ⟨rfl, _⟩ | ⟨g', cap', cur, rfl, _, hh, _⟩
        · simp [Value.ownBlock] at hj
        · simp [Value.ownBlock] at hj
          subst hj
          rw [hh] at ho
          cases ho
          rfl
      · exact fun hx => (gbox2 hx (by omega) hown hg1).other (by omega) _
      · exact fun y => y.below hBW
      · exact fun b cs y => rd_set hbx (by decide) (rd_keep hown hg1 y)
      · intro y hy
        rcases List.mem_append.1 hy with h | h
        · exact HA.out y h
        · simp at h; subst h; exact he
      · rw [List.map_append, cv_append, List.length_append]
        exact ownsRow_setCell_other own1 (fun e => by have := (own1.lt _ e).1; have e2 : (⟨w.heap.size + 1 + 1 + 1, 0, none⟩ : Addr).block = w.heap.size + 1 + 1 + 1 := rfl; omega) _
      · exact (gbox2 h0 (by omega) hown hg1).other (by omega) _
      · exact (gbox2 h1 (by omega) hown hg1).other (by omega) _
      · exact (gbox2 h2 (by omega) hown hg1).other (by omega) _
      · exact hB.trans hBW
      · simp; omega
    · have he' : ¬ ((x.2.2.2.2 : Nat) : Int) = 0 := by omega
      have e0 : BoxAny W w.heap.size 22 := ⟨_, h0⟩
      have e1 : BoxAny W (w.heap.size + 1) 3 := ⟨_, h1⟩
      have e2 : BoxAny W (w.heap.size + 1 + 1) 30 := ⟨_, h2⟩
      have n01 : w.heap.size ≠ w.heap.size + 1 := by omega
      have n10 : w.heap.size + 1 ≠ w.heap.size := by omega
      have n02 : w.heap.size ≠ w.heap.size + 1 + 1 := by omega
      have n20 : w.heap.size + 1 + 1 ≠ w.heap.size := by omega
      have n12 : w.heap.size + 1 ≠ w.heap.size + 1 + 1 := by omega
      have n21 : w.heap.size + 1 + 1 ≠ w.heap.size + 1 := by omega
      have G0 : w.heap.size ≤ (⟨w.heap.size, 0, none⟩ : Addr).block := Nat.le_refl _
      have G1 : w.heap.size ≤ (⟨w.heap.size + 1, 0, none⟩ : Addr).block := Nat.le_succ _
      have G2 : w.heap.size ≤ (⟨w.heap.size + 1 + 1, 0, none⟩ : Addr).block := Nat.le_succ_of_le (Nat.le_succ _)
      clear hown
      gi_wp2
      gi_region
      all_goals gi_wp2
      all_goals
        refine ⟨KeepsOthers.from ?_ _, ⟨pre, x, rfl, rfl, he, ?_, ?_, ?_⟩, ?_⟩
        · (repeat (first | exact KeepsOthers.refl _ | with_reducible refine keeps_drew ?_ | with_reducible refine KeepsOthers.trans ?_ (KeepsOthers.setCell _ _ _)))
        · (repeat (first | exact e0 | with_reducible refine boxed_drew ?_ | with_reducible refine any_drew ?_ | with_reducible refine any_set ?_ | with_reducible refine Boxed.other ?_ (by assumption) _ | with_reducible refine any_other ?_ (by assumption)))
        · (repeat (first | exact e1 | with_reducible refine boxed_drew ?_ | with_reducible refine any_drew ?_ | with_reducible refine any_set ?_ | with_reducible refine Boxed.other ?_ (by assumption) _ | with_reducible refine any_other ?_ (by assumption)))
        · (repeat (first | exact e2 | with_reducible refine boxed_drew ?_ | with_reducible refine any_drew ?_ | with_reducible refine any_set ?_ | with_reducible refine Boxed.other ?_ (by assumption) _ | with_reducible refine any_other ?_ (by assumption)))
        · (repeat (first | exact hB | with_reducible refine Below.drew ?_ | with_reducible refine Below.setCell ?_ (by assumption) _))
  case done =>
    rintro D ys W hD hys ⟨⟨hall, ⟨v, h3, hown⟩, h0, h1, h2⟩, hB, hWs⟩ hK
    have c0 := h0.cell; have f0 := h0.frozen; have c1 := h1.cell; have f1 := h1.frozen; have c2 := h2.cell; have f2 := h2.frozen; have c3 := h3.cell
    have HE := hid_of (dec_ok hys hall)
    obtain ⟨va, vc, hv⟩ := own_any hown
    subst hv
    clear hall hys hwf hr hr0
    gi_wp2
    have hKd : (((W.setCell ⟨w.heap.size, 0, none⟩ (.slice va ys.length vc)).setCell ⟨w.heap.size + 1, 0, none⟩ (.int .i64 0)).setCell ⟨w.heap.size + 1 + 1, 0, none⟩ (.int .i64 0)).heap[D]? = some (.deferred (some [])) := by
      rw [heap_set_ne (b := w.heap.size + 1 + 1) (by omega), heap_set_ne (b := w.heap.size + 1) (by omega), heap_set_ne (b := w.heap.size) (by omega)]; exact hK
    have q0 := ((h0.set (.slice va ys.length vc)).other (show w.heap.size ≠ w.heap.size + 1 by omega) (.int .i64 0)).other (show w.heap.size ≠ w.heap.size + 1 + 1 by omega) (.int .i64 0)
    have q1 := ((h1.other (show w.heap.size + 1 ≠ w.heap.size by omega) (.slice va ys.length vc)).set (.int .i64 0)).other (show w.heap.size + 1 ≠ w.heap.size + 1 + 1 by omega) (.int .i64 0)
    have q2 := ((h2.other (show w.heap.size + 1 + 1 ≠ w.heap.size by omega) (.slice va ys.length vc)).other (show w.heap.size + 1 + 1 ≠ w.heap.size + 1 by omega) (.int .i64 0)).set (.int .i64 0)
    have own2 : (((W.setCell ⟨w.heap.size, 0, none⟩ (.slice va ys.length vc)).setCell ⟨w.heap.size + 1, 0, none⟩ (.int .i64 0)).setCell ⟨w.heap.size + 1 + 1, 0, none⟩ (.int .i64 0)).ownsRow (w.heap.size + 5) 54 2 (.slice va ys.length vc) ys.length (cv (ys.map gIt)) :=
      ownsRow_setCell_other (ownsRow_setCell_other (ownsRow_setCell_other hown (own_nt (b := w.heap.size) hown (by omega)) _) (own_nt (b := w.heap.size + 1) hown (by omega)) _) (own_nt (b := w.heap.size + 1 + 1) hown (by omega)) _
    have hB2 : Below w.heap.size w (((W.setCell ⟨w.heap.size, 0, none⟩ (.slice va ys.length vc)).setCell ⟨w.heap.size + 1, 0, none⟩ (.int .i64 0)).setCell ⟨w.heap.size + 1 + 1, 0, none⟩ (.int .i64 0)) :=
      ((hB.setCell (p := ⟨w.heap.size, 0, none⟩) (Nat.le_refl _) _).setCell (p := ⟨w.heap.size + 1, 0, none⟩) (Nat.le_succ _) _).setCell (p := ⟨w.heap.size + 1 + 1, 0, none⟩) (Nat.le_succ_of_le (Nat.le_succ _)) _
    generalize (((W.setCell ⟨w.heap.size, 0, none⟩ (.slice va ys.length vc)).setCell ⟨w.heap.size + 1, 0, none⟩ (.int .i64 0)).setCell ⟨w.heap.size + 1 + 1, 0, none⟩ (.int .i64 0)) = W' at *
    refine ⟨by simp, .inl ⟨_, _, rfl, run_takeDeferred (w := W') hKd, ?_⟩⟩
    refine ⟨_, res3 (heap_put hKd rfl q0) (heap_put hKd rfl q1) (heap_put hKd rfl q2) rfl rfl rfl, ?_⟩
    obtain ⟨e1, e2, e3⟩ := HE.out
    refine ⟨_, by rw [e2, e3]; rfl, ?_, hB2.trans (belowK_b (w := w) (Nat.le_refl _) W' D _ _ (by omega) hKd rfl rfl)⟩
    rw [e1, List.length_map]
    exact own_lower (grow_step2 own2 (grownBy_putObj' W' D _) (fun r e => by cases e; exact ⟨_, hKd, rfl⟩)) (by omega)
  case stop =>
    rintro D c pre W hD hpre ⟨⟨q, x, rfl, rfl, hx, h0, h1, h2⟩, hB⟩ hK
    have HE := hid_of (dec_bad hpre hx)
    clear hpre hwf hr hr0
    gi_wp2
    refine ⟨by simp, .inl ⟨_, _, rfl, run_takeDeferred (w := W) hK, ?_⟩⟩
    refine ⟨_, res3 (heap_put hK rfl h0) (heap_put hK rfl h1) (heap_put hK rfl h2) rfl rfl rfl, ?_⟩
    obtain ⟨e1, e2, e3⟩ := HE.out
    refine ⟨_, by rw [e2, e3], ?_, hB.trans (belowK_b (w := w) (Nat.le_refl _) W D _ _ (by omega) hK rfl rfl)⟩
    rw [e1]
    exact World.ownsRow_nil _ _ _ _
end Go.Proofs.YtnplimdcfbgpeaaDoor
