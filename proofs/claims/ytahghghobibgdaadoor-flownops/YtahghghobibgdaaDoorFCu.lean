import Derived.Test.YtahghghobibgdaaDoorFCt
import Derived.Test.YtahghghobibgdaaDoorPAl
import Derived.Test.YtahghghobibgdaaDoorCFNx
namespace Go.Proofs.YtahghghobibgdaaDoor
open Go.RowKit Go.WideShapes Go.Shelf
set_option maxRecDepth 100000
attribute [local go_sem] Oper.semAt_some

/-- what charted leaves -/
def CtP (w : World) (ao : Option Addr) (cap : Nat) (L : List (Nat × Nat)) (J : List Nat) (e : Ending) (w' : World) : Prop :=
  Below w.heap.size w w' ∧ ((∃ i x : Nat, e = .returned (.tuple #[.pointer none, .int .i64 i, .int .i64 x]) ∧ x ≠ 0 ∧ FdB L J [] i x) ∨
    (∃ kc pp ta tc, e = .returned (.tuple #[.pointer (some ⟨kc, 0, none⟩), .int .i64 0, .int .i64 0]) ∧ ChS w' kc pp ta tc ao cap L J ∧ FdG L J [] ∧ w.heap.size ≤ kc))
/-- what abides while targets are gathered -/
def CtI (W4 : World) (kc pp : Nat) (ao : Option Addr) (cap : Nat) (L : List (Nat × Nat)) (J : List Nat) (pre : List Nat) (U : World) : Prop :=
  Kp (fun i => i = kc) W4 U ∧ ∃ tv ts, U.heap[kc]? = some (.cells #[.slice ao L.length cap, .pointer (some ⟨pp, 0, none⟩), tv] 92 (0, 0)) ∧ U.ownsRow W4.heap.size 23 1 tv pre.length ts ∧ ∀ k, k < pre.length → ∃ a c, ts[k]? = some (.slice a (tgs L J k).length c) ∧ JRo U a (tgs L J k)
theorem CtI.step {W4 : World} {kc pp : Nat} {ao : Option Addr} {cap : Nat} {L : List (Nat × Nat)} {J : List Nat} {pre : List Nat} {A C : World} {row : Option Nat} (h : CtI W4 kc pp ao cap L J pre A) (hg : A.grownBy C row) (hr : ∀ r, row = some r → W4.heap.size ≤ r ∧ ∃ o : Obj, A.heap[r]? = some o ∧ o.isCells = false) : CtI W4 kc pp ao cap L J pre C := by
  obtain ⟨h1, tv, ts, h2, h3, h4⟩ := h
  have hk : Kp (fun k => row = some k) A C := Kp.ofGrown hg (fun i e _ => e)
  have no : ∀ b cs t fr, A.heap[b]? = some (.cells cs t fr) → ¬ row = some b := fun b cs t fr hb e => by
    obtain ⟨_, o, ho, hc⟩ := hr b e
    rw [hb] at ho
    cases ho
    cases hc
  refine ⟨h1.trans hk (fun i hi e => by have := (hr i e).1; omega), tv, ts, (hk.block kc (Array.getElem?_eq_some_iff.1 h2).1 (no _ _ _ _ h2)).trans h2, hk.own h3 (fun k e q => ?_), fun k hk2 => ?_⟩
  · rcases h3.2 with hn | ⟨g', cap', cur', e1, e2, e3, e4⟩
    · rw [hn.1] at e
      cases e
    · rw [e1] at e
      cases e
      exact no _ _ _ _ e3 q
  · obtain ⟨a, c, e1, e2⟩ := h4 k hk2
    exact ⟨a, c, e1, e2.kept hk (fun i e cs ho => no _ _ _ _ ho e)⟩
theorem CtI.new {W4 U w2 : World} {kc pp : Nat} {ao : Option Addr} {cap : Nat} {L : List (Nat × Nat)} {J : List Nat} {pre : List Nat} {tv tv' : Value} {ts : List Value} {ra : Option Addr} {rc : Nat} (hkc : kc < W4.heap.size)
    (h1 : Kp (fun i => i = kc) W4 U) (h2 : U.heap[kc]? = some (.cells #[.slice ao L.length cap, .pointer (some ⟨pp, 0, none⟩), tv] 92 (0, 0))) (h3 : U.ownsRow W4.heap.size 23 1 tv pre.length ts) (h4 : ∀ k, k < pre.length → ∃ a c, ts[k]? = some (.slice a (tgs L J k).length c) ∧ JRo U a (tgs L J k))
    (g1 : w2.ownsRow W4.heap.size 23 1 tv' (pre.length + 1) (ts ++ [.slice ra (tgs L J pre.length).length rc])) (g2 : JRo w2 ra (tgs L J pre.length)) (g3 : Kp (fun k => tv.ownBlock = some k) U w2) (x : Nat) :
    CtI W4 kc pp ao cap L J (pre ++ [x]) (w2.setCell ⟨kc, 2, none⟩ tv') := by
  have ntv : ∀ k, tv.ownBlock = some k → W4.heap.size ≤ k ∧ ∀ cs, U.heap[k]? ≠ some (.cells cs 36 (0, 0)) := fun k e => ⟨(h3.lt k e).1, fun cs ho => by
    rcases h3.2 with hn | ⟨g', cap', cur', e1, e2, e3, e4⟩
    · rw [hn.1] at e
      cases e
    · rw [e1] at e
      cases e
      rw [e3] at ho
      cases ho⟩
  have ob2 := (g3.block kc (Array.getElem?_eq_some_iff.1 h2).1 (fun q => by have := (ntv kc q).1; omega)).trans h2
  have hkset := Kp.setCell (S := fun i => i = kc) w2 ⟨kc, 2, none⟩ tv' rfl
  have nob : ∀ i, i = kc → ∀ cs, w2.heap[i]? ≠ some (.cells cs 36 (0, 0)) := fun i e cs ho => by
    rw [e, ob2] at ho
    cases ho
  have hlen : ts.length = pre.length := by rw [h3.1, Nat.mul_one]
  refine ⟨(h1.trans g3 (fun i hi q => by have := (ntv i q).1; omega)).trans hkset (fun _ _ q => q), tv', ts ++ [.slice ra (tgs L J pre.length).length rc], ?_, ?_, fun k hk => ?_⟩
  · rw [heap_setCell_same w2 kc 2 _ _ _ ob2]
    rfl
  · rw [List.length_append]
    exact ownsRow_setCell_below (a := ⟨kc, 2, none⟩) g1 hkc _
  · rw [List.length_append, List.length_singleton] at hk
    by_cases he : k < pre.length
    · obtain ⟨a, c, e1, e2⟩ := h4 k he
      exact ⟨a, c, by rw [List.getElem?_append_left (by omega)]; exact e1, (e2.kept g3 (fun i e => (ntv i e).2)).kept hkset nob⟩
    · have hk2 : k = pre.length := by omega
      subst hk2
      exact ⟨ra, rc, by rw [List.getElem?_append_right (by omega), hlen]; simp, g2.kept hkset nob⟩
set_option maxHeartbeats 4000000 in
theorem charted_any (ao aj : Option Addr) (cap capj : Nat) (L : List (Nat × Nat)) (J : List Nat) (w : World) (hn : L.length ≤ 9223372036854775807) (hJn : J.length ≤ 9223372036854775807) (hwf : Wfc L) (hJ : ∀ z ∈ J, z < 4294967296)
    (hr : CRd w ao L w.heap.size) (hrJ : JRd w aj J w.heap.size) (hT : TabW w) (hp : 0 < w.heap.size) :
    Calls Tryd.prog 19 #[.slice ao L.length cap, .slice aj J.length capj] w (CtP w ao cap L J) := by
  have HFd : Calls Tryd.prog 8 #[.slice ao L.length cap, .slice aj J.length capj, .slice none 0 0] w fun e w' => Below w.heap.size w w' ∧ ((∃ i x : Nat, e = .returned (.tuple #[.pointer none, .int .i64 i, .int .i64 x]) ∧ x ≠ 0 ∧ FdB L J [] i x) ∨
    (∃ (B pp p1 g1 p2 g2 : Nat) (lv : Value) (A C : List Nat), e = .returned (.tuple #[.pointer (some ⟨pp, 0, none⟩), .int .i64 0, .int .i64 0]) ∧ PrS w' B pp p1 g1 p2 g2 L.length lv (prL L) A C ∧ (∀ y, hasW A y = isEn L y) ∧ (∀ y, hasW C y = decide (y ∈ J)) ∧ (∀ k ∈ [pp, p1, g1, p2, g2], w.heap.size ≤ k) ∧ w.heap.size ≤ B ∧ FdG L J [])) := find_any ao aj none cap capj 0 L J [] w hn hJn (by simp) hwf hJ (fun j hj => absurd hj (by simp)) hr hrJ (fun q => absurd q (by simp)) hT hp
  refine (callsIn_wide (n := 30)).1 ?_
  refine callsIn_of_wp_marks Tryd.func19 rfl trivial ?_ rfl
  simp only [Tryd.ntmps19, List.size_toArray, List.length_cons, List.length_nil, Nat.reduceAdd, Nat.reduceSub, Array.replicate_succ, Array.replicate_zero, List.push_toArray, List.append_toArray, List.nil_append, List.cons_append]
  have HFi := (callsIn_wide (n := 29)).2 HFd
  gi_wp2_with fail
  refine ⟨trivial, HFi.mono ?_⟩
  rintro e w1 ⟨hb1, ⟨i1, x1, rfl, hx1, hfb⟩ | ⟨B, pp, p1, g1, p2, g2, lv, A, C, rfl, hP, hA, hC, hk1, hB1, hG⟩⟩
  · have hxI : ¬ (x1 : Int) = 0 := by omega
    have HB := hidS (And.intro hb1 (And.intro hx1 hfb))
    clear hb1 hx1 hfb HFi HFd hr hrJ hT
    gi_wp2
    refine ⟨.tuple #[.pointer none, .int .i64 i1, .int .i64 x1], by simp [results, Tryd.f19, go_sem], belP HB.out.1, .inl ⟨i1, x1, rfl, HB.out.2⟩⟩
  · obtain ⟨al, capl, rfl, hrd⟩ := hP.reads
    have hl := encX_len hG.enc
    have hml : (bgs L).length ≤ 16384 := Nat.le_trans (els_le _ _) hl
    have HPl : Hid ((prL L).length = (bgs L).length) := hidS (prs_len _ _)
    have HA : Hid (∀ W, Below w1.heap.size w1 W → CallsIn Fence.wide 29 Tryd.prog 37 #[.pointer (some ⟨pp, 0, none⟩)] W fun e w' => e = .returned (.func (.func 57) #[] #[.pointer (some ⟨W.heap.size, 0, none⟩)]) ∧ w' = W.alloc (.cells #[.slice al (prL L).length capl] 69)) := hidS (fun W hW => callsIn_wide.2 (pall_any pp (prL L).length capl al W (hP.below hW).c0 (hP.below hW).c1))
    have HP := hidS (And.intro hP (And.intro hrd (And.intro hC hG)))
    have HR := hidS (And.intro hr (And.intro hT (And.intro hp hb1)))
    clear hP hrd hC hG hA hr hrJ hT HFi HFd hk1
    gi_wp2_with ((first | refine ⟨trivial, fun _ => by omega, ?_⟩ | refine ⟨trivial, ?_⟩); gi_at_call 37; refine (HA.out _ (belP (belP (belP (Below.refl _ _))))).mono ?_; rintro en w2 ⟨rfl, hw2⟩)
    obtain ⟨kf, hkf⟩ : ∃ k, w1.heap.size = k := ⟨_, rfl⟩
    have hb2 : Below w1.heap.size w1 w2 := by rw [hw2]; exact belP (belP (belP (belP (Below.refl _ _))))
    have hz2 : w2.heap.size = kf + 4 := by rw [hw2, ← hkf]; simp only [World.size_alloc]
    have of2 : w2.heap[kf]? = some (.cells #[.pointer (some ⟨pp, 0, none⟩)] 31 (0, 0)) := by
      rw [hw2, ← hkf, Below.heap_alloc _ _ _ (by simp only [World.size_alloc]; omega), Below.heap_alloc _ _ _ (by simp only [World.size_alloc]; omega), Below.heap_alloc _ _ _ (by simp only [World.size_alloc]; omega)]
      exact heap_alloc_new _ _
    have oc2 : w2.heap[kf + 1]? = some (.cells #[.slice ao L.length cap, .pointer (some ⟨pp, 0, none⟩), .slice none 0 0] 92 (0, 0)) := by
      have := heap_alloc_new (w1.alloc (Obj.cells #[.pointer (some ⟨pp, 0, none⟩)] 31)) (Obj.cells #[.slice ao L.length cap, .pointer (some ⟨pp, 0, none⟩), .slice none 0 0] 92)
      rw [World.size_alloc, hkf] at this
      rw [hw2, Below.heap_alloc _ _ _ (by simp only [World.size_alloc]; omega), Below.heap_alloc _ _ _ (by simp only [World.size_alloc]; omega)]
      exact this
    have ob2 : w2.heap[kf + 2]? = some (.cells #[.pointer (some ⟨kf + 1, 0, none⟩)] 56 (0, 0)) := by
      have := heap_alloc_new ((w1.alloc (Obj.cells #[.pointer (some ⟨pp, 0, none⟩)] 31)).alloc (Obj.cells #[.slice ao L.length cap, .pointer (some ⟨pp, 0, none⟩), .slice none 0 0] 92)) (Obj.cells #[.pointer (some ⟨w1.heap.size + 1, 0, none⟩)] 56)
      rw [World.size_alloc, World.size_alloc, hkf] at this
      rw [hw2, Below.heap_alloc _ _ _ (by simp only [World.size_alloc]; omega), hkf]
      exact this
    have bl2 : Boxed w2 (kf + 3) 69 (.slice al (prL L).length capl) := by
      have := Boxed.new (((w1.alloc (Obj.cells #[.pointer (some ⟨pp, 0, none⟩)] 31)).alloc (Obj.cells #[.slice ao L.length cap, .pointer (some ⟨pp, 0, none⟩), .slice none 0 0] 92)).alloc (Obj.cells #[.pointer (some ⟨w1.heap.size + 1, 0, none⟩)] 56)) 69 (.slice al (prL L).length capl)
      rw [World.size_alloc, World.size_alloc, World.size_alloc, ← hw2, hkf] at this
      exact this
    rw [← hw2]
    simp only [Nat.add_assoc, Nat.reduceAdd]
    rw [hkf] at hb2 ⊢
    clear hw2 HA
    have HIN : Hid (∀ V, Kp (fun i => i = kf + 1) w2 V → InA (prL L) (kf + 3) al capl kf V) := hidS (fun V hk => ⟨(hk.block (kf + 3) bl2.lt (by show ¬ _ = kf + 1; omega)).trans bl2, by
      have hbV : Below kf w1 V := hb2.trans (hk.below (by omega) (fun i e => by omega))
      have := HP.out.2.1
      rw [hkf] at this
      exact this.below hbV⟩)
    have HW1 : Hid (∀ V, Kp (fun i => i = kf + 1) w2 V → Below w1.heap.size w1 V) := hidS (fun V hk => by rw [hkf]; exact hb2.trans (hk.below (by omega) (fun i e => by omega)))
    refine with_tmpsP fun T hT => ?_
    have HT := hidS hT
    clear hT
    refine range_outer (F := Fence.wide) rfl (by decide) (gf := 57) (lb := #[.pointer (some ⟨kf + 3, 0, none⟩)]) (by rw [HT.out]; rfl) trivial (enters_of Tryd.func57 (by kernel_rfl) rfl)
      (seqA (30 - 1) (by decide) (kf + 3) kf al capl (prL L) w2 (by rw [HPl.out]; exact hml) (HIN.out w2 (Kp.refl _ _)) (by omega)) KeA_t (KeA_b (w := w2)) (Below.refl _ _) (fun _ => rfl)
      (CtI w2 (kf + 1) pp ao cap L J)
      (fun c pre U => False)
      (fun s A C row h hg hr => h.step hg hr)
      (fun c s A C row h hg hr => h)
      ⟨Kp.refl _ _, .slice none 0 0, [], oc2, World.ownsRow_nil _ _ _ _, fun k hk => absurd hk (by simp)⟩
      (fun x a' U => a' = { tmps := ((((#[29, 30] : Array Tmp).zip (encP (prL L) x)).foldl (fun t (p, v) => t.setIfInBounds p v) T).setIfInBounds 11 (.int .i64 x)), defers := [] })
      (fun x a' => Own.from (fun t A C row h hg hr => h) _)
      ?assign ?body ?done (fun D c pre W _ _ h _ => h.elim)
    case assign =>
      intro l0 pre x V K hI hK
      have HF := hidS (fun a' (ha : _) => hK a' V (Upon.refl _ V) (fun y => y) hI ha)
      clear hK hI
      obtain ⟨pb, pe, pf, hq⟩ : ∃ pb pe pf, (prL L).getD x (0, 0, 0) = (pb, pe, pf) := ⟨_, _, _, rfl⟩
      simp only [encP, hq] at HF ⊢
      rw [HT.out]
      gi_wp2
      exact HF.out _ (by rw [HT.out]; simp)
    case body =>
      rintro l0 pre x a' U hl0 hrec ⟨h1, tv, ts, h2, h3, h4⟩ rfl hln hsp
      obtain ⟨hxp, hxm⟩ := range_at hsp
      have hbU := HW1.out U h1
      have hPU := HP.out.1.kept (S := fun i => i = kf + 1) ((Kp.ofBelow (by rw [hkf]; exact hb2)).trans h1 (fun _ _ q => q)) (fun i hi e => by omega)
      have hxb : x < (bgs L).length := by rw [← HPl.out]; exact hxm
      have hpe := prL_get L hxb
      have hC2 : rng (hasW C) (bAt L x) (bAt L (x + 1)) = tgs L J x := by
        unfold tgs
        congr 1
        funext y
        exact HP.out.2.2.1 y
      have hTU : TabW U := (HR.out.2.1.below HR.out.2.2.2 HR.out.2.2.1).below hbU (Nat.lt_of_lt_of_le HR.out.2.2.1 HR.out.2.2.2.size)
      have HTg : Hid (∀ W, Below U.heap.size U W → Calls Tryd.prog 38 #[.pointer (some ⟨pp, 0, none⟩), .int .i64 x] W fun e w' => ∃ v, e = .returned v ∧ w'.ownsRow W.heap.size 36 1 v (tgs L J x).length (dv (tgs L J x)) ∧ Below W.heap.size W w') := hidS (fun W hW => by
        have h5 := ptargets_in x W hxm hl (by rw [hpe]; exact ⟨Nat.le_trans (Nat.le_of_lt (bAt_lt hxb)) (bgs_end _), bgs_end _⟩) (hTU.below hW (Nat.lt_of_lt_of_le (Nat.lt_of_lt_of_le HR.out.2.2.1 HR.out.2.2.2.size) hbU.size)) (hPU.below hW)
        rw [hpe] at h5
        simp only at h5
        rw [hC2] at h5
        exact h5)
      have hUz := h1.size
      have c0 : U.cell? ⟨kf + 2, 0, none⟩ = some (.pointer (some ⟨kf + 1, 0, none⟩)) := (h1.cell (p := ⟨kf + 2, 0, none⟩) (by show kf + 2 < _; omega) (by show ¬ kf + 2 = kf + 1; omega)).trans ((obj_cell ob2 0).trans rfl)
      have c2 : U.cell? ⟨kf, 0, none⟩ = some (.pointer (some ⟨pp, 0, none⟩)) := (h1.cell (p := ⟨kf, 0, none⟩) (by show kf < _; omega) (by show ¬ kf = kf + 1; omega)).trans ((obj_cell of2 0).trans rfl)
      obtain ⟨pb, pe, pf, hq⟩ : ∃ pb pe pf, (prL L).getD x (0, 0, 0) = (pb, pe, pf) := ⟨_, _, _, rfl⟩
      simp only [encP, hq]
      rw [HT.out]
      simp only [List.zip_toArray, List.zip_cons_cons, List.zip_nil_right, List.foldl_toArray', List.foldl_cons, List.foldl_nil, List.setIfInBounds_toArray, List.set_cons_succ, List.set_cons_zero]
      refine wpIn_block ?_
      subst hxp
      refine ct_lay (n := 27) kf (kf + 2) (kf + 1) pp pre.length w2.heap.size pre.length tv (.slice ao L.length cap) ts (tgs L J pre.length) hUz (by omega) h3 ⟨by omega, by omega, by omega⟩ c0 h2 c2 HTg.out (fun _ _ _ _ _ h => h) ?_
      intro a' tv' w' ra rc g1 g2 g3
      have hct := CtI.new (W4 := w2) (x := pre.length) (by omega) h1 h2 h3 h4 g1 g2 g3
      have hup : Upon w2.heap.size U w' := ⟨g3.size, fun k o _ hk hc => (g3.block k (Array.getElem?_eq_some_iff.1 hk).1 (fun e => by
        rcases h3.2 with hn | ⟨g', cap', cur', e1, e2, e3, e4⟩
        · rw [hn.1] at e
          cases e
        · rw [e1] at e
          cases e
          rw [e3] at hk
          cases hk
          cases hc)).trans hk⟩
      exact ⟨hup.trans (Upon.setCell _ _ _), fun _ => HIN.out _ hct.1, hct⟩
    case done =>
      rintro D1 xs U hD hS ⟨h1, tv, ts, h2, h3, h4⟩ hd
      subst hS
      rw [List.length_range, HPl.out] at h3 h4
      have hpos := bgs_pos HP.out.2.2.2.fst
      obtain ⟨g, gc, htv⟩ : ∃ g c, tv = .slice (some ⟨g, 0, none⟩) (bgs L).length c := by
        rcases h3.2 with ⟨_, hz⟩ | ⟨g', cap', cur', e1, _⟩
        · omega
        · exact ⟨_, _, e1⟩
      subst htv
      have c0 : U.cell? ⟨kf + 2, 0, none⟩ = some (.pointer (some ⟨kf + 1, 0, none⟩)) := (h1.cell (p := ⟨kf + 2, 0, none⟩) (by show kf + 2 < _; omega) (by show ¬ kf + 2 = kf + 1; omega)).trans ((obj_cell ob2 0).trans rfl)
      have HF : Hid (ChS (U.putObj D1 (.deferred none)) (kf + 1) pp (some ⟨g, 0, none⟩) gc ao cap L J ∧ Below w.heap.size w (U.putObj D1 (.deferred none))) := hidS (by
        have hkp : Kp (fun i => i = D1) U (U.putObj D1 (.deferred none)) := Kp.ofGrown (grownBy_putObj' _ D1 (.deferred none)) (fun i e _ => by cases e; rfl)
        have hk1 : Kp (fun i => i = kf + 1 ∨ i = D1) w1 (U.putObj D1 (.deferred none)) := (((Kp.ofBelow (S := fun i => i = kf + 1) (by rw [hkf]; exact hb2)).trans h1 (fun _ _ q => q)).mono (fun _ _ q => .inl q)).trans hkp (fun _ _ q => .inr q)
        have hbU : Below w1.heap.size w1 (U.putObj D1 (.deferred none)) := hk1.below (Nat.le_refl _) (fun i e => by omega)
        have hbw := btP hb1 hbU
        have noD : ∀ b cs t fr, U.heap[b]? = some (.cells cs t fr) → ¬ b = D1 := fun b cs t fr hb e => by
          rw [e, hd] at hb
          cases hb
        have h3' := hkp.own h3 (fun k e q => by
          rcases h3.2 with hn | ⟨g', cap', cur', e1, e2, e3, e4⟩
          · cases hn.1
          · cases e1
            cases e
            exact noD _ _ _ _ e3 q)
        refine ⟨⟨(hkp.block _ (Array.getElem?_eq_some_iff.1 h2).1 (noD _ _ _ _ h2)).trans h2, ⟨B, p1, g1, p2, g2, _, A, C, HP.out.1.kept hk1 (fun i hi e => by omega)⟩, CRd.mono (CRd.below HR.out.1 hbw) hbw.size, g, 0, rfl, (h3'.lt g rfl).2, fun k hk => ?_⟩, hbw⟩
        obtain ⟨a, c, e1, e2⟩ := h4 k hk
        refine ⟨a, c, ?_, (e2.kept hkp (fun i e cs ho => noD _ _ _ _ ho e)).jrd⟩
        rw [Nat.zero_add]
        exact (h3'.cellAt k (by omega)).trans e1)
      have HD := hidS hd
      clear h1 h2 h3 h4 hd
      rw [HT.out]
      gi_wp2
      refine ⟨by simp, .inl ⟨_, _, rfl, run_takeDeferred HD.out, ?_⟩⟩
      refine ⟨.tuple #[.pointer (some ⟨kf + 1, 0, none⟩), .int .i64 0, .int .i64 0], by simp [results, Tryd.f19, go_sem], HF.out.2, .inr ⟨kf + 1, pp, some ⟨g, 0, none⟩, gc, rfl, HF.out.1, HP.out.2.2.2, by have := hb1.size; omega⟩⟩
end Go.Proofs.YtahghghobibgdaaDoor
