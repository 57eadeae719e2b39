import Derived.Test.YtgbpfejodpplbaaGreatDoorCPRg
import Derived.Test.YtgbpfejodpplbaaGreatDoorCPCm
namespace Go.Proofs.YtgbpfejodpplbaaGreatDoor
open Go.RowKit Go.WideShapes Go.Shelf
set_option maxRecDepth 100000
attribute [local go_sem] Oper.semAt_some

/-- the two sets of cut, ahead of the Procs -/
structure Cut0 (w V : World) (kC p1 g1 p2 g2 : Nat) (ao : Option Addr) (cap : Nat) (L : List (Nat × Nat)) : Prop where
  bC : Boxed V kC 22 (.slice ao L.length cap)
  s1 : SetS V p1 g1 L.length (List.replicate ((L.length + 63) / 64) 0)
  s2 : SetS V p2 g2 L.length (List.replicate ((L.length + 63) / 64) 0)
  bel : Below w.heap.size w V
  nd : kC < p1 ∧ kC < g1 ∧ p1 ≠ g1 ∧ p1 < p2 ∧ p1 < g2 ∧ g1 < p2 ∧ g1 < g2 ∧ p2 ≠ g2
  lo : w.heap.size ≤ kC
theorem Cut0.low {w V : World} {kC p1 g1 p2 g2 : Nat} {ao : Option Addr} {cap : Nat} {L : List (Nat × Nat)} (h : Cut0 w V kC p1 g1 p2 g2 ao cap L) : p2 < V.heap.size ∧ g2 < V.heap.size := ⟨h.s2.ltp, h.s2.ltg⟩
theorem Cut0.one {w V : World} {kC p1 g1 p2 g2 : Nat} {ao : Option Addr} {cap : Nat} {L : List (Nat × Nat)} (h : Cut0 w V kC p1 g1 p2 g2 ao cap L) :
    CutS w ((V.alloc (Obj.cells #[.pointer none, .slice none 0 0, .pointer (some ⟨p1, 0, none⟩), .pointer (some ⟨p2, 0, none⟩)] 111)).alloc (Obj.cells #[.pointer (some ⟨V.heap.size, 0, none⟩)] 49)) kC (V.heap.size + 1) V.heap.size p1 g1 p2 g2 ao cap L := by
  obtain ⟨n1, n2, n3, n4, n5, n6, n7, n8⟩ := h.nd
  obtain ⟨m1, m2⟩ := h.low
  have lo := h.lo
  have hk : Kp (fun _ => False) V ((V.alloc (Obj.cells #[.pointer none, .slice none 0 0, .pointer (some ⟨p1, 0, none⟩), .pointer (some ⟨p2, 0, none⟩)] 111)).alloc (Obj.cells #[.pointer (some ⟨V.heap.size, 0, none⟩)] 49)) := (Kp.alloc V _).trans (Kp.alloc _ _) (fun _ _ q => q)
  refine ⟨(h.bC.alloc _).alloc _, ?_, (Below.heap_alloc _ _ _ (by simp)).trans (heap_alloc_new V _), h.s1.kept hk (fun q => q) (fun q => q), h.s2.kept hk (fun q => q) (fun q => q), h.bel.trans (hk.below h.bel.size (fun _ q => q.elim)), ?_, ?_⟩
  · have := Boxed.new (V.alloc (Obj.cells #[.pointer none, .slice none 0 0, .pointer (some ⟨p1, 0, none⟩), .pointer (some ⟨p2, 0, none⟩)] 111)) 49 (.pointer (some ⟨V.heap.size, 0, none⟩))
    rw [World.size_alloc] at this
    exact this
  · simp only [List.nodup_cons, List.mem_cons, List.not_mem_nil, or_false, not_or, List.nodup_nil, and_true, not_false_eq_true]
    omega
  · simp only [List.mem_cons, List.not_mem_nil, or_false, forall_eq_or_imp, forall_eq]
    omega
theorem Cut0.two {w V : World} {kC p1 g1 p2 g2 : Nat} {ao : Option Addr} {cap : Nat} {L : List (Nat × Nat)} (h : Cut0 w V kC p1 g1 p2 g2 ao cap L) :
    CutS w ((V.alloc (Obj.cells #[.pointer (some ⟨V.heap.size + 1, 0, none⟩)] 49)).alloc (Obj.cells #[.pointer none, .slice none 0 0, .pointer (some ⟨p1, 0, none⟩), .pointer (some ⟨p2, 0, none⟩)] 111)) kC V.heap.size (V.heap.size + 1) p1 g1 p2 g2 ao cap L := by
  obtain ⟨n1, n2, n3, n4, n5, n6, n7, n8⟩ := h.nd
  obtain ⟨m1, m2⟩ := h.low
  have lo := h.lo
  have hk : Kp (fun _ => False) V ((V.alloc (Obj.cells #[.pointer (some ⟨V.heap.size + 1, 0, none⟩)] 49)).alloc (Obj.cells #[.pointer none, .slice none 0 0, .pointer (some ⟨p1, 0, none⟩), .pointer (some ⟨p2, 0, none⟩)] 111)) := (Kp.alloc V _).trans (Kp.alloc _ _) (fun _ _ q => q)
  refine ⟨(h.bC.alloc _).alloc _, (Boxed.new V _ _).alloc _, ?_, h.s1.kept hk (fun q => q) (fun q => q), h.s2.kept hk (fun q => q) (fun q => q), h.bel.trans (hk.below h.bel.size (fun _ q => q.elim)), ?_, ?_⟩
  · have := heap_alloc_new (V.alloc (Obj.cells #[.pointer (some ⟨V.heap.size + 1, 0, none⟩)] 49)) (Obj.cells #[.pointer none, .slice none 0 0, .pointer (some ⟨p1, 0, none⟩), .pointer (some ⟨p2, 0, none⟩)] 111)
    rw [World.size_alloc] at this
    exact this
  · simp only [List.nodup_cons, List.mem_cons, List.not_mem_nil, or_false, not_or, List.nodup_nil, and_true, not_false_eq_true]
    omega
  · simp only [List.mem_cons, List.not_mem_nil, or_false, forall_eq_or_imp, forall_eq]
    omega
theorem Cut0.three {w V : World} {kC kP p1 g1 p2 g2 : Nat} {ao : Option Addr} {cap : Nat} {L : List (Nat × Nat)} (h : Cut0 w V kC p1 g1 p2 g2 ao cap L) (bP : Boxed V kP 49 (.pointer none)) (hn : kC < kP ∧ kP ≠ p1 ∧ kP ≠ g1 ∧ kP ≠ p2 ∧ kP ≠ g2) :
    CutS w ((V.alloc (Obj.cells #[.pointer none, .slice none 0 0, .pointer (some ⟨p1, 0, none⟩), .pointer (some ⟨p2, 0, none⟩)] 111)).setCell ⟨kP, 0, none⟩ (.pointer (some ⟨V.heap.size, 0, none⟩))) kC kP V.heap.size p1 g1 p2 g2 ao cap L := by
  obtain ⟨n1, n2, n3, n4, n5, n6, n7, n8⟩ := h.nd
  obtain ⟨m1, m2⟩ := h.low
  obtain ⟨r0, r1, r2, r3, r4⟩ := hn
  have lo := h.lo
  have lP := bP.lt
  have hk : Kp (fun k => k = kP) V ((V.alloc (Obj.cells #[.pointer none, .slice none 0 0, .pointer (some ⟨p1, 0, none⟩), .pointer (some ⟨p2, 0, none⟩)] 111)).setCell ⟨kP, 0, none⟩ (.pointer (some ⟨V.heap.size, 0, none⟩))) := (Kp.alloc V _).trans (Kp.setCell (S := fun k => k = kP) _ _ _ rfl) (fun _ _ q => q)
  refine ⟨(h.bC.alloc _).other (by omega) _, (bP.alloc _).set _, ?_, h.s1.kept hk (by omega) (by omega), h.s2.kept hk (by omega) (by omega), h.bel.trans (hk.below h.bel.size (fun k q => by have := h.bel.size; omega)), ?_, ?_⟩
  · exact (Below.heap_setCell _ _ _ _ (by show V.heap.size ≠ kP; omega)).trans (heap_alloc_new V _)
  · simp only [List.nodup_cons, List.mem_cons, List.not_mem_nil, or_false, not_or, List.nodup_nil, and_true, not_false_eq_true]
    omega
  · simp only [List.mem_cons, List.not_mem_nil, or_false, forall_eq_or_imp, forall_eq]
    omega
set_option maxHeartbeats 2000000 in
theorem cut_any (ao : Option Addr) (cap : Nat) (L : List (Nat × Nat)) (w : World) (hl : L.length ≤ 16384) (hr : Cde w ao L w.heap.size) (hT : TabW w) (hp : 0 < w.heap.size) :
    Calls Tryz.prog 24 #[.slice ao L.length cap] w fun e w' => ∃ (B pp p1 g1 p2 g2 : Nat) (lv : Value) (A : List Nat), e = .returned (.pointer (some ⟨pp, 0, none⟩)) ∧ PrS w' B pp p1 g1 p2 g2 L.length lv (prs L (els L.length (isEn L))) A (List.replicate ((L.length + 63) / 64) 0) ∧ (∀ x, hasW A x = isEn L x) ∧ (∀ k ∈ [pp, p1, g1, p2, g2], w.heap.size ≤ k) ∧ w.heap.size ≤ B ∧ Below w.heap.size w w' := by
  refine (callsIn_wide (n := 30)).1 ?_
  refine callsIn_of_wp_marks Tryz.func24 rfl trivial ?_ rfl
  simp only [Tryz.ntmps24, List.size_toArray, List.length_cons, List.length_nil, Nat.reduceAdd, Nat.reduceSub, Array.replicate_succ, Array.replicate_zero, List.push_toArray, List.append_toArray, List.nil_append, List.cons_append]
  have HE : Hid (∀ W, Calls Tryz.prog 46 #[.int .i64 L.length] W fun e w' => ∃ p g, e = .returned (.pointer (some ⟨p, 0, none⟩)) ∧ SetS w' p g L.length (List.replicate ((L.length + 63) / 64) 0) ∧ W.heap.size ≤ p ∧ W.heap.size ≤ g ∧ Below W.heap.size W w') := hidS (fun W => empty_any L.length W (by omega))
  gi_wp2
  obtain ⟨W0, hW0⟩ : ∃ W0, w.alloc (Obj.cells #[.slice ao L.length cap] 22) = W0 := ⟨_, rfl⟩
  have bC : Boxed W0 w.heap.size 22 (.slice ao L.length cap) := by rw [← hW0]; exact Boxed.new w _ _
  have hB0 : Below w.heap.size w W0 := by rw [← hW0]; exact belP (Below.refl _ _)
  have hz0 : W0.heap.size = w.heap.size + 1 := by rw [← hW0]; simp
  rw [hW0]
  obtain ⟨kC, hkC⟩ : ∃ k, w.heap.size = k := ⟨_, rfl⟩
  rw [hkC] at bC hB0 hz0 ⊢
  have cC := bC.cell
  clear hW0
  have HS0 : Hid (InS kC (.slice ao L.length cap) W0) := hidS ⟨by omega, cC⟩
  refine with_tmpsP fun T0 hT0 => ?_
  have HT0 := hidS hT0
  clear hT0
  refine wpIn_mono (Q := fun e a V => e = .normal ∧ ∃ kP pp p1 g1 p2 g2, a = { tmps := ((((((((T0.setIfInBounds 3 (.pointer (some ⟨kP, 0, none⟩))).setIfInBounds 8 (.slice ao L.length cap)).setIfInBounds 9 (.int .i64 L.length)).setIfInBounds 10 (.pointer (some ⟨p1, 0, none⟩))).setIfInBounds 11 (.slice ao L.length cap)).setIfInBounds 12 (.int .i64 L.length)).setIfInBounds 13 (.pointer (some ⟨p2, 0, none⟩))).setIfInBounds 14 (.agg #[.pointer none, .slice none 0 0, .pointer (some ⟨p1, 0, none⟩), .pointer (some ⟨p2, 0, none⟩)])).setIfInBounds 15 (.pointer (some ⟨pp, 0, none⟩)), defers := [] } ∧ CutS w V kC kP pp p1 g1 p2 g2 ao cap L) ?region ?rest
  case region =>
    rw [HT0.out]
    refine wpIn_wide.2 ?_
    have tok1 : Hid True := hidS trivial
    have hkl : kC < W0.heap.size := by omega
    have HZ0 := hidS hz0
    clear hz0
    go_region_held3 (fun V => kC < V.heap.size ∧ V.cell? ⟨kC, 0, none⟩ = some (.slice ao L.length cap)) ((refine InS.out ?_; (repeat (first | exact HS0.out | with_reducible refine InS.alloc _ ?_ | with_reducible refine InS.drew ?_ | with_reducible refine InS.below hB2 ?_ | with_reducible refine InS.below hB1 ?_ | with_reducible refine InS.set _ (by have q1 := hB1.size; have q2 := hB2.size; simp at q1 q2 ⊢; omega) ?_)); done)) (first
      | (go_at_call 46; with_reducible refine (HE.out _).mono ?_; rintro e w1 ⟨p1, g1, rfl, hs1, hp1, hg1, hB1⟩; clear tok1; first | (have bP1 := box_thru hB1 (box_newd W0 49 (.pointer none))) | (have bP1 := box_thru hB1 (Boxed.new W0 49 (.pointer none))) | skip)
      | (go_at_call 46; with_reducible refine (HE.out _).mono ?_; rintro e w2 ⟨p2, g2, rfl, hs2, hp2, hg2, hB2⟩; have cQ := fun o => ((Boxed.new w2 49 (.pointer none)).alloc o).cell; have fQ := fun o => ((Boxed.new w2 49 (.pointer none)).alloc o).frozen; first | (have bP2 := box_thru hB2 bP1; have cP2 := bP2.cell; have fP2 := bP2.frozen; have cP3 := fun o => (bP2.alloc o).cell; have fP3 := fun o => (bP2.alloc o).frozen) | (have bP2 := box_thru hB2 (box_newd w1 49 (.pointer none)); have cP2 := bP2.cell; have fP2 := bP2.frozen; have cP3 := fun o => (bP2.alloc o).cell; have fP3 := fun o => (bP2.alloc o).frozen) | (have bP2 := box_thru hB2 (Boxed.new w1 49 (.pointer none)); have cP2 := bP2.cell; have fP2 := bP2.frozen; have cP3 := fun o => (bP2.alloc o).cell; have fP3 := fun o => (bP2.alloc o).frozen) | skip))
    all_goals
      refine ⟨rfl, _, _, p1, g1, p2, g2, rfl, ?_⟩
      have hzz := HZ0.out
      have z1 := hB1.size
      have z2 := hB2.size
      have bC2 : Boxed w2 kC 22 (.slice ao L.length cap) := by
        first
        | exact box_thru hB2 (box_thru (A := W0.drew) hB1 bC)
        | exact box_thru hB2 ((box_thru (A := W0.drew) hB1 bC).alloc _)
        | exact box_thru hB2 (box_thru hB1 (bC.alloc _))
      have bel2 : Below w.heap.size w w2 := by
        have e0 : Below w.heap.size w W0 := by rw [hkC]; exact hB0
        have e1 : Below w.heap.size w W0.drew := ⟨e0.os, e0.tape, e0.output, e0.size, e0.block⟩
        have e2 : Below w.heap.size w (W0.alloc (Obj.cells #[.pointer none] 49)) := belP e0
        have e3 : Below w.heap.size w (W0.alloc (Obj.cells #[.pointer none] 49)).drew := ⟨e2.os, e2.tape, e2.output, e2.size, e2.block⟩
        first
        | exact btP (btP e1 hB1) hB2
        | exact btP (belP (btP e1 hB1)) hB2
        | exact btP (btP e3 hB1) hB2
      have l1 := hs1.ltp
      have l2 := hs1.ltg
      have hne1 := hs1.ne
      have hne2 := hs2.ne
      simp only [World.size_alloc, World.size_drew] at hp1 hg1 hp2 hg2 z1 z2
      have hs1' : SetS w2 p1 g1 L.length (List.replicate ((L.length + 63) / 64) 0) := by
        first
        | exact hs1.kept (Kp.ofBelow (S := fun _ => False) hB2) (fun q => q) (fun q => q)
        | exact (hs1.kept (Kp.alloc (S := fun _ => False) w1 _) (fun q => q) (fun q => q)).kept (Kp.ofBelow (S := fun _ => False) hB2) (fun q => q) (fun q => q)
      have hC0 : Cut0 w w2 kC p1 g1 p2 g2 ao cap L := ⟨bC2, hs1', hs2, bel2, by omega, by omega⟩
      first
      | exact hC0.one
      | exact hC0.two
      | exact hC0.three bP2 (by omega)
  case rest =>
    rintro e a V ⟨rfl, kP, pp, p1, g1, p2, g2, rfl, hC⟩
    have cC := hC.bC.cell
    have cP := hC.bP.cell
    have o0 := (obj_cell hC.obj 0).trans rfl
    have f0 := obj_frozen hC.obj 0
    have hnd := hC.nd
    have q1 : kC ≠ pp := by intro e; simp [e] at hnd
    have q2 : kP ≠ pp := by intro e; simp [e] at hnd
    have cC' := fun u => (hC.bC.other q1 u).cell
    have cP' := fun u => (hC.bP.other q2 u).cell
    clear q1 q2 hnd
    rw [HT0.out]
    gi_wp2
    have hC1 := hC.self (.pointer (some ⟨pp, 0, none⟩))
    generalize V.setCell ⟨pp, 0, none⟩ (.pointer (some ⟨pp, 0, none⟩)) = V1 at hC1 ⊢
    have HC1 := hidS hC1
    clear hC1 hC cC cP o0 f0 cC' cP'
    gi_loopw [22] (fun u wr => ∃ (k : Nat) (A : List Nat), u = .int .i64 k ∧ k ≤ L.length ∧ CutI w wr kC kP pp p1 g1 p2 g2 ao cap L (.pointer (some ⟨pp, 0, none⟩)) (.slice none 0 0) A (List.replicate ((L.length + 63) / 64) 0) ∧ ∀ x, hasW A x = (decide (x < k) && isEn L x))
      (fun u _ => L.length - (intOf u).toNat)
    case atStart => exact ⟨0, _, rfl, Nat.zero_le _, HC1.out, fun x => by rw [hasW_zeros]; simp⟩
    case round =>
      obtain ⟨k, A, rfl, hk, hI, hA⟩ := hrel
      have HA := hidS hA
      clear hA HC1
      have HI := hidS hI
      by_cases hlt : k < L.length
      · have hltI : (k : Int) < (L.length : Int) := by omega
        obtain ⟨b, off, rfl, hb, hc⟩ := hr (by omega)
        obtain ⟨r0, r1⟩ := hc k hlt
        have v0 := (hI.bel.cell (p := ⟨b, off + k * 2, none⟩) hb).trans r0
        have v1 := (hI.bel.cell (p := ⟨b, off + k * 2 + 1, none⟩) hb).trans r1
        have HEN : Hid (isEn L k = ((L.getD k (0, 0)).1 == 3)) := hidS (by simp [isEn, hlt])
        generalize (L.getD k (0, 0)).1 = op at v0 HEN
        generalize (L.getD k (0, 0)).2 = arg at v1
        clear hc r0 r1
        have cP := fun o => ((hI.alloc o).bP).cell
        have o2 := fun o => (obj_cell (hI.alloc o).obj 2).trans rfl
        by_cases h3 : op = 3
        · subst h3
          have hA2 := fun o => add_any p1 g1 L.length k A (wr.alloc o) (by omega) (hI.alloc o).s1
          have hk32 : k < 4294967296 := by omega
          gi_wp2_with ((first | refine ⟨trivial, fun _ => by omega, ?_⟩ | refine ⟨trivial, ?_⟩); gi_at_call 47; refine (callsIn_wide.2 (hA2 _)).mono ?_; rintro e w3 ⟨rfl, hs3, hk3, hz3⟩)
          go_roundw
          case rel => exact ⟨k + 1, _, by go_num, by omega, (HI.out.alloc _).putA hs3 hk3, fun x => by
            rw [has_putP HI.out.s1.len hlt, HA.out]
            have h4 : isEn L k = true := by rw [HEN.out]; rfl
            by_cases hx : x = k
            · subst hx; simp [h4]
            · simp only [hx, decide_false, Bool.or_false]
              congr 1
              rw [decide_eq_decide]
              omega⟩
          case measure => simp [intOf]; omega
        · have h3i : ¬ (op : Int) = 3 := by omega
          gi_wp2
          go_roundw
          case rel => exact ⟨k + 1, _, by go_num, by omega, HI.out.alloc _, fun x => by
            rw [HA.out]
            have h4 : isEn L k = false := by rw [HEN.out]; simpa using h3
            by_cases hx : x = k
            · subst hx; simp [h4]
            · congr 1
              rw [decide_eq_decide]
              omega⟩
          case measure => simp [intOf]; omega
      · have hke : k = L.length := by omega
        subst hke
        have HEn : Hid (∀ x, hasW A x = isEn L x) := hidS (fun x => by
          rw [HA.out]
          by_cases hx : x < L.length
          · simp [hx]
          · simp [hx, isEn])
        clear HA
        have cP := hI.bP.cell
        have o2 := (obj_cell hI.obj 2).trans rfl
        have hSA := setalluint32_any p1 g1 L.length _ A wr hI.s1 (hT.below hI.bel hp)
        gi_wp2_with ((first | refine ⟨trivial, fun _ => by omega, ?_⟩ | refine ⟨trivial, ?_⟩); gi_at_call 48; refine (callsIn_wide.2 hSA).mono ?_; rintro e w4 ⟨Bw, Bf, Be, ao2, cap2, B0, rfl, hIn, hB0', l1, l2, l3, l4, hB4⟩)
        have hneC := HI.out.ne
        have hloC := HI.out.low
        have hppA : pp < wr.heap.size := (Array.getElem?_eq_some_iff.1 HI.out.obj).1
        have HI4 : Hid (CutI w w4 kC kP pp p1 g1 p2 g2 ao cap L (.pointer (some ⟨pp, 0, none⟩)) (.slice none 0 0) A (List.replicate ((L.length + 63) / 64) 0)) := hidS (HI.out.keep (Kp.ofBelow (S := fun _ => False) hB4) (fun _ _ e => e) (fun _ e => e.elim))
        have hAl : A.length ≤ 16384 := by have := hI.s1.len; omega
        have HWF := hidS hI.s1.wf
        have hall : rng (hasW A) 0 (64 * A.length) = els L.length (isEn L) := by
          rw [rng_els, els_beyond (n := L.length) (by have := hI.s1.len; omega) (fun y hy => hI.s1.hi y hy)]
          exact els_congr (fun y _ => HEn.out y)
        have hz4 : wr.heap.size ≤ w4.heap.size := hB4.size
        have HIP := hidS hIn
        have hlow2 : ∀ b off, ao2 = some ⟨b, off, none⟩ → b ≠ pp := fun b off e => by have := l4 b off e; omega
        have HIN : Hid (∀ V, Kp (fun k => k = pp) w4 V → InP A Bw Bf Be ao2 cap2 0 (64 * A.length) B0 V) := hidS (fun V hk => by
          have b1 := HIP.out.bw.lt; have b2 := HIP.out.bf.lt; have b3 := HIP.out.be.lt
          refine ⟨(hk.block Bw b1 (by omega)).trans HIP.out.bw, (hk.block Bf b2 (by omega)).trans HIP.out.bf, (hk.block Be b3 (by omega)).trans HIP.out.be, fun hp0 => ?_, fun j hj => (hk.cell (p := ⟨0, j, none⟩) (HIP.out.tab.pos) (by show ¬ 0 = pp; omega)).trans (HIP.out.tab j hj)⟩
          obtain ⟨b, off, e1, e2, e3⟩ := HIP.out.ws hp0
          exact ⟨b, off, e1, e2, fun i hi => (hk.cell (p := ⟨b, off + i, none⟩) (by show b < w4.heap.size; omega) (hlow2 b off e1)).trans (e3 i hi)⟩)
        have HSQ : Hid (∀ (n : Nat) (V : World), 2 ≤ n → Kp (fun k => k = pp) w4 V → SeqOwn Fence.wide n Tryz.prog 96 #[.pointer (some ⟨Bw, 0, none⟩), .pointer (some ⟨Bf, 0, none⟩), .pointer (some ⟨Be, 0, none⟩)] encuint32 (KeP A Bw Bf Be ao2 cap2 0 (64 * A.length) B0) (fun ys => ys = els L.length (isEn L)) (fun pre => pre <+: els L.length (isEn L)) 1048577 V) := hidS (fun n V h2 hk => by
          have := sequint32 n h2 Bw Bf Be B0 ao2 cap2 0 (64 * A.length) A V hAl HWF.out (Nat.zero_le _) (Nat.le_refl _) (HIN.out V hk) (Nat.le_trans hB0' hk.size) (by have := hk.size; omega)
          rw [hall] at this
          exact this)
        clear hI hIn cP o2 hSA
        refine with_tmpsP fun T hT2 => ?_
        have HT := hidS hT2
        clear hT2
        refine range_break (F := Fence.wide) (id := 2) rfl (by decide) (gf := 96) (lb := #[.pointer (some ⟨Bw, 0, none⟩), .pointer (some ⟨Bf, 0, none⟩), .pointer (some ⟨Be, 0, none⟩)]) (by rw [HT.out]; rfl) trivial (enters_of Tryz.func96 (by kernel_rfl) rfl)
          (HSQ.out (30 - 1) w4 (by decide) (Kp.refl _ _)) KeP_t (KeP_b (w := w4)) (Below.refl _ _) (fun _ => rfl)
          (fun pre U => Kp (fun k => k = pp) w4 U ∧ ∃ lv, U.heap[pp]? = some (.cells #[.pointer (some ⟨pp, 0, none⟩), lv, .pointer (some ⟨p1, 0, none⟩), .pointer (some ⟨p2, 0, none⟩)] 111 (0, 0)) ∧ U.ownsRow w4.heap.size 94 4 lv pre.length (pv (prs L pre)))
          (fun pre U => False)
          (fun s A C row h hg hr => by
            obtain ⟨g1, lv, g2, g3⟩ := h
            refine ⟨g1.trans (Kp.ofGrown (S := fun k => w4.heap.size ≤ k) hg (fun i e _ => (hr i e).1)) (fun i hi e => by omega), lv, low_kept g2 (by omega) hg hr, (Kp.ofGrown (S := fun k => row = some k) hg (fun i e _ => e)).own g3 (fun k e q => ?_)⟩
            obtain ⟨_, o, ho, hc⟩ := hr k q
            rcases g3.2 with hn | ⟨g', cap', cur', e1, e2, e3, e4⟩
            · rw [hn.1] at e
              cases e
            · rw [e1] at e
              cases e
              rw [e3] at ho
              cases ho
              cases hc)
          (fun s A C row h hg hr => h)
          ⟨Kp.refl _ _, .slice none 0 0, HI4.out.obj, World.ownsRow_nil _ _ _ _⟩
          (fun x a' U => a' = { tmps := ((((#[43] : Array Tmp).zip (encuint32 x)).foldl (fun t (p, v) => t.setIfInBounds p v) T).setIfInBounds 6 (.int .u32 x)), defers := [] })
          (fun x a' => Own.from (fun t A C row h hg hr => h) _)
          ?assign ?body ?done
        case assign =>
          intro l0 pre x V K hI hK
          have HF := hidS (fun a' (ha : _) => hK a' V (Upon.refl _ V) (fun y => y) hI ha)
          clear hK hI
          rw [HT.out]
          gi_wp2
          exact HF.out _ (by rw [HT.out]; simp)
        case body =>
          rintro l0 pre x a' U hl hrec ⟨h1, lv, h2, h3⟩ rfl hln hsp
          have hxm : x ∈ els L.length (isEn L) := by obtain ⟨t, ht⟩ := hsp; rw [← ht]; simp
          have hxL : x < L.length := (mem_els.1 hxm).1
          have hpl : pre.length + 1 ≤ L.length := by
            have := hsp.length_le
            have := els_le L.length (isEn L)
            simp at *
            omega
          obtain ⟨b, off, rfl, hb, hc⟩ := hr (by omega)
          have hbe := HI4.out.bel.size
          have v1 : U.cell? ⟨b, off + x * 2 + 1, none⟩ = some (.int .u32 ((argL L x : Nat) : Int)) := (h1.cell (p := ⟨b, off + x * 2 + 1, none⟩) (by show b < w4.heap.size; omega) (by show ¬ b = pp; omega)).trans ((HI4.out.bel.cell (p := ⟨b, off + x * 2 + 1, none⟩) hb).trans (hc x hxL).2)
          have lC := HI4.out.bC.lt; have lP := HI4.out.bP.lt
          have cP : U.cell? ⟨kP, 0, none⟩ = some (.pointer (some ⟨pp, 0, none⟩)) := (h1.cell (p := ⟨kP, 0, none⟩) lP (by show ¬ kP = pp; omega)).trans HI4.out.bP.cell
          have cC : U.cell? ⟨kC, 0, none⟩ = some (.slice (some ⟨b, off, none⟩) L.length cap) := (h1.cell (p := ⟨kC, 0, none⟩) lC (by show ¬ kC = pp; omega)).trans HI4.out.bC.cell
          have o1 : U.cell? ⟨pp, 1, none⟩ = some lv := (obj_cell h2 1).trans rfl
          obtain ⟨la, lc, hlv⟩ : ∃ la lc, lv = .slice la pre.length lc := by
            rcases h3.2 with ⟨hn, hz⟩ | ⟨g', cap', cur', e1, e2⟩
            · exact ⟨none, 0, by rw [hn, hz]⟩
            · exact ⟨_, _, e1⟩
          subst hlv
          have HKQ : Hid (∀ (V W : World) (v0 lv2 : Value) (Ps : List (Nat × Nat × Nat)), Kp (fun k => k = pp) w4 V → Upon w4.heap.size U V → V.heap[pp]? = some (.cells #[.pointer (some ⟨pp, 0, none⟩), v0, .pointer (some ⟨p1, 0, none⟩), .pointer (some ⟨p2, 0, none⟩)] 111 (0, 0)) → (∀ k, v0.ownBlock = some k → w4.heap.size ≤ k ∧ ∃ o : Obj, V.heap[k]? = some o ∧ o.isCells = true) →
              W.ownsRow w4.heap.size 94 4 lv2 (pre.length + 1) (pv Ps) → Kp (fun k => v0.ownBlock = some k) V W → prs L (pre ++ [x]) = Ps →
              Upon w4.heap.size U (W.setCell ⟨pp, 1, none⟩ lv2) ∧ KeP A Bw Bf Be ao2 cap2 0 (64 * A.length) B0 U (W.setCell ⟨pp, 1, none⟩ lv2) ∧ Kp (fun k => k = pp) w4 (W.setCell ⟨pp, 1, none⟩ lv2) ∧ ∃ lv, (W.setCell ⟨pp, 1, none⟩ lv2).heap[pp]? = some (.cells #[.pointer (some ⟨pp, 0, none⟩), lv, .pointer (some ⟨p1, 0, none⟩), .pointer (some ⟨p2, 0, none⟩)] 111 (0, 0)) ∧ (W.setCell ⟨pp, 1, none⟩ lv2).ownsRow w4.heap.size 94 4 lv (pre ++ [x]).length (pv (prs L (pre ++ [x])))) := hidS (fun V W v0 lv2 Ps k1 k2 k3 k4 k5 k6 k7 => by
            have lpp : pp < w4.heap.size := Nat.lt_of_lt_of_le hppA hz4
            have lppV : pp < V.heap.size := (Array.getElem?_eq_some_iff.1 k3).1
            have npp : ¬ v0.ownBlock = some pp := fun e => by have := (k4 pp e).1; omega
            have obW := (k6.block pp lppV npp).trans k3
            have hkW : Kp (fun k => k = pp) w4 W := k1.trans k6 (fun i hi e => by have := (k4 i e).1; omega)
            have hkW2 : Kp (fun k => k = pp) w4 (W.setCell ⟨pp, 1, none⟩ lv2) := hkW.trans (Kp.setCell (S := fun k => k = pp) _ _ _ rfl) (fun _ _ e => e)
            have upV : Upon w4.heap.size V W := ⟨k6.size, fun k o _ hk hc => (k6.block k (Array.getElem?_eq_some_iff.1 hk).1 (fun e => by
              obtain ⟨_, o2, e2, e3⟩ := k4 k e
              rw [hk] at e2
              cases e2
              rw [hc] at e3
              cases e3)).trans hk⟩
            refine ⟨(k2.trans upV).trans (Upon.setCell _ _ _), fun _ => HIN.out _ hkW2, hkW2, lv2, by rw [heap_setCell_same W pp 1 _ _ _ obW]; rfl, ?_⟩
            rw [k7, List.length_append]
            exact ownsRow_setCell_below k5 lpp _)
          have H1 := hidS h1
          have H2 := hidS h2
          have H3 := hidS h3
          by_cases hp0' : pre.length = 0
          · have hpn : pre = [] := List.length_eq_zero_iff.1 hp0'
            have HPN := hidS hpn
            rw [hp0'] at o1 H3 H2
            have hz0 : ((0 : Nat) : Int) = 0 := rfl
            clear h1 h2 h3 hl hrec hln hsp hxm hpn hp0' hpl hc
            rw [HT.out]
            gi_wp2
            refine cut_lay (kC := kC) (kP := kP) (pp := pp) (b := b) (off := off) (x := x) (ln := L.length) (cap := cap) (arg := argL L x) (B := w4.heap.size) (m := 0) (Ps := []) (lv := .slice la 0 lc) hxL hl (by decide) H1.out.size (by have := H3.out; rw [HPN.out] at this; exact this) cP _ _ _ H2.out cC v1 ⟨lP, Nat.lt_of_lt_of_le hppA hz4, lC, by omega⟩ ?q ?k
            case q => exact fun _ _ _ _ h => h
            intro a' lv' W ho' hk'
            exact HKQ.out U W _ lv' _ H1.out (Upon.refl _ _) H2.out (fun k e => by
              have hq := H3.out
              refine ⟨(hq.lt k e).1, ?_⟩
              rcases hq.2 with hn | ⟨g', cap', cur', e1, e2, e3, e4⟩
              · rw [hn.1] at e
                cases e
              · rw [e1] at e
                cases e
                exact ⟨_, e3, rfl⟩) (by rw [HPN.out]; exact ho') hk' (by rw [HPN.out]; rfl)
          · obtain ⟨q, y, hqy⟩ : ∃ q y, pre = q ++ [y] := by
              rcases List.eq_nil_or_concat pre with e | ⟨q, y, e⟩
              · exact absurd (by rw [e]; rfl) hp0'
              · exact ⟨q, y, by simpa using e⟩
            have hkm : pre.length = q.length + 1 := by rw [hqy]; simp
            rcases h3.2 with ⟨hn, hz⟩ | ⟨g', cap', cur', e1, e2, e3, e4⟩
            · exact absurd hz hp0'
            cases e1
            have hcj := h3.cellAt (q.length * 4 + 1) (by rw [hkm]; omega)
            have hpv : (pv (prs L pre))[q.length * 4 + 1]? = some (.int .u32 ((L.length : Nat) : Int)) := by
              rw [hqy]
              exact pv_get _ _ _ (prs_last L q y)
            rw [hpv] at hcj
            have hfz := h3.frozenAt (q.length * 4 + 1)
            have hst := h3.stored (q.length * 4 + 1) (.int .u32 (x : Int))
            have HST := hidS hst
            have HQY := hidS hqy
            have HKM := hidS hkm
            rw [hkm] at o1
            have hm16 : q.length + 1 ≤ 16384 := by omega
            obtain ⟨m, hm⟩ : ∃ m, q.length = m := ⟨_, rfl⟩
            rw [hm] at o1 hcj hfz HST HKM hm16
            have HM := hidS hm
            have hsub : ((m + 1 : Nat) : Int) - 1 = (m : Int) := by omega
            have hmi : (m : Int) < ((m + 1 : Nat) : Int) := by omega
            have HG : Hid (w4.heap.size ≤ g' ∧ U.heap[g']? = some (.cells cur' 94)) := hidS ⟨e2, e3⟩
            clear h1 h2 h3 hl hrec hln hsp hxm hp0' hpl hc hst hqy hkm hpv hm e2 e3 e4
            rw [HT.out]
            gi_wp2
            have hkV : Kp (fun k => k = g') U (U.setCell ⟨g', m * 4 + 1, none⟩ (.int .u32 (x : Int))) := Kp.setCell _ _ _ rfl
            have obV : (U.setCell ⟨g', m * 4 + 1, none⟩ (.int .u32 (x : Int))).heap[g']? = some (.cells (cur'.setIfInBounds (m * 4 + 1) (.int .u32 (x : Int))) 94) := heap_setCell_same U g' (m * 4 + 1) cur' _ _ HG.out.2
            have hoV := HST.out.1
            have upV : Upon w4.heap.size U (U.setCell ⟨g', m * 4 + 1, none⟩ (.int .u32 (x : Int))) := Upon.setCell _ _ _
            have lpp : pp < w4.heap.size := Nat.lt_of_lt_of_le hppA hz4
            have lU := H1.out.size
            have lg' := HG.out.1
            have lbw : b < w4.heap.size := by omega
            rw [HQY.out, ← HM.out, pv_set _ _ _ x (prs_last L q y)] at hoV
            rw [HM.out] at hoV
            generalize U.setCell ⟨g', m * 4 + 1, none⟩ (.int .u32 (x : Int)) = V at hkV obV hoV upV ⊢
            have k1 : Kp (fun k => k = pp) w4 V := H1.out.trans hkV (fun i hi e => by omega)
            have k3 := (hkV.block pp (by omega) (by omega)).trans H2.out
            have cP' := (hkV.cell (p := ⟨kP, 0, none⟩) (by show kP < U.heap.size; omega) (by show ¬ kP = g'; omega)).trans cP
            have cC' := (hkV.cell (p := ⟨kC, 0, none⟩) (by show kC < U.heap.size; omega) (by show ¬ kC = g'; omega)).trans cC
            have v1' := (hkV.cell (p := ⟨b, off + x * 2 + 1, none⟩) (by show b < U.heap.size; omega) (by show ¬ b = g'; omega)).trans v1
            have hlq : (q ++ [y]).length = m + 1 := by rw [List.length_append, HM.out]; rfl
            rw [hlq] at hoV
            rw [HKM.out] at k3
            refine cut_lay (kC := kC) (kP := kP) (pp := pp) (b := b) (off := off) (x := x) (ln := L.length) (cap := cap) (arg := argL L x) (B := w4.heap.size) (m := m + 1) (Ps := (prs L (q ++ [y])).set m (y, x, argL L y)) (lv := .slice (some ⟨g', 0, none⟩) (m + 1) lc) hxL hl hm16 (Nat.le_trans lU hkV.size) hoV cP' _ _ _ k3 cC' v1' ⟨lP, lpp, lC, lbw⟩ ?q2 ?k2
            case q2 => exact fun _ _ _ _ h => h
            intro a' lv' W ho' hk'
            exact HKQ.out V W _ lv' _ k1 upV k3 (fun k e => by cases e; exact ⟨lg', _, obV, rfl⟩) (by rw [HKM.out]; exact ho') hk' (by rw [HQY.out, prs_snoc, HM.out])
        case done =>
          rintro D1 pre U hD1 hor hK1
          obtain ⟨h1, lv, h2, h3⟩ : Kp (fun k => k = pp) w4 U ∧ ∃ lv, U.heap[pp]? = some (.cells #[.pointer (some ⟨pp, 0, none⟩), lv, .pointer (some ⟨p1, 0, none⟩), .pointer (some ⟨p2, 0, none⟩)] 111 (0, 0)) ∧ U.ownsRow w4.heap.size 94 4 lv (prs L (els L.length (isEn L))).length (pv (prs L (els L.length (isEn L)))) := by
            rcases hor with ⟨rfl, q⟩ | ⟨_, q⟩
            · rw [prs_len]
              exact q
            · exact q.elim
          have lC := HI4.out.bC.lt; have lP := HI4.out.bP.lt
          have cP : U.cell? ⟨kP, 0, none⟩ = some (.pointer (some ⟨pp, 0, none⟩)) := (h1.cell (p := ⟨kP, 0, none⟩) lP (by show ¬ kP = pp; omega)).trans HI4.out.bP.cell
          have q1 : p1 < w4.heap.size := HI4.out.s1.ltp
          have q2 : g1 < w4.heap.size := HI4.out.s1.ltg
          have q3 : p2 < w4.heap.size := HI4.out.s2.ltp
          have q4 : g2 < w4.heap.size := HI4.out.s2.ltg
          have HPR : Hid (∀ W, Kp (fun k => w4.heap.size ≤ k ∧ ∃ o : Obj, U.heap[k]? = some o ∧ o.isCells = false) U W → PrS W w4.heap.size pp p1 g1 p2 g2 L.length lv (prs L (els L.length (isEn L))) A (List.replicate ((L.length + 63) / 64) 0) ∧ Below w.heap.size w W) := hidS (fun W hk => by
            have hkw : Kp (fun k => k = pp ∨ w4.heap.size ≤ k) w4 W := (h1.mono (fun _ _ e => .inl e)).trans hk (fun i hi e => .inr e.1)
            refine ⟨⟨(hk.block pp (Array.getElem?_eq_some_iff.1 h2).1 (fun e => by omega)).trans h2, hk.own h3 (fun k e q => ?_), HI4.out.s1.kept hkw (by omega) (by omega), HI4.out.s2.kept hkw (by omega) (by omega), ?_, ?_⟩, HI4.out.bel.trans (hkw.below HI4.out.bel.size (fun i e => by have := HI4.out.bel.size; omega))⟩
            · obtain ⟨_, o, ho, hc⟩ := q
              rcases h3.2 with hn | ⟨g', cap', cur', e1, e2, e3, e4⟩
              · rw [hn.1] at e
                cases e
              · rw [e1] at e
                cases e
                rw [e3] at ho
                cases ho
                cases hc
            · have := HI4.out.nd
              simp only [List.nodup_cons] at this ⊢
              exact this.2.2
            · intro k hk
              simp only [List.mem_cons, List.not_mem_nil, or_false] at hk
              omega)
          have HLO : Hid (∀ k ∈ [pp, p1, g1, p2, g2], w.heap.size ≤ k) := hidS (fun k hk => HI4.out.lo k (by simp only [List.mem_cons] at hk ⊢; exact .inr (.inr hk)))
          have HW4 : Hid (w.heap.size ≤ w4.heap.size) := hidS HI4.out.bel.size
          have HK1 := hidS hK1
          have HD1 := hidS hD1
          clear hor h1 h2 h3
          rw [HT.out]
          gi_wp2
          refine ⟨by simp, .inl ⟨_, _, rfl, run_takeDeferred HK1.out, ?_⟩⟩
          obtain ⟨z1, z2⟩ := HPR.out (U.putObj D1 (.deferred none)) (Kp.ofGrown (grownBy_putObj' _ D1 (.deferred none)) (fun i e _ => by cases e; exact ⟨HD1.out, _, HK1.out, rfl⟩))
          refine ⟨.pointer (some ⟨pp, 0, none⟩), ?_, w4.heap.size, pp, p1, g1, p2, g2, lv, A, rfl, z1, HEn.out, HLO.out, HW4.out, z2⟩
          simp [results, Tryz.f24, go_sem]
end Go.Proofs.YtgbpfejodpplbaaGreatDoor
