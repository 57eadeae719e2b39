import Derived.Test.YtldeodnlppjbcaaKSp
namespace Go.Proofs.Ytldeodnlppjbcaa
open Go.RowKit Go.Shelf
attribute [local go_sem] Oper.semAt_some

theorem nm_done {t : ByteArray} {ys : List (Cut t)} (h : ys = cuts t) (hall : ∀ y ∈ ys, nameL y.1.2 = true) : nmO t = t.size := by
  subst h
  unfold nmO
  rw [List.find?_eq_none.2 (fun x hx => by simp [hall x hx])]
theorem nm_stop {t : ByteArray} {pre : List (Cut t)} {x : Cut t} (h : pre ++ [x] <+: cuts t) (hall : ∀ y ∈ pre, nameL y.1.2 = true) (hx : nameL x.1.2 = false) : nmO t = x.1.1 := by
  obtain ⟨u, hu⟩ := h
  unfold nmO
  rw [← hu, List.append_assoc, List.find?_append, List.find?_eq_none.2 (fun y hy => by simp [hall y hy])]
  simp [hx]
set_option maxRecDepth 100000 in
set_option maxHeartbeats 2000000 in
theorem nameEnd_any (s : ByteArray) (a : Nat) (w : World) (ha : a ≤ s.size) (hs : s.size ≤ 140737488355328) :
    Calls Try.prog 27 #[.string s, .int .i64 a] w fun e w' => e = .returned (.int .i64 (nmEnd s a)) ∧ Below w.heap.size w w' := by
  have haI : (a : Int) ≤ (s.size : Int) := by omega
  refine (callsIn_wide (n := 9)).1 ?_
  refine callsIn_of_wp_marks Try.func27 rfl trivial ?_ rfl
  simp only [Try.ntmps27, List.size_toArray, List.length_cons, List.length_nil, Nat.reduceAdd, Nat.reduceSub, Array.replicate_succ, Array.replicate_zero, List.push_toArray, List.append_toArray, List.nil_append, List.cons_append]
  gi_wp2_with (refine ⟨trivial, ?_⟩; gi_at_call 37; refine (runes_in _ _ _).mono ?_; rintro e w' ⟨rfl, rfl⟩)
  obtain ⟨t, ht⟩ : ∃ t, s.extract a s.size = t := ⟨_, rfl⟩
  have HE : Hid (nmEnd s a = a + nmO t) := by rw [← ht]; rfl
  have htz : t.size = s.size - a := by rw [← ht]; simp
  rw [ht]
  clear ht
  obtain ⟨W0, hW0⟩ : ∃ W0, (((w.alloc (Obj.cells #[Value.int IntKind.i64 (a : Int)] 3)).alloc (Obj.cells #[Value.int IntKind.i64 0] 3)).alloc (Obj.cells #[Value.string t] 9)) = W0 := ⟨_, rfl⟩
  have b0 : Boxed W0 w.heap.size 3 (.int .i64 a) := by rw [← hW0]; exact ((Boxed.new w 3 _).alloc _).alloc _
  have b1 : Boxed W0 (w.heap.size + 1) 3 (.int .i64 0) := by
    rw [← hW0]; have := (Boxed.new (w.alloc (Obj.cells #[Value.int IntKind.i64 (a : Int)] 3)) 3 (.int .i64 0)).alloc (Obj.cells #[Value.string t] 9)
    rwa [World.size_alloc] at this
  have b2 : Boxed W0 (w.heap.size + 1 + 1) 9 (.string t) := by
    rw [← hW0]; have := Boxed.new ((w.alloc (Obj.cells #[Value.int IntKind.i64 (a : Int)] 3)).alloc (Obj.cells #[Value.int IntKind.i64 0] 3)) 9 (.string t)
    rwa [World.size_alloc, World.size_alloc] at this
  have hB0 : Below w.heap.size w W0 := by rw [← hW0]; exact (((Below.refl _ w).alloc (Nat.le_refl _) _).alloc (by simp) _).alloc (by simp; omega) _
  have hsz : W0.heap.size = w.heap.size + 3 := by rw [← hW0]; simp
  rw [hW0]
  clear hW0
  refine wpIn_rangeFunc_ownF (F := Fence.wide) rfl (by decide) (gf := 54) (lb := #[.pointer (some ⟨w.heap.size + 1 + 1, 0, none⟩)]) rfl trivial (enters_of Try.func54 (by kernel_rfl) rfl)
    (runes_stops (9 - 1) (by decide) (w.heap.size + 1 + 1) t W0 b2) Kp_t (Kp_b (w := W0)) (Below.refl _ _) (fun _ => rfl)
    (fun pre W => (Boxed W w.heap.size 3 (.int .i64 a) ∧ Boxed W (w.heap.size + 1) 3 (.int .i64 0) ∧ ∀ y ∈ pre, nameL y.1.2 = true) ∧ Below w.heap.size w W)
    (fun c pre W => (∃ q x, c = .ret ∧ pre = q ++ [x] ∧ nameL x.1.2 = false ∧ (∀ y ∈ q, nameL y.1.2 = true) ∧ Boxed W (w.heap.size + 1) 3 (.int .i64 ((a + x.1.1 : Nat) : Int))) ∧ Below w.heap.size w W)
    (OwnFrom.and (Own.from (fun t A B row h hg hr => ⟨boxed_step h.1 hg hr, boxed_step h.2.1 hg hr, h.2.2⟩) _) (ownFrom_below (Nat.le_refl _) (by omega)))
    (fun c => OwnFrom.and (Own.from (fun t A B row h hg hr => by
      obtain ⟨q, x, h1, h2, h3, h4, h5⟩ := h
      exact ⟨q, x, h1, h2, h3, h4, boxed_step h5 hg hr⟩) _) (ownFrom_below (Nat.le_refl _) (by omega)))
    ⟨⟨b0, b1, by simp⟩, hB0⟩
    (fun x => { tmps := #[.string s, .int .i64 (a : Int), undef, .pointer (some ⟨w.heap.size, 0, none⟩), .pointer (some ⟨w.heap.size + 1, 0, none⟩), .int .i64 (x.1.1 : Int), .int .i32 x.1.2, .string s, .int .i64 (a : Int), .string t,
          .func (.func 54) #[] #[.pointer (some ⟨w.heap.size + 1 + 1, 0, none⟩)], .int .i64 (x.1.1 : Int), .int .i32 x.1.2, undef, undef, undef, undef, undef, undef, undef, undef, undef, undef, undef, undef, undef, undef, undef, undef, undef], defers := [] }) ?assign ?body ?done ?stop
  case assign =>
    intro l x W K hK
    unfold encs
    gi_wp2
    exact hK
  case body =>
    rintro l pre x W ⟨⟨h0, h1, hall⟩, hB⟩ hlen
    have c0 := h0.cell; have c1 := h1.cell; have f1 := h1.frozen
    have HA : Hid (∀ y ∈ pre, nameL y.1.2 = true) := hall
    have hxl := x.2.1
    clear hall
    have hL := letterL_any x.1.2 W
    have hD := digitL_any x.1.2 W
    obtain ⟨HN⟩ : Nonempty (Hid (nameL x.1.2 = (decide (x.1.2 = 95) || letterL x.1.2 || digitL x.1.2))) := ⟨rfl⟩
    by_cases h95 : x.1.2 = 95
    · have h95b : (x.1.2 != 95) = false := by simp [h95]
      have HN2 : Hid (nameL x.1.2 = true) := by rw [Hid, HN.out]; simp [h95]
      clear HN
      gi_wp2_with fail
      refine ⟨trivial, ?_⟩
      gi_wp2_with fail
      refine ⟨trivial, ?_⟩
      gi_wp2_with fail
      refine ⟨KeepsOthers.refl _, kp_refl _ _ _, ⟨h0, h1, ?_⟩, hB⟩
      intro y hy
      rcases List.mem_append.1 hy with h | h
      · exact HA.out y h
      · simp at h; subst h; exact HN2.out
    · have h95b : (x.1.2 != 95) = true := by simp [h95]
      cases hl : letterL x.1.2 with
      | true =>
        rw [hl] at hL
        have HN2 : Hid (nameL x.1.2 = true) := by rw [Hid, HN.out]; simp [hl]
        clear HN hD
        gi_wp2_with (first
          | (refine ⟨trivial, ?_⟩; gi_at_call 26; refine (callsIn_wide.2 hL).mono ?_; rintro e wq ⟨rfl, hq⟩; subst hq)
          | fail)
        refine ⟨trivial, ?_⟩
        gi_wp2_with fail
        refine ⟨KeepsOthers.refl _, kp_refl _ _ _, ⟨h0, h1, ?_⟩, hB⟩
        intro y hy
        rcases List.mem_append.1 hy with h | h
        · exact HA.out y h
        · simp at h; subst h; exact HN2.out
      | false =>
        rw [hl] at hL
        cases hd : digitL x.1.2 with
        | true =>
          rw [hd] at hD
          have HN2 : Hid (nameL x.1.2 = true) := by rw [Hid, HN.out]; simp [hd]
          clear HN
          gi_wp2_with (first
            | (refine ⟨trivial, ?_⟩; gi_at_call 26; refine (callsIn_wide.2 hL).mono ?_; rintro e wq ⟨rfl, hq⟩; subst hq)
            | (refine ⟨trivial, ?_⟩; gi_at_call 28; refine (callsIn_wide.2 hD).mono ?_; rintro e wq ⟨rfl, hq⟩; subst hq)
            | fail)
          refine ⟨KeepsOthers.refl _, kp_refl _ _ _, ⟨h0, h1, ?_⟩, hB⟩
          intro y hy
          rcases List.mem_append.1 hy with h | h
          · exact HA.out y h
          · simp at h; subst h; exact HN2.out
        | false =>
          rw [hd] at hD
          have HN2 : Hid (nameL x.1.2 = false) := by rw [Hid, HN.out]; simp [hl, hd, h95]
          clear HN
          have hwr : wrap64 ((a : Int) + (x.1.1 : Int)) = (a : Int) + (x.1.1 : Int) := by unfold wrap64; omega
          gi_wp2_with (first
            | (refine ⟨trivial, ?_⟩; gi_at_call 26; refine (callsIn_wide.2 hL).mono ?_; rintro e wq ⟨rfl, hq⟩; subst hq)
            | (refine ⟨trivial, ?_⟩; gi_at_call 28; refine (callsIn_wide.2 hD).mono ?_; rintro e wq ⟨rfl, hq⟩; subst hq)
            | fail)
          refine ⟨KeepsOthers.setCell _ _ _, ⟨pre, x, rfl, rfl, HN2.out, HA.out, ?_⟩, hB.setCell (p := ⟨w.heap.size + 1, 0, none⟩) (by show w.heap.size ≤ w.heap.size + 1; omega) _⟩
          rw [Int.natCast_add]
          exact h1.set _
  case done =>
    rintro D ys W hD hys ⟨⟨h0, h1, hall⟩, hB⟩ hK
    have c1 := h1.cell; have f1 := h1.frozen
    have HR : Hid (nmEnd s a = s.size) := by rw [Hid, HE.out, nm_done hys hall, htz]; omega
    clear hys hall
    gi_wp2
    have hK' := (KeepsOthers.setCell W ⟨w.heap.size + 1, 0, none⟩ (.int .i64 (s.size : Int))).same D _ hK rfl
    refine ⟨by simp, .inl ⟨_, _, rfl, run_takeDeferred hK', ?_⟩⟩
    have hc5 := (boxed_step (h1.set (.int .i64 (s.size : Int))) (grownBy_putObj' _ D (.deferred none)) (fun r e => by cases e; exact ⟨_, hK', rfl⟩)).cell
    refine ⟨.int .i64 (s.size : Int), ?_, by rw [HR.out], (hB.setCell (p := ⟨w.heap.size + 1, 0, none⟩) (by show w.heap.size ≤ w.heap.size + 1; omega) _).trans (belowK_b (w := w) (Nat.le_refl _) _ D _ _ (by omega) hK' rfl rfl)⟩
    simp [results, Try.f27, go_sem, hc5]
  case stop =>
    rintro D c pre W hD hpre ⟨⟨q, x, rfl, rfl, hx, hall, h1⟩, hB⟩ hK
    have HF : Hid (nmEnd s a = a + x.1.1) := by rw [Hid, HE.out, nm_stop hpre hall hx]
    clear hpre hall hx
    gi_wp2
    refine ⟨by simp, .inl ⟨_, _, rfl, run_takeDeferred hK, ?_⟩⟩
    have hc5 := (boxed_step h1 (grownBy_putObj' _ D (.deferred none)) (fun r e => by cases e; exact ⟨_, hK, rfl⟩)).cell
    refine ⟨.int .i64 ((a + x.1.1 : Nat) : Int), ?_, by rw [HF.out], hB.trans (belowK_b (w := w) (Nat.le_refl _) _ D _ _ (by omega) hK rfl rfl)⟩
    simp [results, Try.f27, go_sem, hc5]
end Go.Proofs.Ytldeodnlppjbcaa
