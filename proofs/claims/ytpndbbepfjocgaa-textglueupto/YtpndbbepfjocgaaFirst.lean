import Derived.Test.YtpndbbepfjocgaaCIter
namespace Go.Proofs.Ytpndbbepfjocgaa
open Go.RowKit Go.Shelf
attribute [local go_sem] Oper.semAt_some

/-- the number of the first thing -/
def firstN (s : ByteArray) : Int := if 0 < s.size then numAt s 0 else 0
theorem first_pre {s : ByteArray} {x : Cut s} (h : [x] <+: cuts s) : firstN s = x.1.2 := by
  obtain ⟨t, ht⟩ := h
  unfold cuts at ht
  by_cases hs : 0 < s.size
  · obtain ⟨f, hf⟩ : ∃ f, s.size = f + 1 := ⟨s.size - 1, by omega⟩
    rw [hf, cutsFrom_step s f 0 hs] at ht
    simp only [List.cons_append, List.cons.injEq] at ht
    unfold firstN
    rw [if_pos hs, ht.1]; rfl
  · rw [cutsFrom_end s _ 0 hs] at ht
    simp at ht
theorem first_none {s : ByteArray} (h : cuts s = []) : firstN s = 0 := by
  unfold cuts at h
  by_cases hs : 0 < s.size
  · obtain ⟨f, hf⟩ : ∃ f, s.size = f + 1 := ⟨s.size - 1, by omega⟩
    rw [hf, cutsFrom_step s f 0 hs] at h
    simp at h
  · unfold firstN; rw [if_neg hs]

set_option maxRecDepth 100000 in
set_option maxHeartbeats 2000000 in
theorem first_any (s : ByteArray) (w : World) :
    Calls Try.prog 32 #[.string s] w fun e w' => e = .returned (.int .i32 (firstN s)) ∧ Below w.heap.size w w' := by
  refine (callsIn_wide (n := 9)).1 ?_
  refine callsIn_of_wp_marks Try.func32 rfl trivial ?_ rfl
  simp only [Try.ntmps32, List.size_toArray, List.length_cons, List.length_nil, Nat.reduceAdd, Nat.reduceSub, Array.replicate_succ, Array.replicate_zero, List.push_toArray, List.append_toArray, List.nil_append, List.cons_append]
  gi_wp2_with (refine ⟨trivial, ?_⟩; gi_at_call 44; refine (runes_in _ _ _).mono ?_; rintro e w' ⟨rfl, rfl⟩)
  obtain ⟨W0, hW0⟩ : ∃ W0, ((w.alloc (Obj.cells #[Value.int IntKind.i32 0] 21)).alloc (Obj.cells #[Value.string s] 9)) = W0 := ⟨_, rfl⟩
  have b0 : Boxed W0 w.heap.size 21 (.int .i32 0) := by rw [← hW0]; exact (Boxed.new w 21 _).alloc _
  have b1 : Boxed W0 (w.heap.size + 1) 9 (.string s) := by
    rw [← hW0]; have := Boxed.new (w.alloc (Obj.cells #[Value.int IntKind.i32 0] 21)) 9 (.string s)
    rwa [World.size_alloc] at this
  have hB0 : Below w.heap.size w W0 := by rw [← hW0]; exact ((Below.refl _ w).alloc (Nat.le_refl _) _).alloc (by simp) _
  have hsz : W0.heap.size = w.heap.size + 2 := by rw [← hW0]; simp
  rw [hW0]
  clear hW0
  refine wpIn_rangeFunc_ownF (F := Fence.wide) rfl (by decide) (gf := 55) (lb := #[.pointer (some ⟨w.heap.size + 1, 0, none⟩)]) rfl trivial (enters_of Try.func55 (by kernel_rfl) rfl)
    (runes_stops (9 - 1) (by decide) (w.heap.size + 1) s W0 b1) Kp_t (Kp_b (w := W0)) (Below.refl _ _) (fun _ => rfl)
    (fun pre W => (pre = [] ∧ Boxed W w.heap.size 21 (.int .i32 0)) ∧ Below w.heap.size w W)
    (fun c pre W => (c = .ret ∧ ∃ x, pre = [x] ∧ Boxed W w.heap.size 21 (.int .i32 x.1.2)) ∧ Below w.heap.size w W)
    (OwnFrom.and (Own.from (fun t A B row h hg hr => ⟨h.1, boxed_step h.2 hg hr⟩) _) (ownFrom_below (Nat.le_refl _) (by omega)))
    (fun c => OwnFrom.and (Own.from (fun t A B row h hg hr => by
      obtain ⟨h1, x, h2, h3⟩ := h
      exact ⟨h1, x, h2, boxed_step h3 hg hr⟩) _) (ownFrom_below (Nat.le_refl _) (by omega)))
    ⟨⟨rfl, b0⟩, hB0⟩
    (fun x => { tmps := #[.string s, undef, .pointer (some ⟨w.heap.size, 0, none⟩), undef, .int .i32 x.1.2, .string s, .func (.func 55) #[] #[.pointer (some ⟨w.heap.size + 1, 0, none⟩)], .int .i64 (x.1.1 : Int), .int .i32 x.1.2, undef], defers := [] }) ?assign ?body ?done ?stop
  case assign =>
    intro l x W K hK
    unfold encs
    gi_wp2
    exact hK
  case body =>
    rintro l pre x W ⟨⟨rfl, h0⟩, hB⟩ hlen
    have c0 := h0.cell; have f0 := h0.frozen
    gi_wp2
    exact ⟨KeepsOthers.setCell _ _ _, ⟨rfl, x, rfl, h0.set _⟩, hB.setCell (p := ⟨w.heap.size, 0, none⟩) (Nat.le_refl _) _⟩
  case done =>
    rintro D ys W hD hys ⟨⟨rfl, h0⟩, hB⟩ hK
    have c0 := h0.cell; have f0 := h0.frozen
    have HF : Hid (firstN s = 0) := first_none hys.symm
    clear hys
    gi_wp2
    have hK' := (KeepsOthers.setCell W ⟨w.heap.size, 0, none⟩ (.int .i32 0)).same D _ hK rfl
    refine ⟨by simp, .inl ⟨_, _, rfl, run_takeDeferred hK', ?_⟩⟩
    have hc5 := (boxed_step (h0.set (.int .i32 0)) (grownBy_putObj' _ D (.deferred none)) (fun r e => by cases e; exact ⟨_, hK', rfl⟩)).cell
    refine ⟨.int .i32 0, ?_, by rw [HF.out], (hB.setCell (p := ⟨w.heap.size, 0, none⟩) (Nat.le_refl _) _).trans (belowK_b (w := w) (Nat.le_refl _) _ D _ _ (by omega) hK' rfl rfl)⟩
    simp [results, Try.f32, go_sem, hc5]
  case stop =>
    rintro D c pre W hD hpre ⟨⟨rfl, x, rfl, h0⟩, hB⟩ hK
    have HF : Hid (firstN s = x.1.2) := first_pre hpre
    clear hpre
    gi_wp2
    refine ⟨by simp, .inl ⟨_, _, rfl, run_takeDeferred hK, ?_⟩⟩
    have hc5 := (boxed_step h0 (grownBy_putObj' _ D (.deferred none)) (fun r e => by cases e; exact ⟨_, hK, rfl⟩)).cell
    refine ⟨.int .i32 x.1.2, ?_, by rw [HF.out], hB.trans (belowK_b (w := w) (Nat.le_refl _) _ D _ _ (by omega) hK rfl rfl)⟩
    simp [results, Try.f32, go_sem, hc5]
end Go.Proofs.Ytpndbbepfjocgaa
