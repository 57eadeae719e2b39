import Derived.Test.YtfolcjamefgphaaIter2
import Derived.Deep.QuietTactic
import Derived.BigQuiet
import Derived.WalkSmall
namespace Go.Proofs.Ytfolcjamefgphaa
open Go.RowKit Go.Shelf
attribute [local go_sem] Oper.semAt_some

/-- line and column behind things -/
def lcStep {s : ByteArray} (p : Int × Int) (x : Cut s) : Int × Int := if x.1.2 = 10 then (p.1 + 1, 1) else (p.1, p.2 + 1)
def lc {s : ByteArray} (pre : List (Cut s)) : Int × Int := pre.foldl lcStep (1, 1)
theorem lc_snoc {s : ByteArray} (pre : List (Cut s)) (x : Cut s) : lc (pre ++ [x]) = lcStep (lc pre) x := by simp [lc]
theorem lc_range {s : ByteArray} (pre : List (Cut s)) : (1 ≤ (lc pre).1 ∧ (lc pre).1 ≤ pre.length + 1) ∧ 1 ≤ (lc pre).2 ∧ (lc pre).2 ≤ pre.length + 1 := by
  have h : ∀ (l : List (Cut s)) (p : Int × Int) (n : Int), (1 ≤ p.1 ∧ p.1 ≤ n + 1) ∧ (1 ≤ p.2 ∧ p.2 ≤ n + 1) → (1 ≤ (l.foldl lcStep p).1 ∧ (l.foldl lcStep p).1 ≤ n + l.length + 1) ∧ 1 ≤ (l.foldl lcStep p).2 ∧ (l.foldl lcStep p).2 ≤ n + l.length + 1 := by
    intro l
    induction l with
    | nil => intro p n hp; simpa using hp
    | cons x l ih =>
      intro p n hp
      have := ih (lcStep p x) (n + 1) (by unfold lcStep; split <;> simp <;> omega)
      simp only [List.foldl_cons, List.length_cons, Int.natCast_add] at this ⊢
      omega
  have := h pre (1, 1) 0 (by simp)
  simpa [lc] using this

/-- what Where tells -/
def whereOf (s : ByteArray) (p : Nat) : Int × Int := lc ((cuts s).takeWhile fun x => decide (x.1.1 < p))

theorem where_done {s : ByteArray} {p : Nat} {ys : List (Cut s)} (h : ys = cuts s) (hall : ∀ y ∈ ys, y.1.1 < p) : whereOf s p = lc ys := by
  subst h
  unfold whereOf
  congr 1
  generalize cuts s = ys at hall
  induction ys with
  | nil => rfl
  | cons y ys ih => simp [hall y (by simp), ih (fun z hz => hall z (by simp [hz]))]
theorem where_stop {s : ByteArray} {p : Nat} {pre : List (Cut s)} {x : Cut s} (h : pre ++ [x] <+: cuts s) (hall : ∀ y ∈ pre, y.1.1 < p) (hx : ¬ x.1.1 < p) : whereOf s p = lc pre := by
  obtain ⟨t, ht⟩ := h
  unfold whereOf
  rw [← ht, List.append_assoc, List.takeWhile_append_of_pos (by simpa using hall)]
  simp [hx]

set_option maxRecDepth 100000 in
set_option maxHeartbeats 2000000 in
theorem where_any (s : ByteArray) (p : Nat) (w : World) (hs : s.size ≤ 140737488355328) (hp : p ≤ s.size) :
    Calls Try.prog 4 #[.string s, .int .i64 p] w fun e w' => e = .returned (.tuple #[.int .i64 (whereOf s p).1, .int .i64 (whereOf s p).2, .int .i64 0]) ∧ Below w.heap.size w w' := by
  have hd0 : decide ((p : Int) < 0) = false := by simp
  have hd1 : decide (s.size < p) = false := by simp; exact hp
  refine (callsIn_wide (n := 9)).1 ?_
  refine callsIn_of_wp_marks Try.func4 rfl trivial ?_ rfl
  simp only [Try.ntmps4, List.size_toArray, List.length_cons, List.length_nil, Nat.reduceAdd, Nat.reduceSub, Array.replicate_succ, Array.replicate_zero, List.push_toArray, List.append_toArray, List.nil_append, List.cons_append]
  gi_wp2_with (refine ⟨trivial, ?_⟩; gi_at_call 10; refine (runes_in _ _ _).mono ?_; rintro e w' ⟨rfl, rfl⟩)
  obtain ⟨W0, hW0⟩ : ∃ W0, ((((w.alloc (Obj.cells #[Value.int IntKind.i64 ↑p] 3)).alloc (Obj.cells #[Value.int IntKind.i64 1] 3)).alloc (Obj.cells #[Value.int IntKind.i64 1] 3)).alloc (Obj.cells #[Value.string s] 9)) = W0 := ⟨_, rfl⟩
  have b0 : Boxed W0 w.heap.size 3 (.int .i64 p) := by rw [← hW0]; exact (((Boxed.new w 3 _).alloc _).alloc _).alloc _
  have b1 : Boxed W0 (w.heap.size + 1) 3 (.int .i64 1) := by
    rw [← hW0]; have := ((Boxed.new (w.alloc (Obj.cells #[Value.int IntKind.i64 ↑p] 3)) 3 (.int .i64 1)).alloc (Obj.cells #[Value.int IntKind.i64 1] 3)).alloc (Obj.cells #[Value.string s] 9)
    rwa [World.size_alloc] at this
  have b2 : Boxed W0 (w.heap.size + 1 + 1) 3 (.int .i64 1) := by
    rw [← hW0]; have := (Boxed.new ((w.alloc (Obj.cells #[Value.int IntKind.i64 ↑p] 3)).alloc (Obj.cells #[Value.int IntKind.i64 1] 3)) 3 (.int .i64 1)).alloc (Obj.cells #[Value.string s] 9)
    rwa [World.size_alloc, World.size_alloc] at this
  have b3 : Boxed W0 (w.heap.size + 1 + 1 + 1) 9 (.string s) := by
    rw [← hW0]; have := Boxed.new (((w.alloc (Obj.cells #[Value.int IntKind.i64 ↑p] 3)).alloc (Obj.cells #[Value.int IntKind.i64 1] 3)).alloc (Obj.cells #[Value.int IntKind.i64 1] 3)) 9 (.string s)
    rwa [World.size_alloc, World.size_alloc, World.size_alloc] at this
  have hB0 : Below w.heap.size w W0 := by rw [← hW0]; exact ((((Below.refl _ w).alloc (Nat.le_refl _) _).alloc (by simp) _).alloc (by simp; omega) _).alloc (by simp; omega) _
  have hsz : W0.heap.size = w.heap.size + 4 := by rw [← hW0]; simp
  rw [hW0]
  clear hW0
  refine wpIn_rangeFunc_ownF (F := Fence.wide) rfl (by decide) (gf := 19) (lb := #[.pointer (some ⟨w.heap.size + 1 + 1 + 1, 0, none⟩)]) rfl trivial (enters_of Try.func19 (by kernel_rfl) rfl)
    (runes_stops (9 - 1) (by decide) (w.heap.size + 1 + 1 + 1) s W0 b3) Kp_t (Kp_b (w := W0)) (Below.refl _ _) (fun _ => rfl)
    (fun pre W => (Boxed W w.heap.size 3 (.int .i64 p) ∧ Boxed W (w.heap.size + 1) 3 (.int .i64 (lc pre).1) ∧ Boxed W (w.heap.size + 1 + 1) 3 (.int .i64 (lc pre).2) ∧ ∀ y ∈ pre, y.1.1 < p) ∧ Below w.heap.size w W)
    (fun c pre W => (∃ q x, c = .exit 0 ∧ pre = q ++ [x] ∧ ¬ x.1.1 < p ∧ (∀ y ∈ q, y.1.1 < p) ∧ Boxed W (w.heap.size + 1) 3 (.int .i64 (lc q).1) ∧ Boxed W (w.heap.size + 1 + 1) 3 (.int .i64 (lc q).2)) ∧ Below w.heap.size w W)
    (OwnFrom.and (Own.from (fun t A B row h hg hr => ⟨boxed_step h.1 hg hr, boxed_step h.2.1 hg hr, boxed_step h.2.2.1 hg hr, h.2.2.2⟩) _) (ownFrom_below (Nat.le_refl _) (by omega)))
    (fun c => OwnFrom.and (Own.from (fun t A B row h hg hr => by
      obtain ⟨q, x, h1, h2, h3, h4, h5, h6⟩ := h
      exact ⟨q, x, h1, h2, h3, h4, boxed_step h5 hg hr, boxed_step h6 hg hr⟩) _) (ownFrom_below (Nat.le_refl _) (by omega)))
    ⟨⟨b0, b1, b2, by simp⟩, hB0⟩
    (fun x => { tmps := #[.string s, .int .i64 p, undef, .pointer (some ⟨w.heap.size, 0, none⟩), .int .i64 0, .int .i64 0, .int .i64 0, .pointer (some ⟨w.heap.size + 1, 0, none⟩), .pointer (some ⟨w.heap.size + 1 + 1, 0, none⟩), .int .i64 (x.1.1 : Int), .int .i32 x.1.2, .int .i64 p,
          .bool false, .bool false, .int .i64 p, .string s, .int .i64 s.size, .bool false, .bool false, .string s, .func (.func 19) #[] #[.pointer (some ⟨w.heap.size + 1 + 1 + 1, 0, none⟩)], .int .i64 (x.1.1 : Int), .int .i32 x.1.2, undef, undef, undef, undef, undef, undef, undef, undef, undef, undef, undef], defers := [] }) ?assign ?body ?done ?stop
  case assign =>
    intro l x W K hK
    unfold encs
    gi_wp2
    exact hK
  case body =>
    rintro l pre x W ⟨⟨h0, h1, h2, hall⟩, hB⟩ hlen
    have c0 := h0.cell; have c1 := h1.cell; have f1 := h1.frozen; have c2 := h2.cell; have f2 := h2.frozen
    have hlr := lc_range pre
    obtain ⟨⟨l1, l2⟩, l3, l4⟩ := hlr
    have HA : Hid (∀ y ∈ pre, y.1.1 < p) := hall
    clear hall
    by_cases hlt : x.1.1 < p
    · have hltI : (x.1.1 : Int) < (p : Int) := by omega
      by_cases h10 : x.1.2 = 10
      · have h10b : (x.1.2 == 10) = true := by simp [h10]
        gi_wp2
        refine ⟨((KeepsOthers.setCell _ _ _).trans (KeepsOthers.setCell _ _ _)).trans (KeepsOthers.setCell _ _ _), Kp_t (Kp_t (kp_set _ _ _ (by omega)) (kp_set _ _ _ (by omega))) (kp_set _ _ _ (by omega)), ⟨((h0.other (by omega) _).other (by omega) _).other (by omega) _, ?_, ?_, ?_⟩, ((hB.setCell (p := ⟨w.heap.size + 1 + 1, 0, none⟩) (by show w.heap.size ≤ w.heap.size + 1 + 1; omega) _).setCell (p := ⟨w.heap.size + 1, 0, none⟩) (by show w.heap.size ≤ w.heap.size + 1; omega) _).setCell (p := ⟨w.heap.size + 1 + 1, 0, none⟩) (by show w.heap.size ≤ w.heap.size + 1 + 1; omega) _⟩
        · rw [lc_snoc, lcStep, if_pos h10]
          exact ((h1.other (by omega) _).set _).other (by omega) _
        · rw [lc_snoc, lcStep, if_pos h10]
          exact ((h2.set _).other (by omega) _).set _
        · intro y hy
          rcases List.mem_append.1 hy with h | h
          · exact HA.out y h
          · simp at h; subst h; exact hlt
      · have h10b : (x.1.2 == 10) = false := by simp [h10]
        gi_wp2
        refine ⟨KeepsOthers.setCell _ _ _, kp_set _ _ _ (by omega), ⟨h0.other (by omega) _, ?_, ?_, ?_⟩, hB.setCell (p := ⟨w.heap.size + 1 + 1, 0, none⟩) (by show w.heap.size ≤ w.heap.size + 1 + 1; omega) _⟩
        · rw [lc_snoc, lcStep, if_neg h10]
          exact h1.other (by omega) _
        · rw [lc_snoc, lcStep, if_neg h10]
          exact h2.set _
        · intro y hy
          rcases List.mem_append.1 hy with h | h
          · exact HA.out y h
          · simp at h; subst h; exact hlt
    · have hltI : (p : Int) ≤ (x.1.1 : Int) := by omega
      gi_wp2
      exact ⟨KeepsOthers.refl _, ⟨pre, x, rfl, rfl, hlt, HA.out, h1, h2⟩, hB⟩
  case done =>
    rintro D ys W hD hys ⟨⟨h0, h1, h2, hall⟩, hB⟩ hK
    have c1 := h1.cell; have c2 := h2.cell
    have HR : Hid (whereOf s p = lc ys) := where_done hys hall
    clear hys hall
    gi_wp2
    gi_region
    gi_wp2
    refine ⟨by simp, .inl ⟨_, _, rfl, run_takeDeferred (w := W.drew) hK, ?_⟩⟩
    exact ⟨_, results_tmp3 rfl _ _ _, by rw [HR.out]; rfl, hB.drew.trans (belowK_b (w := w) (Nat.le_refl _) W.drew D _ _ (by omega) hK rfl rfl)⟩
  case stop =>
    rintro D c pre W hD hpre ⟨⟨q, x, rfl, rfl, hx, hall, h1, h2⟩, hB⟩ hK
    have c1 := h1.cell; have c2 := h2.cell
    have HR : Hid (whereOf s p = lc q) := where_stop hpre hall hx
    clear hpre hall hx
    gi_wp2
    gi_region
    gi_wp2
    refine ⟨by simp, .inl ⟨_, _, rfl, run_takeDeferred (w := W.drew) hK, ?_⟩⟩
    exact ⟨_, results_tmp3 rfl _ _ _, by rw [HR.out]; rfl, hB.drew.trans (belowK_b (w := w) (Nat.le_refl _) W.drew D _ _ (by omega) hK rfl rfl)⟩
end Go.Proofs.Ytfolcjamefgphaa
