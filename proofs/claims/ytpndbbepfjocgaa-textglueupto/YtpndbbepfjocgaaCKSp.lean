import Derived.Test.YtpndbbepfjocgaaCKLit
import Derived.Test.YtpndbbepfjocgaaFirst
import Derived.Test.YtpndbbepfjocgaaRune
import Derived.Test.YtpndbbepfjocgaaBBytes
import Derived.Lib.SlicesS
namespace Go.Proofs.Ytpndbbepfjocgaa
open Go.RowKit
set_option maxRecDepth 100000

/-- where a comment ends -/
def lnI (s : ByteArray) (a : Nat) : Int := Lib.indexByte (sub s a).data.toList 10
def lnEnd (s : ByteArray) (a : Nat) : Nat := if 0 ≤ lnI s a then a + (lnI s a).toNat else s.size
/-- where a figure ends -/
def hexP (s : ByteArray) (a : Nat) : Bool := Lib.hasPrefix (sub s a).data.toList [48, 120] || Lib.hasPrefix (sub s a).data.toList [48, 88]
def powL (h : Bool) (c : Nat) : Bool := if h then (decide (c = 112) || decide (c = 80)) else (decide (c = 101) || decide (c = 69))
def figC (s : ByteArray) (h : Bool) (i : Nat) : Bool := figL (bt s i) || (pmL (bt s i) && powL h (bt s (i - 1)))
def figF (s : ByteArray) (h : Bool) : Nat → Nat → Nat
  | 0, i => i
  | f + 1, i => if i < s.size ∧ figC s h i = true then figF s h f (i + 1) else i
def fgEnd (s : ByteArray) (a : Nat) : Nat := figF s (hexP s a) s.size (a + 1)
theorem figF_stop (s : ByteArray) (h : Bool) (f i : Nat) (hi : ¬ (i < s.size ∧ figC s h i = true)) : figF s h f i = i := by
  cases f with
  | zero => rfl
  | succ f => simp only [figF]; rw [if_neg hi]
theorem figF_step (s : ByteArray) (h : Bool) (f i : Nat) (hi : i < s.size) (hc : figC s h i = true) (hf : s.size - i ≤ f) : ∃ g, s.size - (i + 1) ≤ g ∧ figF s h f i = figF s h g (i + 1) := by
  cases f with
  | zero => omega
  | succ f => exact ⟨f, by omega, by simp only [figF]; rw [if_pos ⟨hi, hc⟩]⟩
/-- where a name ends -/
def nameL (n : Int) : Bool := decide (n = 95) || letterL n || digitL n
def nmO (t : ByteArray) : Nat := match (cuts t).find? (fun x => !nameL x.1.2) with
  | some x => x.1.1
  | none => t.size
def nmEnd (s : ByteArray) (a : Nat) : Nat := a + nmO (sub s a)
/-- what a literal is: kind, end, the fault's place, the error -/
def litV (s : ByteArray) (a : Nat) : Nat × Nat × Int × Int :=
  if litEnd s a = a then (0, 0, a, 11)
  else if bt s a = 34 then (if (bV (s.extract a (litEnd s a))).2.2 = 0 then (3, litEnd s a, 0, 0) else (0, 0, a + (bV (s.extract a (litEnd s a))).2.1, (bV (s.extract a (litEnd s a))).2.2))
  else (if (runeV (s.extract a (litEnd s a))).2.2 = 0 then (4, litEnd s a, 0, 0) else (0, 0, a + (runeV (s.extract a (litEnd s a))).2.1, (runeV (s.extract a (litEnd s a))).2.2))
/-- how long the sign at a place is -/
def sgF (s : ByteArray) (G : List ByteArray) (a : Nat) : Nat → Nat
  | 0 => 0
  | k + 1 => if Lib.containsS G (s.extract a (a + (k + 1))) = true then k + 1 else sgF s G a k
def sgL (s : ByteArray) (G : List ByteArray) (a : Nat) : Nat := sgF s G a (min 3 (s.size - a))
/-- a step: what (0: nothing, 1: a token, 2: a fault), kind, where it goes on, the fault's place, the error -/
structure Stp where
  what : Nat
  kind : Nat
  go : Nat
  place : Int
  err : Int
def stp (s : ByteArray) (G : List ByteArray) (a : Nat) : Stp :=
  if firstN (sub s a) = 9 ∨ firstN (sub s a) = 13 ∨ firstN (sub s a) = 32 then ⟨0, 0, a + 1, 0, 0⟩
  else if firstN (sub s a) = 35 then ⟨0, 0, lnEnd s a, 0, 0⟩
  else if firstN (sub s a) = 10 then ⟨1, 6, a + 1, 0, 0⟩
  else if firstN (sub s a) = 95 ∨ letterL (firstN (sub s a)) = true then ⟨1, 1, nmEnd s a, 0, 0⟩
  else if digitL (firstN (sub s a)) = true then ⟨1, 2, fgEnd s a, 0, 0⟩
  else if firstN (sub s a) = 34 ∨ firstN (sub s a) = 39 then (if (litV s a).2.2.2 = 0 then ⟨1, (litV s a).1, (litV s a).2.1, 0, 0⟩ else ⟨2, 0, 0, (litV s a).2.2.1, (litV s a).2.2.2⟩)
  else if sgL s G a = 0 then ⟨2, 0, 0, a, if firstN (sub s a) < 0 then 13 else 10⟩
  else ⟨1, 5, a + sgL s G a, 0, 0⟩
/-- a token: kind, place, end -/
abbrev Tk := Nat × Nat × Nat
def cutF (s : ByteArray) (G : List ByteArray) : Nat → Nat → List Tk → List Tk × Int × Int
  | 0, _, L => (L, 0, 0)
  | f + 1, a, L => if a < s.size then (if (stp s G a).what = 0 then cutF s G f (stp s G a).go L else if (stp s G a).what = 1 then cutF s G f (stp s G a).go (L ++ [((stp s G a).kind, a, (stp s G a).go)]) else ([], (stp s G a).place, (stp s G a).err)) else (L, 0, 0)
def cutV (s : ByteArray) (G : List ByteArray) : List Tk × Int × Int := if 524288 < s.size then ([], 524288, 15) else cutF s G s.size 0 []
/-- tokens as values -/
def tkV (s : ByteArray) (x : Tk) : List Value := [.int .u8 x.1, .int .i64 x.2.1, .string (s.extract x.2.1 x.2.2)]
def tv (s : ByteArray) (L : List Tk) : List Value := (L.map (tkV s)).flatten
theorem tv_append (s : ByteArray) (L M : List Tk) : tv s (L ++ M) = tv s L ++ tv s M := by simp [tv]
theorem tv_len (s : ByteArray) (L : List Tk) : (tv s L).length = 3 * L.length := by
  induction L with
  | nil => rfl
  | cons x L ih => rw [show tv s (x :: L) = tkV s x ++ tv s L from rfl, List.length_append, ih, List.length_cons]; simp [tkV]; omega
end Go.Proofs.Ytpndbbepfjocgaa
namespace Go.Proofs.Ytpndbbepfjocgaa
open Go.RowKit
set_option maxRecDepth 100000

theorem lnI_ge (s : ByteArray) (a : Nat) : -1 ≤ lnI s a := Lib.indexByte_ge _ _
theorem indexByte_lt (l : List UInt8) (c : UInt8) : Lib.indexByte l c < l.length ∨ Lib.indexByte l c = -1 := by
  induction l with
  | nil => exact .inr rfl
  | cons b l ih =>
    unfold Lib.indexByte
    split
    · left; simp
    · split
      · right; rfl
      · rename_i h1 h2
        left
        have : Lib.indexByte l c ≠ -1 := by simpa using h2
        simp only [List.length_cons]; omega
theorem lnI_lt (s : ByteArray) (a : Nat) : lnI s a < (s.size - a : Nat) ∨ lnI s a = -1 := by
  have h := indexByte_lt (sub s a).data.toList 10
  rw [show (sub s a).data.toList.length = s.size - a by rw [Array.length_toList]; exact sub_size s a] at h
  exact h
set_option maxHeartbeats 1000000 in
theorem lineEnd_any (s : ByteArray) (a : Nat) (w : World) (ha : a ≤ s.size) (hs : s.size ≤ 140737488355328) :
    Calls Try.prog 33 #[.string s, .int .i64 a] w fun e w' => e = .returned (.int .i64 (lnEnd s a)) ∧ w' = w := by
  have h1 := lnI_ge s a
  have h2 := lnI_lt s a
  have HI : ∀ w, Calls Try.prog 30 #[.string (s.extract a s.size), .int .u8 10] w fun e w' => e = .returned (.int .i64 (lnI s a)) ∧ w' = w := fun w => Try.strings_IndexByte (s.extract a s.size) 10 w
  have haI : (a : Int) ≤ (s.size : Int) := by omega
  unfold lnEnd
  generalize lnI s a = r at *
  by_cases hr : 0 ≤ r
  · obtain ⟨n, rfl⟩ : ∃ n : Nat, r = n := ⟨r.toNat, by omega⟩
    rw [if_pos hr]
    go_enter Try.func33, Try.ntmps33
    go_wp2_with (go_at_call 30; with_reducible refine (HI _).mono ?_; rintro e wq ⟨rfl, hq⟩; subst wq)
    go_ret
    exact ⟨ret_int (by simp), rfl⟩
  · rw [if_neg hr]
    go_enter Try.func33, Try.ntmps33
    go_wp2_with (go_at_call 30; with_reducible refine (HI _).mono ?_; rintro e wq ⟨rfl, hq⟩; subst wq)
    go_ret
    exact ⟨rfl, rfl⟩
end Go.Proofs.Ytpndbbepfjocgaa
namespace Go.Proofs.Ytpndbbepfjocgaa
open Go.RowKit Go.Shelf
attribute [local go_sem] Oper.semAt_some

theorem nm_done {t : ByteArray} {ys : List (Cut t)} (h : ys = cuts t) (hall : ∀ y ∈ ys, nameL y.1.2 = true) : nmO t = t.size := by
  subst h
  unfold nmO
  rw [List.find?_eq_none.2 (fun x hx => by simp [hall x hx])]
theorem nm_stop {t : ByteArray} {pre : List (Cut t)} {x : Cut t} (h : pre ++ [x] <+: cuts t) (hall : ∀ y ∈ pre, nameL y.1.2 = true) (hx : nameL x.1.2 = false) : nmO t = x.1.1 := by
  obtain ⟨u, hu⟩ := h
  unfold nmO
  rw [← hu, List.append_assoc, List.find?_append, List.find?_eq_none.2 (fun y hy => by simp [hall y hy])]
  simp [hx]
set_option maxRecDepth 100000 in
set_option maxHeartbeats 2000000 in
theorem nameEnd_any (s : ByteArray) (a : Nat) (w : World) (ha : a ≤ s.size) (hs : s.size ≤ 140737488355328) :
    Calls Try.prog 35 #[.string s, .int .i64 a] w fun e w' => e = .returned (.int .i64 (nmEnd s a)) ∧ Below w.heap.size w w' := by
  have haI : (a : Int) ≤ (s.size : Int) := by omega
  refine (callsIn_wide (n := 9)).1 ?_
  refine callsIn_of_wp_marks Try.func35 rfl trivial ?_ rfl
  simp only [Try.ntmps35, List.size_toArray, List.length_cons, List.length_nil, Nat.reduceAdd, Nat.reduceSub, Array.replicate_succ, Array.replicate_zero, List.push_toArray, List.append_toArray, List.nil_append, List.cons_append]
  gi_wp2_with (refine ⟨trivial, ?_⟩; gi_at_call 44; refine (runes_in _ _ _).mono ?_; rintro e w' ⟨rfl, rfl⟩)
  obtain ⟨t, ht⟩ : ∃ t, s.extract a s.size = t := ⟨_, rfl⟩
  have HE : Hid (nmEnd s a = a + nmO t) := by rw [← ht]; rfl
  have htz : t.size = s.size - a := by rw [← ht]; simp
  rw [ht]
  clear ht
  obtain ⟨W0, hW0⟩ : ∃ W0, (((w.alloc (Obj.cells #[Value.int IntKind.i64 (a : Int)] 3)).alloc (Obj.cells #[Value.int IntKind.i64 0] 3)).alloc (Obj.cells #[Value.string t] 9)) = W0 := ⟨_, rfl⟩
  have b0 : Boxed W0 w.heap.size 3 (.int .i64 a) := by rw [← hW0]; exact ((Boxed.new w 3 _).alloc _).alloc _
  have b1 : Boxed W0 (w.heap.size + 1) 3 (.int .i64 0) := by
    rw [← hW0]; have := (Boxed.new (w.alloc (Obj.cells #[Value.int IntKind.i64 (a : Int)] 3)) 3 (.int .i64 0)).alloc (Obj.cells #[Value.string t] 9)
    rwa [World.size_alloc] at this
  have b2 : Boxed W0 (w.heap.size + 1 + 1) 9 (.string t) := by
    rw [← hW0]; have := Boxed.new ((w.alloc (Obj.cells #[Value.int IntKind.i64 (a : Int)] 3)).alloc (Obj.cells #[Value.int IntKind.i64 0] 3)) 9 (.string t)
    rwa [World.size_alloc, World.size_alloc] at this
  have hB0 : Below w.heap.size w W0 := by rw [← hW0]; exact (((Below.refl _ w).alloc (Nat.le_refl _) _).alloc (by simp) _).alloc (by simp; omega) _
  have hsz : W0.heap.size = w.heap.size + 3 := by rw [← hW0]; simp
  rw [hW0]
  clear hW0
  refine wpIn_rangeFunc_ownF (F := Fence.wide) rfl (by decide) (gf := 55) (lb := #[.pointer (some ⟨w.heap.size + 1 + 1, 0, none⟩)]) rfl trivial (enters_of Try.func55 (by kernel_rfl) rfl)
    (runes_stops (9 - 1) (by decide) (w.heap.size + 1 + 1) t W0 b2) Kp_t (Kp_b (w := W0)) (Below.refl _ _) (fun _ => rfl)
    (fun pre W => (Boxed W w.heap.size 3 (.int .i64 a) ∧ Boxed W (w.heap.size + 1) 3 (.int .i64 0) ∧ ∀ y ∈ pre, nameL y.1.2 = true) ∧ Below w.heap.size w W)
    (fun c pre W => (∃ q x, c = .ret ∧ pre = q ++ [x] ∧ nameL x.1.2 = false ∧ (∀ y ∈ q, nameL y.1.2 = true) ∧ Boxed W (w.heap.size + 1) 3 (.int .i64 ((a + x.1.1 : Nat) : Int))) ∧ Below w.heap.size w W)
    (OwnFrom.and (Own.from (fun t A B row h hg hr => ⟨boxed_step h.1 hg hr, boxed_step h.2.1 hg hr, h.2.2⟩) _) (ownFrom_below (Nat.le_refl _) (by omega)))
    (fun c => OwnFrom.and (Own.from (fun t A B row h hg hr => by
      obtain ⟨q, x, h1, h2, h3, h4, h5⟩ := h
      exact ⟨q, x, h1, h2, h3, h4, boxed_step h5 hg hr⟩) _) (ownFrom_below (Nat.le_refl _) (by omega)))
    ⟨⟨b0, b1, by simp⟩, hB0⟩
    (fun x => { tmps := #[.string s, .int .i64 (a : Int), undef, .pointer (some ⟨w.heap.size, 0, none⟩), .pointer (some ⟨w.heap.size + 1, 0, none⟩), .int .i64 (x.1.1 : Int), .int .i32 x.1.2, .string s, .int .i64 (a : Int), .string t,
          .func (.func 55) #[] #[.pointer (some ⟨w.heap.size + 1 + 1, 0, none⟩)], .int .i64 (x.1.1 : Int), .int .i32 x.1.2, undef, undef, undef, undef, undef, undef, undef, undef, undef, undef, undef, undef, undef, undef, undef, undef, undef], defers := [] }) ?assign ?body ?done ?stop
  case assign =>
    intro l x W K hK
    unfold encs
    gi_wp2
    exact hK
  case body =>
    rintro l pre x W ⟨⟨h0, h1, hall⟩, hB⟩ hlen
    have c0 := h0.cell; have c1 := h1.cell; have f1 := h1.frozen
    have HA : Hid (∀ y ∈ pre, nameL y.1.2 = true) := hall
    have hxl := x.2.1
    clear hall
    have hL := letterL_any x.1.2 W
    have hD := digitL_any x.1.2 W
    obtain ⟨HN⟩ : Nonempty (Hid (nameL x.1.2 = (decide (x.1.2 = 95) || letterL x.1.2 || digitL x.1.2))) := ⟨rfl⟩
    by_cases h95 : x.1.2 = 95
    · have h95b : (x.1.2 != 95) = false := by simp [h95]
      have HN2 : Hid (nameL x.1.2 = true) := by rw [Hid, HN.out]; simp [h95]
      clear HN
      gi_wp2_with fail
      refine ⟨trivial, ?_⟩
      gi_wp2_with fail
      refine ⟨trivial, ?_⟩
      gi_wp2_with fail
      refine ⟨KeepsOthers.refl _, kp_refl _ _ _, ⟨h0, h1, ?_⟩, hB⟩
      intro y hy
      rcases List.mem_append.1 hy with h | h
      · exact HA.out y h
      · simp at h; subst h; exact HN2.out
    · have h95b : (x.1.2 != 95) = true := by simp [h95]
      cases hl : letterL x.1.2 with
      | true =>
        rw [hl] at hL
        have HN2 : Hid (nameL x.1.2 = true) := by rw [Hid, HN.out]; simp [hl]
        clear HN hD
        gi_wp2_with (first
          | (refine ⟨trivial, ?_⟩; gi_at_call 34; refine (callsIn_wide.2 hL).mono ?_; rintro e wq ⟨rfl, hq⟩; subst hq)
          | fail)
        refine ⟨trivial, ?_⟩
        gi_wp2_with fail
        refine ⟨KeepsOthers.refl _, kp_refl _ _ _, ⟨h0, h1, ?_⟩, hB⟩
        intro y hy
        rcases List.mem_append.1 hy with h | h
        · exact HA.out y h
        · simp at h; subst h; exact HN2.out
      | false =>
        rw [hl] at hL
        cases hd : digitL x.1.2 with
        | true =>
          rw [hd] at hD
          have HN2 : Hid (nameL x.1.2 = true) := by rw [Hid, HN.out]; simp [hd]
          clear HN
          gi_wp2_with (first
            | (refine ⟨trivial, ?_⟩; gi_at_call 34; refine (callsIn_wide.2 hL).mono ?_; rintro e wq ⟨rfl, hq⟩; subst hq)
            | (refine ⟨trivial, ?_⟩; gi_at_call 36; refine (callsIn_wide.2 hD).mono ?_; rintro e wq ⟨rfl, hq⟩; subst hq)
            | fail)
          refine ⟨KeepsOthers.refl _, kp_refl _ _ _, ⟨h0, h1, ?_⟩, hB⟩
          intro y hy
          rcases List.mem_append.1 hy with h | h
          · exact HA.out y h
          · simp at h; subst h; exact HN2.out
        | false =>
          rw [hd] at hD
          have HN2 : Hid (nameL x.1.2 = false) := by rw [Hid, HN.out]; simp [hl, hd, h95]
          clear HN
          have hwr : wrap64 ((a : Int) + (x.1.1 : Int)) = (a : Int) + (x.1.1 : Int) := by unfold wrap64; omega
          gi_wp2_with (first
            | (refine ⟨trivial, ?_⟩; gi_at_call 34; refine (callsIn_wide.2 hL).mono ?_; rintro e wq ⟨rfl, hq⟩; subst hq)
            | (refine ⟨trivial, ?_⟩; gi_at_call 36; refine (callsIn_wide.2 hD).mono ?_; rintro e wq ⟨rfl, hq⟩; subst hq)
            | fail)
          refine ⟨KeepsOthers.setCell _ _ _, ⟨pre, x, rfl, rfl, HN2.out, HA.out, ?_⟩, hB.setCell (p := ⟨w.heap.size + 1, 0, none⟩) (by show w.heap.size ≤ w.heap.size + 1; omega) _⟩
          rw [Int.natCast_add]
          exact h1.set _
  case done =>
    rintro D ys W hD hys ⟨⟨h0, h1, hall⟩, hB⟩ hK
    have c1 := h1.cell; have f1 := h1.frozen
    have HR : Hid (nmEnd s a = s.size) := by rw [Hid, HE.out, nm_done hys hall, htz]; omega
    clear hys hall
    gi_wp2
    have hK' := (KeepsOthers.setCell W ⟨w.heap.size + 1, 0, none⟩ (.int .i64 (s.size : Int))).same D _ hK rfl
    refine ⟨by simp, .inl ⟨_, _, rfl, run_takeDeferred hK', ?_⟩⟩
    have hc5 := (boxed_step (h1.set (.int .i64 (s.size : Int))) (grownBy_putObj' _ D (.deferred none)) (fun r e => by cases e; exact ⟨_, hK', rfl⟩)).cell
    refine ⟨.int .i64 (s.size : Int), ?_, by rw [HR.out], (hB.setCell (p := ⟨w.heap.size + 1, 0, none⟩) (by show w.heap.size ≤ w.heap.size + 1; omega) _).trans (belowK_b (w := w) (Nat.le_refl _) _ D _ _ (by omega) hK' rfl rfl)⟩
    simp [results, Try.f35, go_sem, hc5]
  case stop =>
    rintro D c pre W hD hpre ⟨⟨q, x, rfl, rfl, hx, hall, h1⟩, hB⟩ hK
    have HF : Hid (nmEnd s a = a + x.1.1) := by rw [Hid, HE.out, nm_stop hpre hall hx]
    clear hpre hall hx
    gi_wp2
    refine ⟨by simp, .inl ⟨_, _, rfl, run_takeDeferred hK, ?_⟩⟩
    have hc5 := (boxed_step h1 (grownBy_putObj' _ D (.deferred none)) (fun r e => by cases e; exact ⟨_, hK, rfl⟩)).cell
    refine ⟨.int .i64 ((a + x.1.1 : Nat) : Int), ?_, by rw [HF.out], hB.trans (belowK_b (w := w) (Nat.le_refl _) _ D _ _ (by omega) hK rfl rfl)⟩
    simp [results, Try.f35, go_sem, hc5]
end Go.Proofs.Ytpndbbepfjocgaa
