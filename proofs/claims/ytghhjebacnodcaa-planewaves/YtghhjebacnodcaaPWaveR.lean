import Derived.Test.YtghhjebacnodcaaPWave
import Derived.Laws.OwnMore
import Derived.OwnWalk
namespace Go.Proofs.Ytghhjebacnodcaa
open Go.RowKit
theorem Try.info_c : (Try.prog.info? 38).map (fun i => (i.zero, i.size, i.bytes)) = some (some (.complex .f64 0 0), 1, 16) := by kernel_rfl
theorem pgrown {w w' : World} (h : Below w.heap.size w w') : w.grownBy w' none := ⟨h.os, h.tape, h.output, h.size, fun k hk _ => h.block k hk⟩
theorem pown {w w' : World} {B e sz : Nat} {v : Value} {n : Nat} {xs : List Value} (h : w.ownsRow B e sz v n xs) (hb : Below w.heap.size w w') : w'.ownsRow B e sz v n xs :=
  h.kept (pgrown hb) (by cases hv : v.ownBlock <;> simp)
theorem ptrans {w a b : World} (h1 : Below w.heap.size w a) (h2 : Below a.heap.size a b) : Below w.heap.size w b := h1.trans (h2.mono h1.size)
theorem own_set {w wq : World} {B g n cap k : Nat} {e : TypeId} {xs : List Value} {u : Value} (h : wq.ownsRow B e 1 (.slice (some ⟨g, 0, none⟩) n cap) n xs) (hb : Below B w wq) (hB : B ≤ g) :
    (wq.setCell ⟨g, k, none⟩ u).ownsRow B e 1 (.slice (some ⟨g, 0, none⟩) n cap) n (xs.set k u) ∧ Below B w (wq.setCell ⟨g, k, none⟩ u) :=
  ⟨(h.stored k u).1, hb.setCell (by simpa using hB) u⟩
theorem own_at {w : World} {B g n cap k : Nat} {e : TypeId} {xs : List Value} (h : w.ownsRow B e 1 (.slice (some ⟨g, 0, none⟩) n cap) n xs) (hk : k < n) : ∃ u, w.cell? ⟨g, k, none⟩ = some u ∧ xs[k]? = some u ∧ w.frozen? ⟨g, k, none⟩ = false := by
  have hl : xs.length = n * 1 := h.1
  have h1 := h.cellAt k (by omega)
  have h2 : xs[k]? = some (xs[k]'(by omega)) := List.getElem?_eq_getElem _
  exact ⟨_, by rw [h1, h2], h2, h.frozenAt k⟩
theorem fill_step {R : Nat → Nat → Nat → Prop} {n k r im : Nat} {xs : List Value} {f : Nat → Nat × Nat} (hl : xs.length = n * 1) (hk : k < n) (hf : ∀ i, i < k → xs[i]? = some (cp (f i)) ∧ R i (f i).1 (f i).2) (hR : R k r im) :
    ∃ g : Nat → Nat × Nat, ∀ i, i < k + 1 → (xs.set k (cp (r, im)))[i]? = some (cp (g i)) ∧ R i (g i).1 (g i).2 := by
  refine ⟨fun i => if i = k then (r, im) else f i, fun i hi => ?_⟩
  dsimp only
  by_cases hik : i = k
  · subst hik
    rw [if_pos rfl]
    exact ⟨by rw [List.getElem?_set_self (by omega)], hR⟩
  · rw [if_neg hik, List.getElem?_set_ne (fun h => hik h.symm)]
    exact hf i (by omega)
def DivV (a b d r i : Nat) : Prop := ∃ w0 w1 : World, r = fv .quo a d w0 ∧ i = fv .quo b d w1
theorem divided_any (a b d : Nat) (w : World) (hd : (FloatKind.f64.format.order d 0 == some .eq) = false) :
    Calls Try.prog 57 #[.complex .f64 a b, .float .f64 d] w fun e w' => ∃ r i m, e = .returned (.tuple #[.complex .f64 r i, .int .i64 0]) ∧ w' = w.drewN m ∧ DivV a b d r i := by
  go_enter Try.func57, Try.ntmps57
  go_wp2
  go_ret2
  exact ⟨_, _, _, rfl, rfl, _, _, rfl, rfl⟩
theorem wave_none (ao : Option Addr) (n cap : Nat) (back : Bool) (w : World) (h1 : n ≠ 1) (h2 : n ≠ 2) (h4 : n ≠ 4) (h8 : n ≠ 8) :
    Calls Try.prog 14 #[.slice ao n cap, .bool back] w fun e w' => e = .returned (.tuple #[.slice none 0 0, .int .i64 51]) ∧ w' = w := by
  go_enter Try.func14, Try.ntmps14
  go_wp2
  go_ret2
  exact ⟨rfl, rfl⟩
set_option maxRecDepth 100000 in
set_option maxHeartbeats 1000000 in
theorem wave_fwd (R : Nat → Nat → Nat → Prop) (ao : Option Addr) (cap n : Nat) (w : World) (hn : n = 1 ∨ n = 2 ∨ n = 4 ∨ n = 8)
    (hw : ∀ j W, j < n → Below w.heap.size w W → Calls Try.prog 56 #[.slice ao n cap, .int .i64 (j : Int), .bool false] W fun e w' => ∃ r i, e = .returned (.complex .f64 r i) ∧ R j r i ∧ Below W.heap.size W w') :
    Calls Try.prog 14 #[.slice ao n cap, .bool false] w fun e w' => ∃ (v : Value) (xs : List Value) (f : Nat → Nat × Nat), e = .returned (.tuple #[v, .int .i64 0]) ∧ w'.ownsRow w.heap.size 38 1 v n xs ∧ (∀ i, i < n → xs[i]? = some (cp (f i)) ∧ R i (f i).1 (f i).2) ∧ Below w.heap.size w w' := by
  obtain ⟨i0, hi, hz0, hz1, hz2⟩ := info_parts Try.info_c
  obtain ⟨w1, hmk, hown0, hg0⟩ := run_make_full (P := Try.prog) w w.heap.size 34 38 i0 (.complex .f64 0 0) 1 Try.underlying34 hi hz0 hz1 .i64 .i64 n (by rw [hz2]; omega) (by unfold maxLen; omega) (Nat.le_refl _)
  have hb0 : Below w.heap.size w w1 := (Below.refl w.heap.size w).grown hg0 (Nat.le_refl _) (fun k e => by simp at e)
  have hsw : (((n : Int) == 1) = true) ∨ (((n : Int) == 1) = false ∧ ((n : Int) == 2) = true) ∨ (((n : Int) == 1) = false ∧ ((n : Int) == 2) = false ∧ ((n : Int) == 4) = true) ∨ (((n : Int) == 1) = false ∧ ((n : Int) == 2) = false ∧ ((n : Int) == 4) = false ∧ ((n : Int) == 8) = true) := by
    rcases hn with rfl | rfl | rfl | rfl <;> decide
  have hn8 : n ≤ 8 := by omega
  clear hn hg0
  generalize (madeCells (Value.complex .f64 0 0).cells (n * 1)).toList = xs0 at hown0
  rcases hsw with h1 | ⟨h1, h2⟩ | ⟨h1, h2, h3⟩ | ⟨h1, h2, h3, h4⟩
  all_goals
    go_enter Try.func14, Try.ntmps14
    go_wp2
  all_goals
    go_loopw [21] (fun i wr => ∃ (k : Nat) (xs : List Value) (f : Nat → Nat × Nat), k ≤ n ∧ i = .int .i64 k ∧ wr.ownsRow w.heap.size 38 1 (.slice (some ⟨w.heap.size, 0, none⟩) n n) n xs ∧ (∀ i, i < k → xs[i]? = some (cp (f i)) ∧ R i (f i).1 (f i).2) ∧ Below w.heap.size w wr)
      (fun i _ => n - (intOf i).toNat)
    case atStart => exact ⟨0, xs0, fun _ => (0, 0), Nat.zero_le _, rfl, hown0, fun i hi => by omega, hb0⟩
    case round =>
      clear hown0 hb0 hmk
      obtain ⟨k, xs, f, hk, rfl, hown, hf, hbw⟩ := hrel
      by_cases hlt : k < n
      · have hwk := hw k wr hlt hbw
        clear hw
        go_wp2_with (go_at_call 56; with_reducible refine hwk.mono ?_; rintro e wq ⟨r, im, rfl, hR, hq⟩; have own' := pown hown hq; have hbq := ptrans hbw hq; obtain ⟨u0, hc1, hx1, hf1⟩ := own_at own' hlt)
        go_roundw
        case rel =>
          obtain ⟨o1, o2⟩ := own_set (k := k) (u := cp (r, im)) own' hbq (Nat.le_refl _)
          obtain ⟨g, hg⟩ := fill_step own'.1 hlt hf hR
          exact ⟨k + 1, _, g, by omega, by go_num, o1, hg, o2⟩
        case measure => simp [intOf]; omega
      · obtain rfl : k = n := by omega
        clear hw
        go_wp2
        go_ret2
        exact ⟨_, _, f, rfl, hown, hf, hbw⟩
set_option maxRecDepth 100000 in
set_option maxHeartbeats 1000000 in
theorem wave_bwd (R S : Nat → Nat → Nat → Prop) (d : Nat) (hd : (FloatKind.f64.format.order d 0 == some .eq) = false) (hRS : ∀ j r i r' i', R j r i → DivV r i d r' i' → S j r' i') (ao : Option Addr) (cap n : Nat) (w : World) (hdn : floatOfInt .f64 (n : Int) = d) (hn : n = 1 ∨ n = 2 ∨ n = 4 ∨ n = 8)
    (hw : ∀ j W, j < n → Below w.heap.size w W → Calls Try.prog 56 #[.slice ao n cap, .int .i64 (j : Int), .bool true] W fun e w' => ∃ r i, e = .returned (.complex .f64 r i) ∧ R j r i ∧ Below W.heap.size W w') :
    Calls Try.prog 14 #[.slice ao n cap, .bool true] w fun e w' => ∃ (v : Value) (xs : List Value) (f : Nat → Nat × Nat), e = .returned (.tuple #[v, .int .i64 0]) ∧ w'.ownsRow w.heap.size 38 1 v n xs ∧ (∀ i, i < n → xs[i]? = some (cp (f i)) ∧ S i (f i).1 (f i).2) ∧ Below w.heap.size w w' := by
  obtain ⟨i0, hi, hz0, hz1, hz2⟩ := info_parts Try.info_c
  obtain ⟨w1, hmk, hown0, hg0⟩ := run_make_full (P := Try.prog) w w.heap.size 34 38 i0 (.complex .f64 0 0) 1 Try.underlying34 hi hz0 hz1 .i64 .i64 n (by rw [hz2]; omega) (by unfold maxLen; omega) (Nat.le_refl _)
  have hb0 : Below w.heap.size w w1 := (Below.refl w.heap.size w).grown hg0 (Nat.le_refl _) (fun k e => by simp at e)
  have hsw : (((n : Int) == 1) = true) ∨ (((n : Int) == 1) = false ∧ ((n : Int) == 2) = true) ∨ (((n : Int) == 1) = false ∧ ((n : Int) == 2) = false ∧ ((n : Int) == 4) = true) ∨ (((n : Int) == 1) = false ∧ ((n : Int) == 2) = false ∧ ((n : Int) == 4) = false ∧ ((n : Int) == 8) = true) := by
    rcases hn with rfl | rfl | rfl | rfl <;> decide
  have hn8 : n ≤ 8 := by omega
  clear hn hg0
  generalize (madeCells (Value.complex .f64 0 0).cells (n * 1)).toList = xs0 at hown0
  rcases hsw with h1 | ⟨h1, h2⟩ | ⟨h1, h2, h3⟩ | ⟨h1, h2, h3, h4⟩
  all_goals
    go_enter Try.func14, Try.ntmps14
    go_wp2
  all_goals
    go_loopw [21] (fun i wr => ∃ (k : Nat) (xs : List Value) (f : Nat → Nat × Nat), k ≤ n ∧ i = .int .i64 k ∧ wr.ownsRow w.heap.size 38 1 (.slice (some ⟨w.heap.size, 0, none⟩) n n) n xs ∧ (∀ i, i < k → xs[i]? = some (cp (f i)) ∧ S i (f i).1 (f i).2) ∧ Below w.heap.size w wr)
      (fun i _ => n - (intOf i).toNat)
    case atStart => exact ⟨0, xs0, fun _ => (0, 0), Nat.zero_le _, rfl, hown0, fun i hi => by omega, hb0⟩
    case round =>
      clear hown0 hb0 hmk
      obtain ⟨k, xs, f, hk, rfl, hown, hf, hbw⟩ := hrel
      by_cases hlt : k < n
      · have hwk := hw k wr hlt hbw
        clear hw
        have hcv := fun (W : World) => run_convert_int_float (P := Try.prog) W 3 26 .i64 .f64 (n : Int) (by kernel_rfl) (by kernel_rfl)
        go_wp2_with (first
          | (go_at_call 56; with_reducible refine hwk.mono ?_; rintro e wq ⟨r, im, rfl, hR, hq⟩; have own' := pown hown hq; have hbq := ptrans hbw hq; obtain ⟨u0, hc1, hx1, hf1⟩ := own_at own' hlt)
          | (go_at_call 57; refine (divided_any _ _ _ _ hd).mono ?_; rintro e wd ⟨r', im', m1, rfl, hq2, hD⟩; subst wd))
        go_roundw
        case rel =>
          obtain ⟨o1, o2⟩ := own_set (k := k) (u := cp (r, im)) own' hbq (Nat.le_refl _)
          have o3 : ((wq.setCell ⟨w.heap.size, k, none⟩ (cp (r, im))).drewN m1).ownsRow w.heap.size 38 1 (.slice (some ⟨w.heap.size, 0, none⟩) n n) n (xs.set k (cp (r, im))) := o1
          obtain ⟨o4, o5⟩ := own_set (k := k) (u := cp (r', im')) o3 (below_drewN o2 m1) (Nat.le_refl _)
          obtain ⟨g, hg⟩ := fill_step (R := S) (f := f) o3.1 hlt (fun i hi => by rw [List.getElem?_set_ne (by omega)]; exact hf i hi) (hRS _ _ _ _ _ hR hD)
          exact ⟨k + 1, _, g, by omega, by go_num, o4, hg, o5⟩
        case measure => simp [intOf]; omega
      · obtain rfl : k = n := by omega
        clear hw
        go_wp2
        go_ret2
        exact ⟨_, _, f, rfl, hown, hf, hbw⟩
end Go.Proofs.Ytghhjebacnodcaa
