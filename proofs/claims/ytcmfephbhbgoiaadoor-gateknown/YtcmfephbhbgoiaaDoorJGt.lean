import Derived.Test.YtcmfephbhbgoiaaDoorRows
import Derived.Test.YtcmfephbhbgoiaaDoorProg
import Derived.WalkKit
import Derived.WalkLawsBesides
import Derived.Maps.RangeWalk
import Derived.Maps.OwnSet
import Derived.Maps.OwnOps
import Derived.Maps.Ext
import Derived.LaidEqlPtr
import Derived.Deep.QuietTactic
namespace Go.Proofs.YtcmfephbhbgoiaaDoor
open Go.RowKit
set_option maxRecDepth 100000
open Go.Maps (Keyed int_keyed keyOf_int_mk)
theorem gKey : Keyed Tryd.prog 23 := int_keyed Tryd.underlying23
theorem gZero (w : World) : (zeroValue 3).run Tryd.prog w = .ok (.int .i64 0) w := by kernel_rfl
theorem u32wf (x : Nat) (h : x < 4294967296) : (Lit.int .u32 (x : Int)).wf = true := by
  simp [Lit.wf, IntKind.min, IntKind.max, IntKind.signed, IntKind.bits]; omega
abbrev OM (w : World) (b n : Nat) (D : DataW Unit) : Prop := w.ownsMap Tryd.prog 23 (plainElem Tryd.prog 3) b n D
/-- a map's datum as a function -/
def Fd (D : DataW Unit) (f : Int → Option Int) : Prop :=
  (∀ k, Maps.has D (.int .u32 k) = (f k).isSome) ∧ ∀ k v, f k = some v → ∀ zd, D.atKey (.int .u32 k) zd = .lit (.int .i64 v)
def MapR (w : World) (b n : Nat) (f : Int → Option Int) : Prop := ∃ D, OM w b n D ∧ Fd D f
/-- a gate in memory -/
def GtS (w : World) (g : Nat) (f : Int → Option Int) : Prop :=
  ∃ b, g < w.heap.size ∧ b < w.heap.size ∧ w.cell? ⟨g, 0, none⟩ = some (.pointer (some ⟨g, 0, none⟩)) ∧ w.cell? ⟨g, 1, none⟩ = some (.map (some b)) ∧ MapR w b 64 f
def putF (f : Int → Option Int) (k v : Int) : Int → Option Int := fun x => if x = k then some v else f x
def delF (f : Int → Option Int) (k : Int) : Int → Option Int := fun x => if x = k then none else f x
theorem lit_ne {a b : Int} (h : a ≠ b) : Lit.int .u32 a ≠ Lit.int .u32 b := fun e => h (by cases e; rfl)
theorem Fd.empty : Fd (.map []) (fun _ => none) := ⟨fun k => rfl, fun k v h => by cases h⟩
theorem Fd.put {D : DataW Unit} {f : Int → Option Int} (h : Fd D f) (hm : Maps.IsMap D) (k v : Int) : Fd (D.put (.int .u32 k) (.lit (.int .i64 v))) (putF f k v) := by
  constructor
  · intro x
    unfold putF
    by_cases hx : x = k
    · subst hx; rw [if_pos rfl]; exact Maps.has_put_same (k := .int .u32 x) hm trivial _
    · rw [if_neg hx, Maps.has_put_other (lit_ne hx)]; exact h.1 x
  · intro x u hu zd
    unfold putF at hu
    by_cases hx : x = k
    · subst hx; rw [if_pos rfl] at hu; cases hu; exact Maps.atKey_put_same (k := .int .u32 x) hm trivial _ _
    · rw [if_neg hx] at hu; rw [Maps.atKey_put_other (lit_ne hx)]; exact h.2 x u hu zd
theorem Fd.del {D : DataW Unit} {f : Int → Option Int} (h : Fd D f) (k : Int) : Fd (D.del (.int .u32 k)) (delF f k) := by
  constructor
  · intro x
    unfold delF
    by_cases hx : x = k
    · subst hx; rw [if_pos rfl]; exact Maps.has_del_same
    · rw [if_neg hx, Maps.has_del_other (lit_ne hx)]; exact h.1 x
  · intro x u hu zd
    unfold delF at hu
    by_cases hx : x = k
    · subst hx; rw [if_pos rfl] at hu; cases hu
    · rw [if_neg hx] at hu; rw [Maps.atKey_del_other (lit_ne hx)]; exact h.2 x u hu zd
theorem MapR.lt {w : World} {b n : Nat} {f : Int → Option Int} (h : MapR w b n f) : b < w.heap.size := by obtain ⟨D, h1, _⟩ := h; exact h1.lt
theorem MapR.block {w w' : World} {b n : Nat} {f : Int → Option Int} (h : MapR w b n f) (e : w'.heap[b]? = w.heap[b]?) : MapR w' b n f := by
  obtain ⟨D, ⟨es, clock, hb, F, hs, hD⟩, h2⟩ := h
  exact ⟨D, ⟨es, clock, e.trans hb, F, hs, hD⟩, h2⟩
theorem MapR.mono {w : World} {b n m : Nat} {f : Int → Option Int} (h : MapR w b n f) (e : n ≤ m) : MapR w b m f := by
  obtain ⟨D, h1, h2⟩ := h; exact ⟨D, h1.mono e, h2⟩
theorem GtS.kept {w w' : World} {g : Nat} {f : Int → Option Int} {B : Nat} (h : GtS w g f) (hb : Below B w w') (hB : B = w.heap.size) : GtS w' g f := by
  subst hB
  obtain ⟨b, h1, h2, h3, h4, h5⟩ := h
  have hs := hb.size
  exact ⟨b, by omega, by omega, (hb.cell (p := ⟨g, 0, none⟩) h1).trans h3, (hb.cell (p := ⟨g, 1, none⟩) h1).trans h4, h5.block (hb.block b h2)⟩
theorem gbt {a W w1 : World} (h : Below W.heap.size W w1) (h' : Below a.heap.size a W) : Below a.heap.size a w1 := h'.trans (h.mono h'.size)
theorem gobj_cell {w : World} {a : Nat} {cs : Array Value} {t : TypeId} {fr : Nat × Nat} (h : w.heap[a]? = some (.cells cs t fr)) (i : Nat) : w.cell? ⟨a, i, none⟩ = cs[i]? := by
  simp [World.cell?, h]
theorem new_cell (w : World) (cs : Array Value) (t : TypeId) (j : Nat) : (w.alloc (.cells cs t)).cell? ⟨w.heap.size, j, none⟩ = cs[j]? := by
  have h := (MapKept.heap_alloc w (.cells cs t)).1
  exact gobj_cell h j
theorem geq_self (a : Nat) (w : World) : (binOp .eql 28 (.pointer (some ⟨a, 0, none⟩)) (.pointer (some ⟨a, 0, none⟩))).run Tryd.prog w = .ok (.bool true) w := by
  have h : (Tryd.prog.info? 31).map (·.size) = some 2 := by kernel_rfl
  cases hi : Tryd.prog.info? 31 with
  | none => rw [hi] at h; cases h
  | some i => exact run_eql_ptr_same w ⟨a, 0, none⟩ Tryd.underlying28 hi
theorem gmade_any (g : Nat) (f : Int → Option Int) (w : World) (h : GtS w g f) :
    Calls Tryd.prog 24 #[.pointer (some ⟨g, 0, none⟩)] w fun e w' => e = .returned (.bool true) ∧ w' = w := by
  obtain ⟨b, h1, h2, h3, h4, h5⟩ := h
  have hq := geq_self g w
  go_enter Tryd.func24, Tryd.ntmps24
  go_wp2
  go_ret
  exact ⟨rfl, rfl⟩
theorem granting_any (b : Nat) (f : Int → Option Int) (w : World) (h : MapR w b 64 f) :
    Calls Tryd.prog 22 #[.map (some b)] w fun e w' => e = .returned (.pointer (some ⟨w.heap.size, 0, none⟩)) ∧ Below w.heap.size w w' ∧ GtS w' w.heap.size f := by
  go_enter Tryd.func22, Tryd.ntmps22
  go_wp2
  go_ret
  have hb : Below w.heap.size w (w.alloc (.cells #[.pointer (some ⟨w.heap.size, 0, none⟩), .map (some b)] 31)) := (Below.refl _ _).alloc (Nat.le_refl _) _
  have hl := h.lt
  exact ⟨rfl, hb, b, by simp, by simp; omega, new_cell w _ _ 0, new_cell w _ _ 1, h.block (hb.block b hl)⟩
theorem Fd.at0 {D : DataW Unit} {f : Int → Option Int} (h : Fd D f) {k c : Int} (e : D.atKey (.int .u32 k) (.lit (.int .i64 0)) = .lit (.int .i64 c)) : c = (f k).getD 0 := by
  cases hf : f k with
  | none =>
    have : Maps.has D (.int .u32 k) = false := by rw [h.1, hf]; rfl
    rw [Maps.atKey_of_not_has this] at e
    cases e; rfl
  | some v =>
    rw [h.2 k v hf] at e
    cases e; rfl
theorem Fd.atAll {D : DataW Unit} {f : Int → Option Int} (h : Fd D f) {k c : Int} (e : ∀ zd, D.atKey (.int .u32 k) zd = .lit (.int .i64 c)) : f k = some c := by
  have hh := Maps.has_true_of_atKey e
  rw [h.1] at hh
  cases hf : f k with
  | none => rw [hf] at hh; cases hh
  | some v =>
    have := e .nil
    rw [h.2 k v hf] at this
    cases this; rfl
theorem granted_any (g : Nat) (f : Int → Option Int) (k : Nat) (w : World) (h : GtS w g f) (hk : k < 4294967296) :
    Calls Tryd.prog 8 #[.pointer (some ⟨g, 0, none⟩), .int .u32 k] w fun e w' => e = .returned (.tuple #[.int .i64 ((f k).getD 0), .bool (f k).isSome]) ∧ w' = w := by
  have hM := gmade_any g f w h
  obtain ⟨b, h1, h2, h3, h4, D, hown, hF⟩ := h
  have hh := hF.1 k
  go_enter Tryd.func8, Tryd.ntmps8
  go_wp2_with (first
    | (go_at_call 24; with_reducible refine hM.mono ?_; rintro e wq ⟨rfl, hq⟩; subst wq)
    | (at_lookup; refine wpList_lookup_own_ok_int _ rfl _ _ 29 rfl 23 3 .i64 gKey Tryd.underlying29 Tryd.underlying3 (gZero _) b 64 D rfl hown _ _ rfl (keyOf_int_mk Tryd.underlying23 (u32wf k hk)) ?_; intro c hat hwc))
  go_ret2
  have := hF.at0 hat
  subst this
  exact ⟨rfl, rfl⟩
/-- all that the one grants the other does -/
def withinP (f f' : Int → Option Int) : Prop := ∀ k v, f k = some v → f' k = some v
def WiS (w : World) (b r : Nat) (D : DataW Unit) (f f' : Int → Option Int) (wr : World) : Prop :=
  ∃ left cnt, wr.ranges Tryd.prog 23 (plainElem Tryd.prog 3) b r 64 D left cnt ∧ Below w.heap.size w wr ∧ ∀ k v, f k = some v → left (.int .u32 k) = false → f' k = some v
theorem within_any (g g' : Nat) (f f' : Int → Option Int) (w : World) (h : GtS w g f) (h' : GtS w g' f') :
    Calls Tryd.prog 15 #[.pointer (some ⟨g, 0, none⟩), .pointer (some ⟨g', 0, none⟩)] w fun e w' => ∃ t, e = .returned (.bool t) ∧ (t = true ↔ withinP f f') ∧ Below w.heap.size w w' := by
  have hM := gmade_any g f w h
  have hM' := gmade_any g' f' w h'
  obtain ⟨b, h1, h2, h3, h4, D, hown, hF⟩ := h
  obtain ⟨b', h1', h2', h3', h4', D', hown', hF'⟩ := h'
  go_enter Tryd.func15, Tryd.ntmps15
  go_wp2_with (first
    | (go_at_call 24; with_reducible refine hM.mono ?_; rintro e wq ⟨rfl, hq⟩; subst wq)
    | (go_at_call 24; with_reducible refine hM'.mono ?_; rintro e wq ⟨rfl, hq⟩; subst wq)
    | (at_range; refine wpList_range_own _ rfl _ 29 rfl 23 3 gKey Tryd.underlying29 _ b 64 D rfl hown ?_; intro w0 hrg0 hg0 hs0))
  go_frame
  have hb0 : Below w.heap.size w w0 := (Below.refl _ _).grown hg0 (Nat.le_refl _) (fun k e => by cases e)
  clear hs0
  go_loopw [22] (fun _ wr => WiS w b w.heap.size D f f' wr) (fun _ wr => wr.rangeLeft b w.heap.size)
  case atStart =>
    refine ⟨_, _, hrg0, hb0, fun k v hf hl => ?_⟩
    rw [hF.1, hf] at hl
    cases hl
  case round =>
    obtain ⟨left, cnt, hrg, hbr, hdone⟩ := hrel
    go_wp2_with (at_next; refine wpList_next_ranges_ii _ rfl _ rfl 23 3 .u32 .i64 gKey Tryd.underlying23 Tryd.underlying3 b w.heap.size 64 D left cnt rfl hrg ?_ ?_)
    · intro hc0 hl0
      clear hc0
      go_wp2
      go_ret
      exact ⟨true, rfl, ⟨fun _ k v hf => hdone k v hf (hl0 _), fun _ => rfl⟩, hbr⟩
    · intro x c w1 cnt1 hwx hwc hlx hat hrg1 hlt hg1 hs1 hen
      have hb1 : Below w.heap.size w w1 := hbr.grown hg1 hbr.size (fun k e => by cases e; exact Nat.le_refl _)
      have c4 : w1.cell? ⟨g', 1, none⟩ = some (.map (some b')) := (hb1.cell (p := ⟨g', 1, none⟩) h1').trans h4'
      have hown1 : OM w1 b' 64 D' := by
        obtain ⟨es, clock, hb, F, hs, hD⟩ := hown'
        exact ⟨es, clock, (hb1.block b' h2').trans hb, F, hs, hD⟩
      have hfx := hF.atAll hat
      have hhx := hF'.1 x
      clear hs1
      rcases hf' : f' x with _ | u
      · rw [hf'] at hhx
        go_wp2_with (at_lookup; refine wpList_lookup_own_ok_int _ rfl _ _ 29 rfl 23 3 .i64 gKey Tryd.underlying29 Tryd.underlying3 (gZero _) b' 64 D' rfl hown1 _ _ rfl (keyOf_int_mk Tryd.underlying23 hwx) ?_; intro c2 hat2 hwc2)
        go_ret
        refine ⟨false, rfl, ⟨(fun h => by cases h), fun h => ?_⟩, hb1⟩
        have := h _ _ hfx
        rw [hf'] at this; cases this
      · rw [hf'] at hhx
        by_cases hcu : u = c
        · subst u
          go_wp2_with (at_lookup; refine wpList_lookup_own_ok_int _ rfl _ _ 29 rfl 23 3 .i64 gKey Tryd.underlying29 Tryd.underlying3 (gZero _) b' 64 D' rfl hown1 _ _ rfl (keyOf_int_mk Tryd.underlying23 hwx) ?_; intro c2 hat2 hwc2; have hc2 := hF'.at0 hat2; rw [hf'] at hc2; simp only [Option.getD_some] at hc2; subst c2)
          go_roundw
          case rel =>
            refine ⟨_, _, hrg1, hb1, fun k v hf hl => ?_⟩
            by_cases hk : k = x
            · subst hk; rw [hfx] at hf; cases hf; exact hf'
            · refine hdone k v hf ?_
              have hne := Maps.sameKey_ne (lit_ne hk)
              rw [hne] at hl
              simpa using hl
          case measure => rw [hrg1.left_eq, hrg.left_eq]; omega
        · go_wp2_with (at_lookup; refine wpList_lookup_own_ok_int _ rfl _ _ 29 rfl 23 3 .i64 gKey Tryd.underlying29 Tryd.underlying3 (gZero _) b' 64 D' rfl hown1 _ _ rfl (keyOf_int_mk Tryd.underlying23 hwx) ?_; intro c2 hat2 hwc2; have hc2 := hF'.at0 hat2; rw [hf'] at hc2; simp only [Option.getD_some] at hc2; subst c2)
          go_ret
          refine ⟨false, rfl, ⟨(fun h => by cases h), fun h => ?_⟩, hb1⟩
          have := h _ _ hfx
          rw [hf'] at this; cases this; exact absurd rfl hcu
end Go.Proofs.YtcmfephbhbgoiaaDoor
