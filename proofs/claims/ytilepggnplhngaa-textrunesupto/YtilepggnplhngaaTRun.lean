import Derived.Test.YtilepggnplhngaaRefCuts
import Derived.Test.YtilepggnplhngaaNilCmp
import Derived.RangeFuncNested
namespace Go.Proofs.Ytilepggnplhngaa
open Go.RowKit Go.Shelf
attribute [local go_sem] Oper.semAt_some nilcmp

@[go_sem] theorem run_store_func {P : Program} {w : World} {a : Addr} {m : Mode} (fn : Fn) (first cap : Array Value) : (store a (.func fn first cap) m).run P w = stored P w a (.func fn first cap) m := run_store P w a _ m rfl
theorem row_form {w : World} {B e sz n : Nat} {v : Value} {xs : List Value} (h : w.ownsRow B e sz v n xs) : ∃ ao cap, v = .slice ao n cap := by
  rcases h.2 with ⟨rfl, hz⟩ | ⟨g, cap, cur, rfl, _⟩
  · exact ⟨none, 0, by simp [hz]⟩
  · exact ⟨_, cap, rfl⟩
/-- a row that is read: its cells lie in blocks that were there -/
def RowAt (w1 : World) (ao : Option Addr) (vs : List Value) : Prop := 0 < vs.length → ∃ g, ao = some ⟨g, 0, none⟩ ∧ g < w1.heap.size ∧ ∀ j v, vs[j]? = some v → w1.cell? ⟨g, 0 + j, none⟩ = some v
theorem row_at {w1 : World} {B e n : Nat} {ao : Option Addr} {cap : Nat} {xs : List Value} (h : w1.ownsRow B e 1 (.slice ao n cap) n xs) (hl : xs.length = n) : RowAt w1 ao xs := by
  intro hp
  have hlt := h.lt
  have h' := h
  rcases h.2 with ⟨e1, hz⟩ | ⟨g, cap', cur, e1, _⟩
  · simp at e1; omega
  · simp only [Value.slice.injEq] at e1
    obtain ⟨rfl, _, rfl⟩ := e1
    refine ⟨g, rfl, (hlt g rfl).2, fun j v hv => ?_⟩
    have hadd : (⟨g, 0, none⟩ : Addr).add j = ⟨g, 0 + j, none⟩ := by unfold Addr.add; split <;> simp_all
    rw [← hadd]
    exact h'.cells (g := g) rfl j v hv
theorem pre_step {α : Type} {pre l : List α} {x y : α} (h : pre <+: l) (hy : l[pre.length]? = some y) : pre ++ [x] <+: l ↔ x = y := by
  obtain ⟨t, rfl⟩ := h
  cases t with
  | nil => simp at hy
  | cons z t =>
    simp at hy
    subst hy
    constructor
    · rintro ⟨t', h'⟩
      simp at h'
      exact h'.1
    · rintro rfl
      exact ⟨t, by simp⟩
theorem hid_of {p : Prop} (h : p) : Hid p := h
theorem len_app {α : Type} {pre : List α} {x : α} {k : Nat} (h : pre.length = k) : (((pre ++ [x]).length : Nat) : Int) = (k : Int) + 1 := by simp [h]
theorem ne_nat {a b : Nat} (h : ¬ a = b) : ¬ (a : Int) = (b : Int) := by omega
theorem wrap_succ {k : Nat} (h : k ≤ 1048576) : wrap64 ((k : Int) + 1) = (k : Int) + 1 := by unfold wrap64; omega
theorem ne_succ {k t : Nat} (h : ¬ k + 1 = t) : ¬ (k : Int) + 1 = (t : Int) := by omega
theorem eq_succ {k t : Nat} (h : k + 1 = t) : (k : Int) + 1 = (t : Int) := by omega
theorem keeps_alloc (W : World) (o : Obj) : KeepsOthers W (W.alloc o) := ⟨by simp, fun k o' hk _ => (Below.heap_alloc _ _ _ (Array.getElem?_eq_some_iff.1 hk).1).trans hk⟩
theorem kp_alloc (Bs : Nat) (s : ByteArray) (W : World) (o : Obj) : Kp Bs s W (W.alloc o) := ⟨fun x => x.alloc _, ⟨by simp, fun k o' hk _ => (Below.heap_alloc _ _ _ (Array.getElem?_eq_some_iff.1 hk).1).trans hk⟩⟩
theorem ownFrom_kp {β : Type} {Bs : Nat} {s : ByteArray} {B' : Nat} {W : World} (hB : W.heap.size ≤ B') : OwnFrom B' (fun (_ : β) V => Kp Bs s W V) := fun _ X Y row h hg hr =>
  ⟨fun b => boxed_step (h.1 b) hg (fun r e => (hr r e).2), ⟨Nat.le_trans h.2.size hg.size, fun k o hk ho => by
    have hX := h.2.same k o hk ho
    refine (hg.block k (Array.getElem?_eq_some_iff.1 hX).1 (fun e => ?_)).trans hX
    have h1 := (hr k e.symm).1
    have h2 := (Array.getElem?_eq_some_iff.1 hk).1
    omega⟩⟩
theorem ownFrom_at {β : Type} {B D : Nat} {o : Obj} (hD : D < B) : OwnFrom B (fun (_ : β) W => W.heap[D]? = some o) := fun _ X Y row h hg hr => by
  refine (hg.block D (Array.getElem?_eq_some_iff.1 h).1 (fun e => ?_)).trans h
  have := (hr D e.symm).1
  omega
theorem pre_full {α : Type} {pre l : List α} {x : α} (hn : l.length ≤ pre.length) : ¬ pre ++ [x] <+: l := fun ⟨t, h⟩ => by
  have := congrArg List.length h
  simp at this
  omega
theorem ret_int {k : IntKind} {a b : Int} (h : a = b) : Ending.returned (.int k a) = .returned (.int k b) := by rw [h]

set_option maxHeartbeats 1000000 in
theorem pick_any (x n : Int) (w : World) (hx0 : -9223372036854775808 ≤ x) (hx1 : x ≤ 9223372036854775807) (h1 : 1 ≤ n) (h2 : n ≤ 4611686018427387904) :
    Calls Try.prog 6 #[.int .i64 x, .int .i64 n] w fun e w' => e = .returned (.int .i64 (x % n)) ∧ w' = w := by
  have hm : x.tmod n = if 0 ≤ x ∨ n ∣ x then x % n else x % n - n := by
    have := Int.tmod_eq_emod (a := x) (b := n)
    rw [this]
    have hn : (n.natAbs : Int) = n := by omega
    by_cases hc : 0 ≤ x ∨ n ∣ x
    · simp [hc]
    · simp [hc, hn]
  have he0 := Int.emod_nonneg x (show n ≠ 0 by omega)
  have he1 := Int.emod_lt_of_pos x (show 0 < n by omega)
  by_cases hx : 0 ≤ x
  · clear hm
    go_enter Try.func6, Try.ntmps6
    go_wp2
    go_ret
    exact ⟨rfl, rfl⟩
  · have h0 : x.tmod n = 0 ∧ x % n = 0 ∨ x.tmod n < 0 ∧ x.tmod n + n = x % n ∧ -n < x.tmod n := by
      by_cases hc : n ∣ x
      · left
        rw [hm, if_pos (.inr hc)]
        exact ⟨Int.emod_eq_zero_of_dvd hc, Int.emod_eq_zero_of_dvd hc⟩
      · right
        have hne : x % n ≠ 0 := fun h => hc (Int.dvd_of_emod_eq_zero h)
        rw [hm, if_neg (by omega)]
        omega
    clear hm
    rcases h0 with ⟨h3, h4⟩ | ⟨h3, h4, h5⟩
    · have H4 : Hid (x % n = 0) := h4
      clear h4
      go_enter Try.func6, Try.ntmps6
      go_wp2
      go_ret
      exact ⟨ret_int (by rw [H4.out]), rfl⟩
    · have H4 : Hid (x.tmod n + n = x % n) := h4
      clear h4
      go_enter Try.func6, Try.ntmps6
      go_wp2
      go_ret
      exact ⟨ret_int (by rw [H4.out]), rfl⟩

theorem cutsFrom_len (s : ByteArray) : ∀ f pos, (cutsFrom s f pos).length ≤ f := by
  intro f
  induction f with
  | zero => intro pos; simp [cutsFrom]
  | succ f ih =>
    intro pos
    by_cases h : pos < s.size
    · rw [cutsFrom_step s f pos h]; have := ih; simp only [List.length_cons]; exact Nat.succ_le_succ (ih _)
    · rw [cutsFrom_end s _ pos h]; simp
theorem pick_stop (s : ByteArray) (lv : Int) (L : Nat) (hx0 : -9223372036854775808 ≤ lv) (hx1 : lv ≤ 9223372036854775807) (hs : s.size ≤ 1048576) (hL : (cuts s).length = L) :
    ∃ t : Nat, t ≤ L ∧ L ≤ 1048576 ∧ wrap64 ((L : Int) + 1) = (L : Int) + 1 ∧ ∀ w, CallsIn Fence.wide 8 Try.prog 6 #[.int .i64 lv, .int .i64 ((L : Int) + 1)] w fun e w' => e = .returned (.int .i64 (t : Int)) ∧ w' = w := by
  have hLs : L ≤ 1048576 := by rw [← hL]; exact Nat.le_trans (cutsFrom_len s s.size 0) hs
  have he0 := Int.emod_nonneg lv (show (L : Int) + 1 ≠ 0 by omega)
  have he1 := Int.emod_lt_of_pos lv (show 0 < (L : Int) + 1 by omega)
  obtain ⟨t, ht⟩ := Int.eq_ofNat_of_zero_le he0
  refine ⟨t, by omega, hLs, by unfold wrap64; omega, fun w => (callsIn_wide (n := 8)).2 ?_⟩
  have := pick_any lv ((L : Int) + 1) w hx0 hx1 (by omega) (by omega)
  rw [ht] at this
  exact this
/-- what abides through the ranges -/
structure Hold (w1 : World) (s : ByteArray) (a1 : Option Addr) (c1 : Nat) (a2 : Option Addr) (c2 L Bp Bn Bs Ba : Nat) (W : World) : Prop where
  below : Below w1.heap.size w1 W
  bp : Boxed W Bp 22 (.slice a1 L c1)
  bn : Boxed W Bn 23 (.slice a2 L c2)
  bs : Boxed W Bs 9 (.string s)
  ba : Boxed W Ba 27 (.func (.func 8) #[] #[.pointer (some ⟨Bs, 0, none⟩)])
theorem Hold.step {w1 : World} {s : ByteArray} {a1 : Option Addr} {c1 : Nat} {a2 : Option Addr} {c2 L Bp Bn Bs Ba B : Nat} (hB : w1.heap.size ≤ B) {β : Type} : OwnFrom B (fun (_ : β) W => Hold w1 s a1 c1 a2 c2 L Bp Bn Bs Ba W) :=
  fun t A B' row h hg hr =>
    have hr' : ∀ r, row = some r → ∃ o : Obj, A.heap[r]? = some o ∧ o.isCells = false := fun r e => (hr r e).2
    ⟨ownFrom_below (β := β) (Nat.le_refl _) hB t A B' row h.below hg hr, boxed_step h.bp hg hr', boxed_step h.bn hg hr', boxed_step h.bs hg hr', boxed_step h.ba hg hr'⟩
theorem Hold.set {w1 : World} {s : ByteArray} {a1 : Option Addr} {c1 : Nat} {a2 : Option Addr} {c2 L Bp Bn Bs Ba : Nat} {W : World} (h : Hold w1 s a1 c1 a2 c2 L Bp Bn Bs Ba W) {k : Nat} (hk : w1.heap.size ≤ k) (h1 : Bp ≠ k) (h2 : Bn ≠ k) (h3 : Bs ≠ k) (h4 : Ba ≠ k) (u : Value) : Hold w1 s a1 c1 a2 c2 L Bp Bn Bs Ba (W.setCell ⟨k, 0, none⟩ u) :=
  ⟨h.below.setCell (p := ⟨k, 0, none⟩) hk u, h.bp.other h1 u, h.bn.other h2 u, h.bs.other h3 u, h.ba.other h4 u⟩
set_option maxRecDepth 100000 in
set_option maxHeartbeats 4000000 in
theorem runes_law (s : ByteArray) (lv : Int) (w : World) (hx0 : -9223372036854775808 ≤ lv) (hx1 : lv ≤ 9223372036854775807) (hs : s.size ≤ 1048576) :
    Calls Try.prog 3 #[.string s, .int .i64 lv] w fun e w' => e = .returned (.bool true) ∧ Below w.heap.size w w' := by
  refine (callsIn_wide (n := 9)).1 ?_
  refine callsIn_of_wp_marks Try.func3 rfl trivial ?_ rfl
  simp only [Try.ntmps3, List.size_toArray, List.length_cons, List.length_nil, Nat.reduceAdd, Nat.reduceSub, Array.replicate_succ, Array.replicate_zero, List.push_toArray, List.append_toArray, List.nil_append, List.cons_append]
  gi_wp2_with (first
    | (refine ⟨trivial, ?_⟩; gi_at_call 4; refine ((callsIn_wide (n := 8)).2 (cuts_any s _ hs)).mono ?_; rintro e w1 ⟨v1, v2, rfl, own1, own2, hb1⟩; obtain ⟨a1, c1, rfl⟩ := row_form own1; obtain ⟨a2, c2, rfl⟩ := row_form own2)
    | (refine ⟨trivial, ?_⟩; gi_at_call 5; refine (runes_in _ _ _).mono ?_; rintro e w' ⟨rfl, rfl⟩))
  obtain ⟨L, hL⟩ : ∃ L, (cuts s).length = L := ⟨_, rfl⟩
  have R1 := row_at own1 (by simp [pl])
  have R2 := row_at own2 (by simp [nm])
  have hw1 : w.heap.size + 1 ≤ w1.heap.size := by have := hb1.size; simpa using this
  have hbr : Boxed w1 w.heap.size 4 (.bool false) := (hb1.block w.heap.size (by simp)).trans (Boxed.new w 4 _)
  have hBw : Below w.heap.size w w1 := ((Below.refl _ w).alloc (Nat.le_refl _) _).trans (hb1.mono (by simp))
  clear own1 own2 hb1
  rw [hL]
  obtain ⟨t, htL, hLs, hwL, cpk⟩ := pick_stop s lv L hx0 hx1 hs hL
  obtain ⟨Bp, hBp⟩ : ∃ n, w1.heap.size = n := ⟨_, rfl⟩
  obtain ⟨Bn, hBn⟩ : ∃ n, w1.heap.size + 1 = n := ⟨_, rfl⟩
  obtain ⟨Bs, hBs⟩ : ∃ n, w1.heap.size + 1 + 1 = n := ⟨_, rfl⟩
  obtain ⟨Ba, hBa⟩ : ∃ n, w1.heap.size + 1 + 1 + 1 = n := ⟨_, rfl⟩
  obtain ⟨Bk, hBk⟩ : ∃ n, w1.heap.size + 1 + 1 + 1 + 1 = n := ⟨_, rfl⟩
  rw [hBk, hBa, hBs, hBn, hBp]
  obtain ⟨W0, hW0⟩ : ∃ W0, (((((w1.alloc (Obj.cells #[Value.slice a1 L c1] 22)).alloc (Obj.cells #[Value.slice a2 L c2] 23)).alloc (Obj.cells #[Value.string s] 9)).alloc (Obj.cells #[.func (.func 8) #[] #[.pointer (some ⟨Bs, 0, none⟩)]] 27)).alloc (Obj.cells #[Value.int IntKind.i64 0] 3)) = W0 := ⟨_, rfl⟩
  have hs0 : W0.heap.size = w1.heap.size + 1 + 1 + 1 + 1 + 1 := by rw [← hW0]; simp
  have bk0 : Boxed W0 Bk 3 (.int .i64 0) := by
    rw [← hW0, ← hBk]
    have := Boxed.new ((((w1.alloc (Obj.cells #[Value.slice a1 L c1] 22)).alloc (Obj.cells #[Value.slice a2 L c2] 23)).alloc (Obj.cells #[Value.string s] 9)).alloc (Obj.cells #[.func (.func 8) #[] #[.pointer (some ⟨Bs, 0, none⟩)]] 27)) 3 (.int .i64 0)
    simpa using this
  have H0 : Hold w1 s a1 c1 a2 c2 L Bp Bn Bs Ba W0 := by
    rw [← hW0]
    refine ⟨((((((Below.refl _ w1).alloc (Nat.le_refl _) _).alloc (by simp) _).alloc (by simp; omega) _).alloc (by simp; omega) _).alloc (by simp; omega) _), ?_, ?_, ?_, ?_⟩
    · have := Boxed.new w1 22 (.slice a1 L c1)
      rw [hBp] at this
      exact ((((this.alloc _).alloc _).alloc _).alloc _)
    · have := Boxed.new (w1.alloc (Obj.cells #[Value.slice a1 L c1] 22)) 23 (.slice a2 L c2)
      rw [World.size_alloc, hBn] at this
      exact (((this.alloc _).alloc _).alloc _)
    · have := Boxed.new ((w1.alloc (Obj.cells #[Value.slice a1 L c1] 22)).alloc (Obj.cells #[Value.slice a2 L c2] 23)) 9 (.string s)
      rw [World.size_alloc, World.size_alloc, hBs] at this
      exact ((this.alloc _).alloc _)
    · have := Boxed.new (((w1.alloc (Obj.cells #[Value.slice a1 L c1] 22)).alloc (Obj.cells #[Value.slice a2 L c2] 23)).alloc (Obj.cells #[Value.string s] 9)) 27 (.func (.func 8) #[] #[.pointer (some ⟨Bs, 0, none⟩)])
      rw [World.size_alloc, World.size_alloc, World.size_alloc, hBa] at this
      exact (this.alloc _)
  rw [hW0]
  clear hW0
  have hKt := @Kp_t Bs s
  refine wpIn_rangeFunc_ownF (F := Fence.wide) rfl (by decide) (gf := 8) (lb := #[.pointer (some ⟨Bs, 0, none⟩)]) rfl trivial (enters_of Try.func8 (by kernel_rfl) rfl)
    (runes_stops (9 - 1) (by decide) Bs s W0 H0.bs) Kp_t (Kp_b (w := W0)) (Below.refl _ _) (fun _ => rfl)
    (fun pre W => (pre <+: cuts s ∧ Boxed W Bk 3 (.int .i64 (pre.length : Nat))) ∧ Hold w1 s a1 c1 a2 c2 L Bp Bn Bs Ba W)
    (fun c pre _ => c = .ret ∧ ¬ pre <+: cuts s)
    (OwnFrom.and (Own.from (fun t A B row h hg hr => ⟨h.1, boxed_step h.2 hg hr⟩) _) (Hold.step (by omega)))
    (fun c => ownFrom_pure _ _)
    ⟨⟨⟨_, rfl⟩, bk0⟩, H0⟩
    (fun x => { tmps := #[.string s, .int .i64 lv, undef, undef, .pointer (some ⟨w.heap.size, 0, none⟩), .pointer (some ⟨Bp, 0, none⟩), .pointer (some ⟨Bn, 0, none⟩), .pointer (some ⟨Ba, 0, none⟩), .pointer (some ⟨Bk, 0, none⟩), .int .i64 (x.1.1 : Int), .int .i32 x.1.2, undef, undef, undef, undef, undef, undef, .tuple #[.slice a1 L c1, .slice a2 L c2], .string s, .tuple #[.slice a1 L c1, .slice a2 L c2], .slice a1 L c1, .slice a2 L c2, .string s, .func (.func 8) #[] #[.pointer (some ⟨Bs, 0, none⟩)], .func (.func 8) #[] #[.pointer (some ⟨Bs, 0, none⟩)], .bool false, .func (.func 8) #[] #[.pointer (some ⟨Bs, 0, none⟩)], .int .i64 (x.1.1 : Int), .int .i32 x.1.2, undef, undef, undef, undef, undef, undef, undef, undef, undef, undef, undef, undef, undef, undef, undef, undef, undef, undef, undef, undef, undef, undef, undef, undef, undef, undef, undef, undef, undef, undef, undef, undef, undef, undef, undef, undef, undef, undef, undef, undef, undef, undef, undef, undef, undef, undef, undef, undef, undef, undef, undef, undef, undef, undef, undef, undef, undef, undef, undef, undef, undef, undef, undef, undef, undef, undef, undef, undef, undef, undef, undef, undef, undef, undef, undef, undef, undef, undef, undef, undef, undef, undef, undef, undef, undef, undef, undef, undef, undef, undef, undef, undef, undef], defers := [] }) ?assign ?body ?done ?stop
  case assign =>
    intro l x W K hK
    unfold encs
    gi_wp2
    exact hK
  case stop =>
    rintro D c pre W hD hpre ⟨rfl, hn⟩ hK
    exact absurd hpre hn
  case body =>
    rintro l pre x W ⟨⟨hpre, h0⟩, HW⟩ hlen
    have c0 := h0.cell; have f0 := h0.frozen
    have cp := HW.bp.cell
    have cn := HW.bn.cell
    by_cases hlt : pre.length < L
    · obtain ⟨y, hy⟩ : ∃ y, (cuts s)[pre.length]? = some y := ⟨_, List.getElem?_eq_getElem (by omega)⟩
      have HP := hid_of (pre_step (x := x) hpre hy)
      obtain ⟨g1, e1, hg1, hc1⟩ := R1 (by simp [pl]; omega)
      obtain ⟨g2, e2, hg2, hc2⟩ := R2 (by simp [nm]; omega)
      subst e1 e2
      have k1 : W.cell? ⟨g1, 0 + pre.length, none⟩ = some (.int .i64 (y.1.1 : Int)) := (HW.below.cell (p := ⟨g1, 0 + pre.length, none⟩) hg1).trans (hc1 _ _ (by simp [pl, hy]))
      have k2 : W.cell? ⟨g2, 0 + pre.length, none⟩ = some (.int .i32 y.1.2) := (HW.below.cell (p := ⟨g2, 0 + pre.length, none⟩) hg2).trans (hc2 _ _ (by simp [nm, hy]))
      have k1' : W.cell? ⟨g1, pre.length, none⟩ = some (.int .i64 (y.1.1 : Int)) := by simpa using k1
      have k2' : W.cell? ⟨g2, pre.length, none⟩ = some (.int .i32 y.1.2) := by simpa using k2
      have br : Boxed W w.heap.size 4 (.bool false) := (HW.below.block w.heap.size (by omega)).trans hbr
      have cr := br.cell; have fr := br.frozen
      have ltI : (pre.length : Int) < (L : Int) := by omega
      have geI : ¬ (L : Int) ≤ (pre.length : Int) := by omega
      have hw : wrap64 ((pre.length : Int) + 1) = (pre.length : Int) + 1 := by unfold wrap64; omega
      have HQ := hid_of hpre
      have HL := hid_of hlen
      clear hpre hlen hy hc1 hc2 R1 R2
      obtain ⟨k, hk⟩ : ∃ k, pre.length = k := ⟨_, rfl⟩
      have HK := hid_of hk
      rw [hk] at c0 h0 hlt k1 k2 k1' k2' ltI geI hw
      by_cases hx1 : x.1.1 = y.1.1
      · by_cases hx2 : x.1.2 = y.1.2
        · rw [hx1, hx2]
          gi_wp2
          exact ⟨KeepsOthers.setCell _ _ _, kp_set W Bk _ (by omega), ⟨HP.out.2 (Subtype.ext (Prod.ext hx1 hx2)), by rw [len_app HK.out]; exact h0.set _⟩, HW.set (by omega) (by omega) (by omega) (by omega) (by omega) _⟩
        · rw [hx1]
          have HN : Hid (¬ pre ++ [x] <+: cuts s) := fun h => hx2 (by rw [HP.out.1 h])
          clear HP
          gi_wp2
          exact ⟨KeepsOthers.setCell _ _ _, rfl, HN.out⟩
      · have HN : Hid (¬ pre ++ [x] <+: cuts s) := fun h => hx1 (by rw [HP.out.1 h])
        have hxI : ¬ (x.1.1 : Int) = (y.1.1 : Int) := by omega
        clear HP
        gi_wp2
        exact ⟨KeepsOthers.setCell _ _ _, rfl, HN.out⟩
    · have hgI : (L : Int) ≤ (pre.length : Int) := by omega
      have HN : Hid (¬ pre ++ [x] <+: cuts s) := pre_full (by omega)
      have br : Boxed W w.heap.size 4 (.bool false) := (HW.below.block w.heap.size (by omega)).trans hbr
      have cr := br.cell; have fr := br.frozen
      clear hpre hlen
      gi_wp2
      exact ⟨KeepsOthers.setCell _ _ _, rfl, HN.out⟩
  case done =>
    rintro D1 ys W hD1 hys ⟨⟨-, h0⟩, HW⟩ hK1
    have hyl : ys.length = L := by rw [hys, hL]
    rw [hyl] at h0
    clear hyl hys ys
    have c0 := h0.cell; have f0 := h0.frozen
    have cp := HW.bp.cell
    have ca := HW.ba.cell
    have l0 : Bk < W.heap.size := h0.lt
    have l1 : Ba < W.heap.size := HW.ba.lt
    have n0 : ¬ Bk = W.heap.size := by omega
    have n1 : ¬ Ba = W.heap.size := by omega
    have n2 : ¬ W.heap.size = Bk := by omega
    have n3 : ¬ W.heap.size = Ba := by omega
    have n4 : ¬ Ba = Bk := by omega
    have n5 : ¬ Bk = Ba := by omega
    gi_wp2_with (refine ⟨trivial, ?_⟩; gi_at_call 6; with_reducible refine (cpk _).mono ?_; rintro e w' ⟨rfl, hw'⟩; subst hw')
    rename World => Wp
    have HW2 := HW.set (k := Bk) (by omega) (by omega) (by omega) (by omega) (by omega) (.int .i64 0)
    have hk2 := h0.set (.int .i64 0)
    have hK1' : (Wp.setCell ⟨Bk, 0, none⟩ (.int .i64 0)).heap[D1]? = some (.deferred (some [])) := (KeepsOthers.setCell Wp ⟨Bk, 0, none⟩ (.int .i64 0)).same D1 _ hK1 rfl
    have hsz2 : (Wp.setCell ⟨Bk, 0, none⟩ (.int .i64 0)).heap.size = Wp.heap.size := by simp
    obtain ⟨Ws, hWs⟩ : ∃ Ws, Wp.setCell ⟨Bk, 0, none⟩ (.int .i64 0) = Ws := ⟨_, rfl⟩
    obtain ⟨Bt, hBt⟩ : ∃ n, Wp.heap.size = n := ⟨_, rfl⟩
    rw [hWs] at HW2 hk2 hK1' hsz2 ⊢
    rw [hBt] at hsz2 ⊢
    have bt2 : Boxed (Ws.alloc (.cells #[.int .i64 t] 3)) Bt 3 (.int .i64 t) := by have := Boxed.new Ws 3 (.int .i64 t); rwa [hsz2] at this
    have bk2 : Boxed (Ws.alloc (.cells #[.int .i64 t] 3)) Bk 3 (.int .i64 0) := hk2.alloc _
    have H2 : Hold w1 s a1 c1 a2 c2 L Bp Bn Bs Ba (Ws.alloc (.cells #[.int .i64 t] 3)) := Hold.step (β := Unit) (B := w1.heap.size) (Nat.le_refl _) () _ _ none HW2 (World.grownBy_alloc _ _ none) (fun r e => by cases e)
    have hD1l : D1 < Ws.heap.size := (Array.getElem?_eq_some_iff.1 hK1').1
    have hD2 : (Ws.alloc (.cells #[.int .i64 t] 3)).heap[D1]? = some (.deferred (some [])) := (Below.heap_alloc _ _ _ hD1l).trans hK1'
    have hs2 : (Ws.alloc (.cells #[.int .i64 t] 3)).heap.size = Bt + 1 := by simp [hsz2]
    obtain ⟨W2, hW2⟩ : ∃ W2, Ws.alloc (.cells #[.int .i64 t] 3) = W2 := ⟨_, rfl⟩
    rw [hW2] at bt2 bk2 H2 hD2 hs2 ⊢
    have hBtk : Bk ≠ Bt := by omega
    have hD1b : D1 < W2.heap.size := by omega
    have hBtw : w1.heap.size ≤ Bt := by have := HW.below.size; omega
    have hW0s : w1.heap.size ≤ W0.heap.size := by omega
    have HF : Hid (w1.heap.size ≤ Bk ∧ Bp ≠ Bk ∧ Bn ≠ Bk ∧ Bs ≠ Bk ∧ Ba ≠ Bk ∧ Bt ≠ Bk ∧ Bk ≠ Bs) := ⟨by omega, by omega, by omega, by omega, by omega, by omega, by omega⟩
    have hDw : w1.heap.size ≤ W2.heap.size := by omega
    clear c0 f0 cp ca hK1 HW h0 hK1' hW2 HW2 hk2 hWs hD1l l0 l1 n0 n1 n2 n3 n4 n5
    refine wpIn_rangeFunc_ownH (F := Fence.wide) rfl (by decide) (gf := 8) (lb := #[.pointer (some ⟨Bs, 0, none⟩)]) rfl trivial (enters_of Try.func8 (by kernel_rfl) rfl)
      (runes_stops (9 - 1) (by decide) Bs s W2 H2.bs) Kp_t (Kp_b (w := W2)) (Below.refl _ _) (fun _ => rfl)
      (fun pre W => ((pre <+: cuts s ∧ pre.length ≤ t) ∧ Boxed W Bk 3 (.int .i64 (pre.length : Nat)) ∧ Boxed W Bt 3 (.int .i64 t)) ∧ Hold w1 s a1 c1 a2 c2 L Bp Bn Bs Ba W ∧ W.heap[D1]? = some (.deferred (some [])))
      (fun c pre W => ((c = .ret ∧ ¬ pre <+: cuts s) ∨ (c = .exit 2 ∧ Boxed W Bk 3 (.int .i64 t) ∧ Boxed W Bt 3 (.int .i64 t) ∧ Hold w1 s a1 c1 a2 c2 L Bp Bn Bs Ba W ∧ W.heap[D1]? = some (.deferred (some [])))))
      (OwnFrom.and (Own.from (fun t A B row h hg hr => ⟨h.1, boxed_step h.2.1 hg hr, boxed_step h.2.2 hg hr⟩) _) (OwnFrom.and (Hold.step hDw) (ownFrom_at hD1b)))
      (fun c u A B row h hg hr => by
        rcases h with h | ⟨h1, h2, h3, h4, h5⟩
        · exact Or.inl h
        · exact Or.inr ⟨h1, boxed_step h2 hg (fun r e => (hr r e).2), boxed_step h3 hg (fun r e => (hr r e).2), Hold.step (β := Unit) (B := W2.heap.size) hDw () _ _ row h4 hg hr, ownFrom_at (β := Unit) hD1b () _ _ row h5 hg hr⟩)
      ⟨⟨⟨⟨_, rfl⟩, Nat.zero_le _⟩, bk2, bt2⟩, H2, hD2⟩
      (fun x a' _ => a' = { tmps := #[.string s, .int IntKind.i64 lv, undef, undef, .pointer (some ⟨w.heap.size, 0, none⟩), .pointer (some ⟨Bp, 0, none⟩), .pointer (some ⟨Bn, 0, none⟩), .pointer (some ⟨Ba, 0, none⟩), .pointer (some ⟨Bk, 0, none⟩), undef, undef, .pointer (some ⟨Bt, 0, none⟩), .int .i64 (x.1.1 : Int), .int .i32 x.1.2, undef, undef, undef, .tuple #[.slice a1 L c1, .slice a2 L c2], .string s, .tuple #[.slice a1 L c1, .slice a2 L c2], .slice a1 L c1, .slice a2 L c2, .string s, .func (.func 8) #[] #[.pointer (some ⟨Bs, 0, none⟩)], .func (.func 8) #[] #[.pointer (some ⟨Bs, 0, none⟩)], .bool false, .func (.func 8) #[] #[.pointer (some ⟨Bs, 0, none⟩)], undef, undef, undef, undef, undef, undef, undef, undef, undef, undef, undef, undef, undef, undef, undef, undef, undef, undef, undef, undef, undef, undef, undef, undef, .int IntKind.i64 ↑L, .slice a1 L c1, .int IntKind.i64 ↑L, .bool false, .int IntKind.i64 lv, .slice a1 L c1, .int IntKind.i64 ↑L, .int IntKind.i64 (↑L + 1), .int IntKind.i64 ↑t, .func (.func 8) #[] #[.pointer (some ⟨Bs, 0, none⟩)], .int .i64 (x.1.1 : Int), .int .i32 x.1.2, undef, undef, undef, undef, undef, undef, undef, undef, undef, undef, undef, undef, undef, undef, undef, undef, undef, undef, undef, undef, undef, undef, undef, undef, undef, undef, undef, undef, undef, undef, undef, undef, undef, undef, undef, undef, undef, undef, undef, undef, undef, undef, undef, undef, undef, undef, undef, undef, undef, undef, undef, undef, undef, undef, undef, undef, undef, undef, undef], defers := [] }) (fun _ _ => ownFrom_pure _ _) ?assign2 ?body2 ?done2 ?stop2
    case assign2 =>
      intro l pre x W K hi hK
      unfold encs
      gi_wp2
      exact hK _ _ (KeepsFrom.refl _ _) (kp_refl _ _ _) hi rfl
    case done2 =>
      rintro D2 xs W hD2' hxs ⟨⟨⟨-, hpt⟩, h0, ht0⟩, HW, hD⟩ hK2
      have hLx : xs.length = L := by rw [hxs, hL]
      rw [hLx] at hpt h0
      obtain rfl : t = L := Nat.le_antisymm htL hpt
      have br : Boxed W w.heap.size 4 (.bool false) := (HW.below.block w.heap.size (Nat.lt_of_succ_le hw1)).trans hbr
      have HBW := hid_of (hBw.trans (HW.below.mono hBw.size))
      have HBR := hid_of br
      have HD1 := hid_of (Nat.le_trans (Nat.le_of_succ_le hw1) (Nat.le_trans hW0s hD1))
      have HD2 := hid_of (Nat.le_trans (Nat.le_of_succ_le hw1) (Nat.le_trans hDw hD2'))
      have HNE := hid_of (show D1 ≠ D2 from Nat.ne_of_lt (Nat.lt_of_lt_of_le hD1b hD2'))
      have c0 := h0.cell; have ct := ht0.cell; have cr := br.cell; have fr := br.frozen
      clear hxs hLx hpt HF hDw hs2 hBtk hBtw hD1b hsz2 hBt hBp hBn hBs hBa hBk hs0 R1 R2 hL hwL cpk bk0 H0 H2 bk2 bt2 hD2
      gi_wp2
      have x2 := (KeepsOthers.setCell W ⟨w.heap.size, 0, none⟩ (.bool true)).same D2 _ hK2 rfl
      have x1 := (KeepsOthers.setCell W ⟨w.heap.size, 0, none⟩ (.bool true)).same D1 _ hD rfl
      have bz := HBR.out.set (.bool true)
      have hz := HBW.out.setCell (p := ⟨w.heap.size, 0, none⟩) (Nat.le_refl _) (.bool true)
      obtain ⟨Z, hZ⟩ : ∃ Z, W.setCell ⟨w.heap.size, 0, none⟩ (.bool true) = Z := ⟨_, rfl⟩
      rw [hZ] at x1 x2 bz hz ⊢
      have x1' : (Z.putObj D2 (.deferred none)).heap[D1]? = some (.deferred (some [])) := (World.putObj_heap_other HNE.out).trans x1
      have bz2 := boxed_step bz (grownBy_putObj' _ D2 (.deferred none)) (fun r e => by cases e; exact ⟨_, x2, rfl⟩)
      have bz3 := (boxed_step bz2 (grownBy_putObj' _ D1 (.deferred none)) (fun r e => by cases e; exact ⟨_, x1', rfl⟩)).cell
      have hz2 := hz.trans (belowK_b (w := w) (Nat.le_refl _) _ D2 _ (.deferred none) HD2.out x2 rfl rfl)
      have hz3 := hz2.trans (belowK_b (w := w) (Nat.le_refl _) _ D1 _ (.deferred none) HD1.out x1' rfl rfl)
      refine ⟨by simp, .inl ⟨_, _, rfl, run_takeDeferred x2, ?_⟩⟩
      refine ⟨by simp, .inl ⟨_, _, rfl, run_takeDeferred x1', ?_⟩⟩
      refine ⟨.bool true, ?_, rfl, hz3⟩
      simp [results, Try.f3, go_sem, bz3]
    case stop2 =>
      rintro D2 c pre W hD2' hpre hx hK2
      rcases hx with ⟨rfl, hn⟩ | ⟨rfl, h0, ht0, HW, hD⟩
      · exact absurd hpre hn
      have br : Boxed W w.heap.size 4 (.bool false) := (HW.below.block w.heap.size (Nat.lt_of_succ_le hw1)).trans hbr
      have HBW := hid_of (hBw.trans (HW.below.mono hBw.size))
      have HBR := hid_of br
      have HD1 := hid_of (Nat.le_trans (Nat.le_of_succ_le hw1) (Nat.le_trans hW0s hD1))
      have HD2 := hid_of (Nat.le_trans (Nat.le_of_succ_le hw1) (Nat.le_trans hDw hD2'))
      have HNE := hid_of (show D1 ≠ D2 from Nat.ne_of_lt (Nat.lt_of_lt_of_le hD1b hD2'))
      have c0 := h0.cell; have ct := ht0.cell; have cr := br.cell; have fr := br.frozen
      clear hpre HF hDw hs2 hBtk hBtw hD1b hsz2 hBt hBp hBn hBs hBa hBk hs0 R1 R2 hL hwL cpk bk0 H0 H2 bk2 bt2 hD2
      gi_wp2
      have x2 := (KeepsOthers.setCell W ⟨w.heap.size, 0, none⟩ (.bool true)).same D2 _ hK2 rfl
      have x1 := (KeepsOthers.setCell W ⟨w.heap.size, 0, none⟩ (.bool true)).same D1 _ hD rfl
      have bz := HBR.out.set (.bool true)
      have hz := HBW.out.setCell (p := ⟨w.heap.size, 0, none⟩) (Nat.le_refl _) (.bool true)
      obtain ⟨Z, hZ⟩ : ∃ Z, W.setCell ⟨w.heap.size, 0, none⟩ (.bool true) = Z := ⟨_, rfl⟩
      rw [hZ] at x1 x2 bz hz ⊢
      have x1' : (Z.putObj D2 (.deferred none)).heap[D1]? = some (.deferred (some [])) := (World.putObj_heap_other HNE.out).trans x1
      have bz2 := boxed_step bz (grownBy_putObj' _ D2 (.deferred none)) (fun r e => by cases e; exact ⟨_, x2, rfl⟩)
      have bz3 := (boxed_step bz2 (grownBy_putObj' _ D1 (.deferred none)) (fun r e => by cases e; exact ⟨_, x1', rfl⟩)).cell
      have hz2 := hz.trans (belowK_b (w := w) (Nat.le_refl _) _ D2 _ (.deferred none) HD2.out x2 rfl rfl)
      have hz3 := hz2.trans (belowK_b (w := w) (Nat.le_refl _) _ D1 _ (.deferred none) HD1.out x1' rfl rfl)
      refine ⟨by simp, .inl ⟨_, _, rfl, run_takeDeferred x2, ?_⟩⟩
      refine ⟨by simp, .inl ⟨_, _, rfl, run_takeDeferred x1', ?_⟩⟩
      refine ⟨.bool true, ?_, rfl, hz3⟩
      simp [results, Try.f3, go_sem, bz3]
    case body2 =>
      rintro l pre x a' W hl ⟨r0, hr0⟩ ⟨⟨⟨hpre, hpt⟩, h0, ht0⟩, HW, hD⟩ rfl hlen
      have c0 := h0.cell; have f0 := h0.frozen
      have ct := ht0.cell
      have cp := HW.bp.cell
      have cn := HW.bn.cell
      have ca := HW.ba.cell
      by_cases hpe : pre.length = t
      · rw [hpe] at c0 h0
        gi_wp2
        exact ⟨KeepsFrom.refl _ _, Or.inr ⟨rfl, h0, ht0, HW, hD⟩⟩
      · have hltt : pre.length < t := Nat.lt_of_le_of_ne hpt hpe
        have hlt : pre.length < L := Nat.lt_of_lt_of_le hltt htL
        obtain ⟨y, hy⟩ : ∃ y, (cuts s)[pre.length]? = some y := ⟨_, List.getElem?_eq_getElem (by rw [hL]; exact hlt)⟩
        have HP := hid_of (pre_step (x := x) hpre hy)
        obtain ⟨g1, e1, hg1, hc1⟩ := R1 (by simp only [pl, List.length_map, hL]; exact Nat.lt_of_le_of_lt (Nat.zero_le _) hlt)
        obtain ⟨g2, e2, hg2, hc2⟩ := R2 (by simp only [nm, List.length_map, hL]; exact Nat.lt_of_le_of_lt (Nat.zero_le _) hlt)
        subst e1 e2
        have k1 : W.cell? ⟨g1, 0 + pre.length, none⟩ = some (.int .i64 (y.1.1 : Int)) := (HW.below.cell (p := ⟨g1, 0 + pre.length, none⟩) hg1).trans (hc1 _ _ (by simp [pl, hy]))
        have k2 : W.cell? ⟨g2, 0 + pre.length, none⟩ = some (.int .i32 y.1.2) := (HW.below.cell (p := ⟨g2, 0 + pre.length, none⟩) hg2).trans (hc2 _ _ (by simp [nm, hy]))
        have k1' : W.cell? ⟨g1, pre.length, none⟩ = some (.int .i64 (y.1.1 : Int)) := by simpa using k1
        have k2' : W.cell? ⟨g2, pre.length, none⟩ = some (.int .i32 y.1.2) := by simpa using k2
        have br : Boxed W w.heap.size 4 (.bool false) := (HW.below.block w.heap.size (Nat.lt_of_succ_le hw1)).trans hbr
        have cr := br.cell; have fr := br.frozen
        have ltI : (pre.length : Int) < (L : Int) := Int.ofNat_lt.2 hlt
        have geI : ¬ (L : Int) ≤ (pre.length : Int) := Int.not_le.2 ltI
        have neT : ¬ (pre.length : Int) = (t : Int) := ne_nat hpe
        have gtT : ¬ (t : Int) < (pre.length : Int) := Int.not_lt.2 (Int.ofNat_le.2 hpt)
        have hw : wrap64 ((pre.length : Int) + 1) = (pre.length : Int) + 1 := wrap_succ (Nat.le_trans (Nat.le_of_lt hlt) hLs)
        obtain ⟨k, hk⟩ : ∃ k, pre.length = k := ⟨_, rfl⟩
        have HK := hid_of hk
        have HQ := hid_of hpre
        rw [hk] at c0 h0 hlt k1 k2 k1' k2' ltI geI hw neT gtT hpe hpt
        have HCL := hid_of hL
        have HR1 := hid_of (And.intro hg1 hc1)
        have HR2 := hid_of (And.intro hg2 hc2)
        have HBR := hid_of (And.intro hbr (Nat.lt_of_succ_le hw1))
        have HLs := hid_of hLs
        have HLT : Hid (k + 1 ≤ t) := by rw [← hk]; exact hltt
        obtain ⟨f1, f2, f3, f4, f5, f6, f7⟩ := HF.out
        have nb1 : ¬ Bk = Bt := fun e => f6 e.symm
        have nb2 : ¬ Bt = Bk := f6
        have q1 : ((k : Int) == (t : Int)) = false := by rw [beq_eq_false_iff_ne]; exact neT
        have q3 : decide ((t : Int) < (k : Int)) = false := decide_eq_false gtT
        have q4 : (k : Int) ≤ (t : Int) := Int.not_lt.1 gtT
        clear hpre hlen hy hc1 hc2 R1 R2 hg1 hg2 hBp hBn hBs hBa hBk hs0 hs2 hBtk hBtw hD1b hDw hsz2 hBt hw1 htL hLs hpt hltt hx0 hs hL hBw hbr bk0 H0 H2 bk2 bt2 hD2 hwL cpk
        by_cases hx1 : x.1.1 = y.1.1
        · by_cases hx2 : x.1.2 = y.1.2
          · rw [hx1, hx2]
            have HPP : Hid (pre ++ [x] <+: cuts s) := HP.out.2 (Subtype.ext (Prod.ext hx1 hx2))
            clear HP
            by_cases hkt : k + 1 = t
            · have eq1 : (k : Int) + 1 = (t : Int) := eq_succ hkt
              have q5 : (((k : Int) + 1) == (t : Int)) = true := by rw [eq1]; simp
              have HKT := hid_of hkt
              clear eq1 hkt
              have ct2 : (W.setCell ⟨Bk, 0, none⟩ (.int .i64 ((k : Int) + 1))).cell? ⟨Bt, 0, none⟩ = some (.int .i64 t) := (ht0.other f6 _).cell
              have c02 : (W.setCell ⟨Bk, 0, none⟩ (.int .i64 ((k : Int) + 1))).cell? ⟨Bk, 0, none⟩ = some (.int .i64 ((k : Int) + 1)) := (h0.set _).cell
              have ca2 : (W.setCell ⟨Bk, 0, none⟩ (.int .i64 ((k : Int) + 1))).cell? ⟨Ba, 0, none⟩ = some (.func (.func 8) #[] #[.pointer (some ⟨Bs, 0, none⟩)]) := (HW.ba.other f5 _).cell
              have ca3 : ((W.setCell ⟨Bk, 0, none⟩ (.int .i64 ((k : Int) + 1))).alloc (.cells #[.int .i64 0] 3)).cell? ⟨Ba, 0, none⟩ = some (.func (.func 8) #[] #[.pointer (some ⟨Bs, 0, none⟩)]) := ((HW.ba.other f5 _).alloc _).cell
              gi_wp2
              have hlD : D1 < W.heap.size := (Array.getElem?_eq_some_iff.1 hD).1
              obtain ⟨Bm, hBm⟩ : ∃ n, W.heap.size = n := ⟨_, rfl⟩
              have d1 : Bk ≠ Bm := by have := h0.lt; rw [hBm] at this; exact Nat.ne_of_lt this
              have d2 : Bt ≠ Bm := by have := ht0.lt; rw [hBm] at this; exact Nat.ne_of_lt this
              have d3 : Bp ≠ Bm := by have := HW.bp.lt; rw [hBm] at this; exact Nat.ne_of_lt this
              have d4 : Bn ≠ Bm := by have := HW.bn.lt; rw [hBm] at this; exact Nat.ne_of_lt this
              have d5 : Bs ≠ Bm := by have := HW.bs.lt; rw [hBm] at this; exact Nat.ne_of_lt this
              have d6 : Ba ≠ Bm := by have := HW.ba.lt; rw [hBm] at this; exact Nat.ne_of_lt this
              have d7 : w1.heap.size ≤ Bm := by rw [← hBm]; exact HW.below.size
              have sz1 : (W.setCell ⟨Bk, 0, none⟩ (.int .i64 ((k : Int) + 1))).heap.size = Bm := by simp [hBm]
              have bm : Boxed ((W.setCell ⟨Bk, 0, none⟩ (.int .i64 ((k : Int) + 1))).alloc (.cells #[.int .i64 0] 3)) Bm 3 (.int .i64 0) := by
                have := Boxed.new (W.setCell ⟨Bk, 0, none⟩ (.int .i64 ((k : Int) + 1))) 3 (.int .i64 0)
                rwa [sz1] at this
              have bkb := (h0.set (.int .i64 ((k : Int) + 1))).alloc (.cells #[.int .i64 0] 3)
              have btb := (ht0.other f6 (.int .i64 ((k : Int) + 1))).alloc (.cells #[.int .i64 0] 3)
              have HWb : Hold w1 s (some ⟨g1, 0, none⟩) c1 (some ⟨g2, 0, none⟩) c2 L Bp Bn Bs Ba ((W.setCell ⟨Bk, 0, none⟩ (.int .i64 ((k : Int) + 1))).alloc (.cells #[.int .i64 0] 3)) := Hold.step (β := Unit) (B := w1.heap.size) (Nat.le_refl _) () _ _ none (HW.set f1 f2 f3 f4 f5 _) (World.grownBy_alloc _ _ none) (fun r e => by cases e)
              have KO : KeepsOthers W ((W.setCell ⟨Bk, 0, none⟩ (.int .i64 ((k : Int) + 1))).alloc (.cells #[.int .i64 0] 3)) := (KeepsOthers.setCell W ⟨Bk, 0, none⟩ (.int .i64 ((k : Int) + 1))).trans (keeps_alloc _ _)
              have KP : Kp Bs s W ((W.setCell ⟨Bk, 0, none⟩ (.int .i64 ((k : Int) + 1))).alloc (.cells #[.int .i64 0] 3)) := Kp_t (kp_set W Bk _ (Ne.symm f7)) (kp_alloc _ _ _ _)
              have hDb := KO.same D1 _ hD rfl
              have hrb := KO.same l _ hr0 rfl
              have szb : ((W.setCell ⟨Bk, 0, none⟩ (.int .i64 ((k : Int) + 1))).alloc (.cells #[.int .i64 0] 3)).heap.size = Bm + 1 := by simp [hBm]
              obtain ⟨V0, hV0⟩ : ∃ V0, (W.setCell ⟨Bk, 0, none⟩ (.int .i64 ((k : Int) + 1))).alloc (.cells #[.int .i64 0] 3) = V0 := ⟨_, rfl⟩
              rw [hV0] at bm bkb btb HWb KO KP hDb hrb szb ⊢
              rw [hBm]
              have e1 : w1.heap.size ≤ V0.heap.size := by rw [szb]; exact Nat.le_succ_of_le d7
              have e2 : D1 < V0.heap.size := by rw [szb, ← hBm]; exact Nat.lt_succ_of_lt hlD
              have e3 : W.heap.size ≤ V0.heap.size := by rw [szb, hBm]; exact Nat.le_succ _
              clear ct2 c02 ca2 ca3 hV0 sz1 c0 f0 ct cp cn ca k1 k2 k1' k2' cr fr ltI geI hw neT gtT q1 q3 q4 q5 nb1 nb2
              refine wpIn_rangeFunc_ownN (F := Fence.wide.inRound l) rfl hrb (by decide) (gf := 8) (lb := #[.pointer (some ⟨Bs, 0, none⟩)]) rfl trivial (enters_of Try.func8 (by kernel_rfl) rfl)
                ((runes_stops (7 - 1) (by decide) Bs s V0 HWb.bs).inRound l) Kp_t (Kp_b (w := V0)) (Below.refl _ _) (fun _ => rfl)
                (fun pre' V => (pre' <+: cuts s ∧ Boxed V Bm 3 (.int .i64 (pre'.length : Nat)) ∧ Boxed V Bk 3 (.int .i64 ((k : Int) + 1)) ∧ Boxed V Bt 3 (.int .i64 t)) ∧ Hold w1 s (some ⟨g1, 0, none⟩) c1 (some ⟨g2, 0, none⟩) c2 L Bp Bn Bs Ba V ∧ V.heap[D1]? = some (.deferred (some [])) ∧ KeepsFrom W2.heap.size W V ∧ Kp Bs s W V)
                (fun c pre' _ => c = .ret ∧ ¬ pre' <+: cuts s)
                (OwnFrom.and (Own.from (fun t A B row h hg hr => ⟨h.1, boxed_step h.2.1 hg hr, boxed_step h.2.2.1 hg hr, boxed_step h.2.2.2 hg hr⟩) _) (OwnFrom.and (Hold.step e1) (OwnFrom.and (ownFrom_at e2) (OwnFrom.and (ownFrom_keepsFrom e3) (ownFrom_kp e3)))))
                (fun c => ownFrom_pure _ _)
                ⟨⟨⟨_, rfl⟩, bm, bkb, btb⟩, HWb, hDb, KO.from _, KP⟩
                (fun x' a' _ => a' = { tmps := #[.string s, .int IntKind.i64 lv, undef, undef, .pointer (some ⟨w.heap.size, 0, none⟩), .pointer (some ⟨Bp, 0, none⟩), .pointer (some ⟨Bn, 0, none⟩), .pointer (some ⟨Ba, 0, none⟩), .pointer (some ⟨Bk, 0, none⟩), undef, undef, .pointer (some ⟨Bt, 0, none⟩), .int IntKind.i64 (y.1.1 : Int), .int IntKind.i32 y.1.2, .pointer (some ⟨Bm, 0, none⟩), .int .i64 (x'.1.1 : Int), .int .i32 x'.1.2, .tuple #[.slice (some ⟨g1, 0, none⟩) L c1, .slice (some ⟨g2, 0, none⟩) L c2], .string s, .tuple #[.slice (some ⟨g1, 0, none⟩) L c1, .slice (some ⟨g2, 0, none⟩) L c2], .slice (some ⟨g1, 0, none⟩) L c1, .slice (some ⟨g2, 0, none⟩) L c2, .string s, .func (.func 8) #[] #[.pointer (some ⟨Bs, 0, none⟩)], .func (.func 8) #[] #[.pointer (some ⟨Bs, 0, none⟩)], .bool false, .func (.func 8) #[] #[.pointer (some ⟨Bs, 0, none⟩)], undef, undef, undef, undef, undef, undef, undef, undef, undef, undef, undef, undef, undef, undef, undef, undef, undef, undef, undef, undef, undef, undef, undef, undef, .int IntKind.i64 ↑L, .slice (some ⟨g1, 0, none⟩) L c1, .int IntKind.i64 ↑L, .bool false, .int IntKind.i64 lv, .slice (some ⟨g1, 0, none⟩) L c1, .int IntKind.i64 ↑L, .int IntKind.i64 (↑L + 1), .int IntKind.i64 ↑t, .func (.func 8) #[] #[.pointer (some ⟨Bs, 0, none⟩)], .int IntKind.i64 (y.1.1 : Int), .int IntKind.i32 y.1.2, .int IntKind.i64 ↑k, .int IntKind.i64 ↑t, .bool false, .int IntKind.i64 ↑k, .int IntKind.i64 ↑t, .bool false, .bool false, .int IntKind.i64 (y.1.1 : Int), .slice (some ⟨g1, 0, none⟩) L c1, .int IntKind.i64 ↑k, .pointer (some ⟨g1, k, none⟩), .int IntKind.i64 (y.1.1 : Int), .bool false, .bool false, .bool false, .int IntKind.i32 y.1.2, .slice (some ⟨g2, 0, none⟩) L c2, .int IntKind.i64 ↑k, .pointer (some ⟨g2, k, none⟩), .int IntKind.i32 y.1.2, .bool false, .bool false, .int IntKind.i64 ↑k, .int IntKind.i64 (↑k + 1), .int IntKind.i64 (↑k + 1), .int IntKind.i64 ↑t, .bool true, .func (.func 8) #[] #[.pointer (some ⟨Bs, 0, none⟩)], .int .i64 (x'.1.1 : Int), .int .i32 x'.1.2, undef, undef, undef, undef, undef, undef, undef, undef, undef, undef, undef, undef, undef, undef, undef, undef, undef, undef, undef, undef, undef, undef, undef, undef, undef, undef, undef, undef, undef], defers := [] }) (fun _ _ => ownFrom_pure _ _) ?assign3 ?body3 ?done3 ?stop3
              case assign3 =>
                intro l' pre' x' V K hi hK
                unfold encs
                gi_wp2
                exact hK _ _ (KeepsFrom.refl _ _) (kp_refl _ _ _) hi rfl
              case stop3 =>
                rintro c pre' V hpre ⟨rfl, hn⟩
                exact absurd hpre hn
              case done3 =>
                rintro xs V rfl ⟨⟨-, m0, m1, m2⟩, HV, hDV, KF, KV⟩
                rw [HCL.out] at m0
                have c0 := m0.cell
                have cp := HV.bp.cell
                gi_wp2
                exact ⟨KF, KV, ⟨⟨HPP.out, by rw [List.length_append, HK.out]; exact HLT.out⟩, by rw [len_app HK.out]; exact m1, m2⟩, HV, hDV⟩
              case body3 =>
                rintro l' pre' x' a' V hl' ⟨r1, hr1⟩ ⟨⟨hpre', m0, m1, m2⟩, HV, hDV, KF, KV⟩ rfl hlen'
                have c0 := m0.cell; have f0 := m0.frozen
                have cp := HV.bp.cell
                have cn := HV.bn.cell
                obtain ⟨hbr, hw1⟩ := HBR.out
                have br : Boxed V w.heap.size 4 (.bool false) := (HV.below.block w.heap.size hw1).trans hbr
                have cr := br.cell; have fr := br.frozen
                obtain ⟨hg1, hc1⟩ := HR1.out
                obtain ⟨hg2, hc2⟩ := HR2.out
                have hLs := HLs.out
                by_cases hlt : pre'.length < L
                · obtain ⟨y', hy⟩ : ∃ y', (cuts s)[pre'.length]? = some y' := ⟨_, List.getElem?_eq_getElem (by rw [HCL.out]; exact hlt)⟩
                  have HP := hid_of (pre_step (x := x') hpre' hy)
                  have k1 : V.cell? ⟨g1, 0 + pre'.length, none⟩ = some (.int .i64 (y'.1.1 : Int)) := (HV.below.cell (p := ⟨g1, 0 + pre'.length, none⟩) hg1).trans (hc1 _ _ (by simp [pl, hy]))
                  have k2 : V.cell? ⟨g2, 0 + pre'.length, none⟩ = some (.int .i32 y'.1.2) := (HV.below.cell (p := ⟨g2, 0 + pre'.length, none⟩) hg2).trans (hc2 _ _ (by simp [nm, hy]))
                  have k1' : V.cell? ⟨g1, pre'.length, none⟩ = some (.int .i64 (y'.1.1 : Int)) := by simpa using k1
                  have k2' : V.cell? ⟨g2, pre'.length, none⟩ = some (.int .i32 y'.1.2) := by simpa using k2
                  have ltI : (pre'.length : Int) < (L : Int) := Int.ofNat_lt.2 hlt
                  have geI : ¬ (L : Int) ≤ (pre'.length : Int) := Int.not_le.2 ltI
                  have hw : wrap64 ((pre'.length : Int) + 1) = (pre'.length : Int) + 1 := wrap_succ (Nat.le_trans (Nat.le_of_lt hlt) hLs)
                  obtain ⟨k', hk'⟩ : ∃ k', pre'.length = k' := ⟨_, rfl⟩
                  have HK' := hid_of hk'
                  rw [hk'] at c0 m0 k1 k2 k1' k2' ltI geI hw hlt
                  clear hpre' hlen' hy hc1 hc2 hg1 hg2 hbr hw1 hLs hBm szb hlD hl hl' hr1
                  by_cases hx1 : x'.1.1 = y'.1.1
                  · by_cases hx2 : x'.1.2 = y'.1.2
                    · rw [hx1, hx2]
                      have HPP' : Hid (pre' ++ [x'] <+: cuts s) := HP.out.2 (Subtype.ext (Prod.ext hx1 hx2))
                      clear HP
                      gi_wp2
                      exact ⟨(KeepsOthers.setCell _ _ _).from _, kp_set V Bm _ d5, ⟨HPP'.out, by rw [len_app HK'.out]; exact m0.set _, m1.other d1 _, m2.other d2 _⟩, HV.set d7 d3 d4 d5 d6 _, (KeepsOthers.setCell _ _ _).same D1 _ hDV rfl, KF.trans ((KeepsOthers.setCell _ _ _).from _), Kp_t KV (kp_set V Bm _ d5)⟩
                    · rw [hx1]
                      have HN : Hid (¬ pre' ++ [x'] <+: cuts s) := fun h => hx2 (by rw [HP.out.1 h])
                      clear HP
                      gi_wp2
                      exact ⟨(KeepsOthers.setCell _ _ _).from _, rfl, HN.out⟩
                  · have HN : Hid (¬ pre' ++ [x'] <+: cuts s) := fun h => hx1 (by rw [HP.out.1 h])
                    have hxI : ¬ (x'.1.1 : Int) = (y'.1.1 : Int) := ne_nat hx1
                    clear HP
                    gi_wp2
                    exact ⟨(KeepsOthers.setCell _ _ _).from _, rfl, HN.out⟩
                · have hgI : (L : Int) ≤ (pre'.length : Int) := Int.ofNat_le.2 (Nat.le_of_not_lt hlt)
                  have HN : Hid (¬ pre' ++ [x'] <+: cuts s) := pre_full (by rw [HCL.out]; exact Nat.le_of_not_lt hlt)
                  clear hpre' hlen' hc1 hc2 hg1 hg2 hbr hw1 hLs hBm szb hlD hl hl' hr1
                  gi_wp2
                  exact ⟨(KeepsOthers.setCell _ _ _).from _, rfl, HN.out⟩
            · have ne1 : ¬ (k : Int) + 1 = (t : Int) := ne_succ hkt
              have q5 : (((k : Int) + 1) == (t : Int)) = false := by rw [beq_eq_false_iff_ne]; exact ne1
              have ct2 : (W.setCell ⟨Bk, 0, none⟩ (.int .i64 ((k : Int) + 1))).cell? ⟨Bt, 0, none⟩ = some (.int .i64 t) := (ht0.other f6 _).cell
              have c02 : (W.setCell ⟨Bk, 0, none⟩ (.int .i64 ((k : Int) + 1))).cell? ⟨Bk, 0, none⟩ = some (.int .i64 ((k : Int) + 1)) := (h0.set _).cell
              gi_wp2
              exact ⟨(KeepsOthers.setCell _ _ _).from _, kp_set W Bk _ (Ne.symm f7), ⟨⟨HPP.out, by rw [List.length_append, HK.out]; exact HLT.out⟩, by rw [len_app HK.out]; exact h0.set _, ht0.other f6 _⟩, HW.set f1 f2 f3 f4 f5 _, (KeepsOthers.setCell _ _ _).same D1 _ hD rfl⟩
          · rw [hx1]
            have HN : Hid (¬ pre ++ [x] <+: cuts s) := fun h => hx2 (by rw [HP.out.1 h])
            have q6 : (x.1.2 == y.1.2) = false := by rw [beq_eq_false_iff_ne]; exact hx2
            have q7 : (x.1.2 != y.1.2) = true := by rw [bne, q6]; rfl
            clear HP hx1
            gi_wp2
            exact ⟨(KeepsOthers.setCell _ _ _).from _, Or.inl ⟨rfl, HN.out⟩⟩
        · have HN : Hid (¬ pre ++ [x] <+: cuts s) := fun h => hx1 (by rw [HP.out.1 h])
          have hxI : ¬ (x.1.1 : Int) = (y.1.1 : Int) := ne_nat hx1
          clear HP
          gi_wp2
          exact ⟨(KeepsOthers.setCell _ _ _).from _, Or.inl ⟨rfl, HN.out⟩⟩
end Go.Proofs.Ytilepggnplhngaa
