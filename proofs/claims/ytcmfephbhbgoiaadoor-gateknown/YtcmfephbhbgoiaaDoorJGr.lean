import Derived.Test.YtcmfephbhbgoiaaDoorJSo
namespace Go.Proofs.YtcmfephbhbgoiaaDoor
open Go.RowKit
set_option maxRecDepth 100000
set_option maxHeartbeats 2000000 in
theorem ins_none (p : Option Addr) (cap : Nat) (fv : Value) (w : World) :
    Calls Tryd.prog 49 #[.slice p 0 cap, .int .i64 0, .int .i64 0, fv] w fun e w' => e = .returned (.tuple #[]) ∧ w' = w := by
  go_enter Tryd.func49, Tryd.ntmps49
  go_wp2
  refine wp_loop_rounds 1 ?_
  rw [rounds_succ]
  go_wp2
  go_end0
  exact ⟨rfl, rfl⟩
set_option maxHeartbeats 2000000 in
theorem pdq_none (p : Option Addr) (cap : Nat) (lim : Int) (fv : Value) (w : World) :
    Calls Tryd.prog 42 #[.slice p 0 cap, .int .i64 0, .int .i64 0, .int .i64 lim, fv] w fun e w' => e = .returned (.tuple #[]) ∧ w' = w := by
  have hi := fun W => ins_none p cap fv W
  go_enter Tryd.func42, Tryd.ntmps42
  go_wp2
  refine wp_loop_rounds 1 ?_
  rw [rounds_succ]
  go_wp2_with (go_at_call 49; with_reducible refine (hi _).mono ?_; rintro e w' ⟨rfl, hq⟩; subst hq)
  (try simp only [Exit.inBlock, Exit.then]); refine bodyPost_ret (results_none rfl _ _ _) rfl ?_
  exact ⟨rfl, rfl⟩
set_option maxHeartbeats 2000000 in
theorem sort_none (p : Option Addr) (cap : Nat) (fv : Value) (w : World) :
    Calls Tryd.prog 30 #[.slice p 0 cap, fv] w fun e w' => e = .returned (.tuple #[]) ∧ w' = w := by
  have hp := fun lim W => pdq_none p cap lim fv W
  have hl : ∀ W, Calls Tryd.prog 43 #[.int .u64 0] W fun e w' => e = .returned (.int .i64 (Lib.bitLen 0 : Nat)) ∧ w' = W := fun W => by
    have h := Any.bits_Len (SlLaysF0.n15.bits (P := Tryd.prog) (ρ := Tryd.sortSp_ren) { Tryd.sortSp with }) 0 W (by omega) (by omega)
    exact h
  go_enter Tryd.func30, Tryd.ntmps30
  go_wp2_with (first | (go_at_call 43; with_reducible refine (hl _).mono ?_; rintro e w' ⟨rfl, hq⟩; subst hq) | (go_at_call 42; with_reducible refine (hp _ _).mono ?_; rintro e w' ⟨rfl, hq⟩; subst hq))
  go_end0
  exact ⟨rfl, rfl⟩
theorem gown_form {w : World} {B e sz : Nat} {v : Value} {n : Nat} {xs : List Value} (h : w.ownsRow B e sz v n xs) (hn : 0 < n) : ∃ g c, v = .slice (some ⟨g, 0, none⟩) n c ∧ n ≤ c := by
  rcases h.2 with ⟨_, e⟩ | ⟨g, cap, cur, e, _, _, hc, _⟩
  · omega
  · exact ⟨g, cap, e, hc⟩
theorem gown_base {w : World} {B B' e sz n : Nat} {v : Value} {xs : List Value} (h : w.ownsRow B e sz v n xs) (hb : B' ≤ B) : w.ownsRow B' e sz v n xs := by
  refine ⟨h.1, ?_⟩
  rcases h.2 with h2 | ⟨g, cap, cur, e1, hg, r⟩
  · exact .inl h2
  · exact .inr ⟨g, cap, cur, e1, by omega, r⟩
theorem keptNe {o : Option Nat} {r : Nat} (h : ∀ k, o = some k → k ≠ r) : o = none ∨ o ≠ some r := by
  cases o with
  | none => exact .inl rfl
  | some k => exact .inr (fun e => h k rfl (by cases e; rfl))
/-- what the round of Grants has collected -/
def ColS (w : World) (b r : Nat) (D : DataW Unit) (f : Int → Option Int) (v : Value) (wr : World) : Prop :=
  ∃ left cnt L, wr.ranges Tryd.prog 23 (plainElem Tryd.prog 3) b r 64 D left cnt ∧ Below w.heap.size w wr ∧ w.heap.size < wr.heap.size ∧ L.length + cnt ≤ 64 ∧ wr.ownsRow (w.heap.size + 1) 41 2 v L.length (gv L)
    ∧ (∀ p ∈ L, f p.1 = some p.2 ∧ left (.int .u32 p.1) = false ∧ p.1 < 4294967296) ∧ (∀ k v, f k = some v → left (.int .u32 k) = false → ∃ p ∈ L, (p.1 : Int) = k ∧ p.2 = v) ∧ (L.map (·.1)).Nodup
def SrtG (M : List (Nat × Int)) : Prop := ∀ i j, i < j → j < M.length → (M.getD i (0, 0)).1 < (M.getD j (0, 0)).1
/-- what Grants answers -/
def GrP (w : World) (f : Int → Option Int) (e : Ending) (w' : World) : Prop :=
  ∃ ao cap M, e = .returned (.slice ao M.length cap) ∧ M.length ≤ 64 ∧ GRd w' ao M w'.heap.size ∧ SrtG M ∧ (∀ p, p ∈ M ↔ f p.1 = some p.2) ∧ (∀ p ∈ M, p.1 < 4294967296) ∧ Below w.heap.size w w'
theorem srt_of {L M : List (Nat × Int)} (hp : M.Perm L) (hn : (L.map (·.1)).Nodup) (hs : ∀ i j, i < j → j < M.length → (M.getD i (0, 0)).1 ≤ (M.getD j (0, 0)).1) : SrtG M := by
  intro i j hij hj
  have h1 := hs i j hij hj
  have h2 : (M.map (·.1)).Nodup := (hp.map _).nodup_iff.2 hn
  have h3 : (M.getD i (0, 0)).1 ≠ (M.getD j (0, 0)).1 := by
    intro e
    have hi : i < M.length := by omega
    have e1 : (M.map (·.1))[i]'(by simpa using hi) = (M.map (·.1))[j]'(by simpa using hj) := by
      simpa [List.getD, List.getElem?_eq_getElem hi, List.getElem?_eq_getElem hj] using e
    exact List.pairwise_iff_getElem.1 h2 i j (by simpa using hi) (by simpa using hj) hij e1
  omega
set_option maxHeartbeats 2000000 in
theorem grants_any (g : Nat) (f : Int → Option Int) (w : World) (h : GtS w g f) :
    Calls Tryd.prog 12 #[.pointer (some ⟨g, 0, none⟩)] w (GrP w f) := by
  have hM := gmade_any g f w h
  obtain ⟨b, h1, h2, h3, h4, D, hown, hF⟩ := h
  have hsz := hown.size_le
  obtain ⟨i0, hi, hz0, hz1, hz2⟩ := info_parts Tryd.infoG
  go_enter Tryd.func12, Tryd.ntmps12
  go_wp2_with (first
    | (go_at_call 24; with_reducible refine hM.mono ?_; rintro e wq ⟨rfl, hq⟩; subst wq)
    | (at_range; refine wpList_range_own _ rfl _ 29 rfl 23 3 gKey Tryd.underlying29 _ b 64 D rfl hown ?_; intro w0 hrg0 hg0 hs0))
  go_frame
  have hb0 : Below w.heap.size w w0 := (Below.refl _ _).grown hg0 (Nat.le_refl _) (fun k e => by cases e)
  have hlt0 : w.heap.size < w0.heap.size := by omega
  clear hs0
  go_loopw [3, 14] (fun v _ wr => ColS w b w.heap.size D f v wr) (fun _ _ wr => wr.rangeLeft b w.heap.size)
  case atStart =>
    refine ⟨_, _, [], hrg0, hb0, hlt0, by simpa using hsz, World.ownsRow_nil _ _ _ _, by simp, fun k v hf hl => ?_, by simp⟩
    rw [hF.1, hf] at hl
    cases hl
  case round =>
    obtain ⟨left, cnt, L, hrg, hbr, hsr, hcl, howL, hmem, hall, hnd⟩ := hrel
    go_wp2_with (at_next; refine wpList_next_ranges_ii _ rfl _ rfl 23 3 .u32 .i64 gKey Tryd.underlying23 Tryd.underlying3 b w.heap.size 64 D left cnt rfl hrg ?_ ?_)
    · intro hc0 hl0
      clear hc0
      have hmem2 : ∀ p, p ∈ L ↔ f p.1 = some p.2 := fun p => ⟨fun h => (hmem p h).1, fun h => by
        obtain ⟨q, hq, e1, e2⟩ := hall _ _ h (hl0 _)
        have : q = p := by cases q; cases p; simp only at e1 e2; subst e2; congr; omega
        exact this ▸ hq⟩
      have HM := ghid hmem2
      have HL := ghid (fun p hp => (hmem p hp).2.2)
      have HN := ghid hnd
      clear hmem hall hnd hmem2 hl0 hrg
      by_cases hl : L.length = 0
      · have hL : L = [] := List.length_eq_zero_iff.1 hl
        subst hL
        obtain ⟨ao, cap, rfl, hrd⟩ := gown_reads howL
        have hS := sort_none ao cap (.func (.func 31) #[] #[]) wr
        simp only [List.length_nil] at hS ⊢
        go_wp2_with (go_at_call 30; with_reducible refine hS.mono ?_; rintro e wq ⟨rfl, hq⟩; subst wq)
        go_ret
        exact ⟨ao, cap, [], rfl, by simp, hrd, fun i j _ h => by simp at h, HM.out, by simp, hbr⟩
      · obtain ⟨g1, cap, rfl, -⟩ := gown_form howL (by omega)
        have hS := gsort_any g1 cap w.heap.size L wr (by omega) (by omega) (gown_base howL (by omega))
        have hg1 := (howL.lt g1 rfl).1
        go_wp2_with (go_at_call 30; with_reducible refine hS.mono ?_; rintro e wz ⟨rfl, HZ⟩)
        obtain ⟨M, hp, hs, hc, hbz, hgz⟩ := HZ
        go_ret
        have hlen : L.length = M.length := hp.length_eq.symm
        refine ⟨some ⟨g1, 0, none⟩, cap, M, by rw [← hlen]; rfl, by omega, fun _ => ⟨g1, 0, rfl, hgz, hc⟩, srt_of hp HN.out hs, fun p => hp.mem_iff.trans (HM.out p), fun p h => HL.out p (hp.mem_iff.1 h), hbr.trans hbz⟩
    · intro x c w1 cnt1 hwx hwc hlx hat hrg1 hlt hg1 hs1 hen
      have hb1 : Below w.heap.size w w1 := hbr.grown hg1 hbr.size (fun k e => by cases e; exact Nat.le_refl _)
      have hfx := hF.atAll hat
      have hs1' : w.heap.size < w1.heap.size := by omega
      have hne : ∀ k, Value.ownBlock u3 = some k → w.heap.size + 1 ≤ k := fun k e => (howL.lt k e).1
      have how1 := howL.kept hg1 (keptNe fun k e => by have := hne k e; omega)
      obtain ⟨n, rfl, hn⟩ : ∃ n : Nat, x = n ∧ n < 4294967296 := by
        have h1 : IntKind.u32.min = 0 := rfl
        have h2 : IntKind.u32.max = 4294967295 := rfl
        simp only [Lit.wf, Bool.and_eq_true, decide_eq_true_eq] at hwx
        exact ⟨x.toNat, by omega, by omega⟩
      clear hs1
      go_wp2_with (at_builtin; refine wpList_append_own _ rfl _ _ 22 rfl (w.heap.size + 1) 41 i0 (.agg #[.int .u32 0, .int .i64 0]) 2 16 Tryd.underlying22 hi hz0 hz1 hz2 rfl (by decide) _ _ _ rfl (how1.alloc _) ⟨_, 0, none⟩ 1 1 [.int .u32 (n : Nat), .int .i64 c] rfl rfl (cell_two_new _ _ _ _) one2 (by unfold maxLen; omega) (by omega) (by simp; omega) ?_; intro v' w2 own2 hg2 _)
      have R2 : Below w.heap.size w w2 := (hb1.alloc hb1.size _).grown hg2 (by have := hb1.size; simp; omega) (fun j e => by have := hne j e; omega)
      have own3 := own_snocG (n := n) (a := c) (by simpa using own2)
      have hsz2 := hg2.size
      simp at hsz2
      have hrg2 := (hrg1.alloc _).kept hg2 (fun e => by have := hne _ e.symm; omega) (fun e => by have := hne _ e.symm; omega)
      clear own2 hg2
      go_wp2
      go_roundw
      case rel =>
        refine ⟨_, cnt1, L ++ [(n, c)], hrg2, R2, by omega, by simp; omega, own3, ?_, ?_, ?_⟩
        · intro p hp
          rcases List.mem_append.1 hp with hp | hp
          · obtain ⟨p1, p2, p3⟩ := hmem p hp
            exact ⟨p1, by simp [p2], p3⟩
          · simp at hp; subst hp
            exact ⟨hfx, by simp [WideAt.sameKey_self (a := .int .u32 n) trivial], hn⟩
        · intro k v hf hl
          by_cases hk : k = n
          · subst hk
            rw [hfx] at hf; cases hf
            exact ⟨(n, c), by simp, rfl, rfl⟩
          · have hne := Maps.sameKey_ne (lit_ne hk)
            rw [hne] at hl
            obtain ⟨p, p1, p2, p3⟩ := hall k v hf (by simpa using hl)
            exact ⟨p, by simp [p1], p2, p3⟩
        · rw [List.map_append, List.nodup_append]
          refine ⟨hnd, by simp, ?_⟩
          intro a ha b' hb' e
          simp at hb'
          subst hb' e
          obtain ⟨p, hp, e⟩ := List.mem_map.1 ha
          have := (hmem p hp).2.1
          rw [e] at this
          rw [this] at hlx; cases hlx
      case measure => rw [hrg2.left_eq, hrg.left_eq]; omega
end Go.Proofs.YtcmfephbhbgoiaaDoor
