import Derived.Test.YtahghghobibgdaaDoorCLNum
import Derived.Test.YtahghghobibgdaaDoorFDt
namespace Go.Proofs.YtahghghobibgdaaDoor
open Go.RowKit
set_option maxRecDepth 100000

theorem take_ne {xs ys : List Int} {k : Nat} (h : xs.getD k 0 ≠ ys.getD k 0) : xs ≠ ys := by
  intro e; subst e; exact h rfl

set_option maxRecDepth 100000 in
set_option maxHeartbeats 2000000 in
theorem samei_any (ao bo : Option Addr) (ca cb : Nat) (xs ys : List Int) (w : World) (hn : xs.length ≤ 140737488355328) (ha : ReadsK w .i64 ao xs w.heap.size) (hr : ReadsK w .i64 bo ys w.heap.size) :
    Calls Tryd.prog 13 #[.slice ao xs.length ca, .slice bo ys.length cb] w fun e w' => e = .returned (.bool (decide (xs = ys))) ∧ ∃ m, w' = w.drewN m := by
  by_cases hl : xs.length = ys.length
  · have hlI : (xs.length : Int) = (ys.length : Int) := by omega
    go_enter Tryd.func13, Tryd.ntmps13
    go_wp2
    go_loopw [5] (fun i wr => ∃ k m : Nat, k ≤ xs.length ∧ i = .int .i64 k ∧ wr = w.drewN m ∧ xs.take k = ys.take k)
      (fun i _ => xs.length - (intOf i).toNat)
    case atStart => exact ⟨0, 0, Nat.zero_le _, rfl, rfl, rfl⟩
    case round =>
      obtain ⟨k, m, hk, rfl, hw2, hpre⟩ := hrel
      have HP : Hid (xs.take k = ys.take k) := hpre
      clear hpre
      by_cases hlt : k < xs.length
      · obtain ⟨b, off, rfl, hbl, hc⟩ := hr (by omega)
        obtain ⟨b2, off2, rfl, hbl2, hc2⟩ := ha (by omega)
        have hck : wr.cell? ⟨b, off + k, none⟩ = some (.int .i64 (ys.getD k 0)) := by rw [hw2]; exact hc k (by omega)
        have hck2 : wr.cell? ⟨b2, off2 + k, none⟩ = some (.int .i64 (xs.getD k 0)) := by rw [hw2]; exact hc2 k hlt
        clear hc hc2
        have HW2 : Hid (wr = w.drewN m) := hw2
        clear hw2
        have hlt' : (k : Int) < (xs.length : Int) := by omega
        have hlt'' : (k : Int) < (ys.length : Int) := by omega
        have HT1 : Hid (xs.take (k + 1) = xs.take k ++ [xs.getD k 0]) := take_snoc xs k hlt
        have HT2 : Hid (ys.take (k + 1) = ys.take k ++ [ys.getD k 0]) := take_snoc ys k (by omega)
        by_cases hcc : xs.getD k 0 = ys.getD k 0
        · rw [hcc] at hck2 HT1
          generalize ys.getD k 0 = c at hck hck2 HT1 HT2
          clear hcc
          go_wp2
          go_quiet (fail)
          go_wp2
          go_roundw
          case rel => exact ⟨k + 1, _, by omega, by go_num, by rw [HW2.out, World.drewN_drewN], by rw [HT1.out, HT2.out, HP.out]⟩
          case measure => simp [intOf]; omega
        · have HN : Hid (decide (xs = ys) = false) := decide_eq_false (take_ne hcc)
          generalize ys.getD k 0 = c at hck hcc
          generalize xs.getD k 0 = c2 at hck2 hcc
          clear HT1 HT2 HP
          have hbe : (c2 != c) = true := by simpa using hcc
          go_wp2
          go_quiet (fail)
          go_wp2
          go_ret
          exact ⟨by rw [HN.out]; rfl, _, by rw [HW2.out, World.drewN_drewN]⟩
      · have HN : Hid (decide (xs = ys) = true) := by
          have e1 := HP.out
          rw [List.take_of_length_le (by omega), List.take_of_length_le (by omega)] at e1
          exact decide_eq_true e1
        have HW2 : Hid (wr = w.drewN m) := hw2
        clear hw2 HP
        go_wp2
        go_ret
        exact ⟨by rw [HN.out]; rfl, _, HW2.out⟩
  · have hlI : ¬ (xs.length : Int) = (ys.length : Int) := by omega
    have HN : Hid (decide (xs = ys) = false) := decide_eq_false (fun e => hl (by rw [e]))
    go_enter Tryd.func13, Tryd.ntmps13
    go_wp2
    go_ret
    exact ⟨by rw [HN.out]; rfl, 0, rfl⟩
end Go.Proofs.YtahghghobibgdaaDoor
namespace Go.Proofs.YtahghghobibgdaaDoor
open Go.RowKit Go.WideShapes Go.Shelf
set_option maxRecDepth 100000
/-- the code whose depths the document tells -/
abbrev fxL : List (Nat × Nat) := [(3, 4), (8, 7), (4, 4)]
theorem fxG : FdG fxL [] [] := fdG_of (by decide +kernel) (by decide +kernel) (by decide +kernel) (by decide +kernel) (by decide +kernel)
theorem fx_len : (bgs fxL).length = 1 := by decide +kernel
theorem fx_b0 : bAt fxL 0 = 0 := by decide +kernel
theorem fx_b1 : bAt fxL 1 = 3 := by decide +kernel
theorem fx_n0 : nxt fxL [] 0 = [1] := by decide +kernel
theorem fx_n1 : nxt fxL [] 1 = [2] := by decide +kernel
theorem fx_n2 : nxt fxL [] 2 = [] := by decide +kernel
theorem fxS : Sol fxL [] 0 [0, 0, 1] := by
  refine ⟨by rw [fx_b0]; rfl, fun i _ h2 _ => ?_⟩
  rw [fx_b1] at h2
  have : i = 0 ∨ i = 1 ∨ i = 2 := by omega
  rcases this with rfl | rfl | rfl
  · exact ⟨by decide +kernel, by rw [fx_n0]; decide +kernel⟩
  · exact ⟨by decide +kernel, by rw [fx_n1]; decide +kernel⟩
  · exact ⟨by decide +kernel, by rw [fx_n2]; decide +kernel⟩
theorem fx_res {D N : List Int} (h : DpK fxL [] D N (bgs fxL).length) : D = [0, 0, 1] ∧ N = [1] := by
  have hl := h.len
  have hn := h.nl
  have hf := h.fin 0 (by rw [fx_len]; decide)
  rw [fx_len] at hn
  have b0 := fx_b0
  have b1 : bAt fxL (0 + 1) = 3 := fx_b1
  have z0 := hf.sol.at0
  rw [b0] at z0
  have o0 := (hf.sol.ok 0 (by rw [b0]; omega) (by rw [b1]; omega) (by rw [z0]; decide)).2 1 (by rw [fx_n0]; simp)
  rw [z0] at o0
  have z1 : D.getD 1 (-1) = 0 := by rw [o0]; decide +kernel
  have o1 := (hf.sol.ok 1 (by rw [b0]; omega) (by rw [b1]; omega) (by rw [z1]; decide)).2 2 (by rw [fx_n1]; simp)
  rw [z1] at o1
  have z2 : D.getD 2 (-1) = 1 := by rw [o1]; decide +kernel
  have hD : D = [0, 0, 1] := by
    match D, hl, z0, z1, z2 with
    | [a, b, c], _, z0, z1, z2 =>
      simp at z0 z1 z2
      subst z0 z1 z2
      rfl
  refine ⟨hD, ?_⟩
  have le2 := (hf.le 2 (by rw [b0]; omega) (by rw [b1]; omega) (by rw [z2]; decide)).1
  rw [z2] at le2
  have ub := hf.ub 1 (by decide) (fun i _ h2 _ => by
    rw [b1] at h2
    have : i = 0 ∨ i = 1 ∨ i = 2 := by omega
    rcases this with rfl | rfl | rfl
    · rw [z0]; decide +kernel
    · rw [z1]; decide +kernel
    · rw [z2]; decide +kernel)
  match N, hn, le2, ub with
  | [a], _, le2, ub =>
    simp at le2 ub
    have : a = 1 := by omega
    rw [this]
theorem dp_reads {w : World} {B gd cp : Nat} {D : List Int} (h : DpW w B gd cp D) : ReadsK w .i64 (some ⟨gd, 0, none⟩) D w.heap.size := fun q => ⟨gd, 0, rfl, (h.lt gd rfl).2, fun j hj => by
  rw [Nat.zero_add, DpW.cell h hj]
  simp [hj]⟩
theorem nv_reads {w : World} {B : Nat} {nv : Value} {N : List Int} (h : w.ownsRow B 3 1 nv N.length (N.map fun z => Value.int .i64 z)) : ∃ a c, nv = .slice a N.length c ∧ ReadsK w .i64 a N w.heap.size := by
  rcases h.2 with ⟨e1, hz⟩ | ⟨g, cp, cur, e1, _⟩
  · exact ⟨none, 0, by rw [e1, hz], fun q => by omega⟩
  · subst e1
    exact ⟨_, _, rfl, dp_reads h⟩
theorem fixed_any (w : World) : Calls Tryd.prog 18 #[] w fun e w' => ∃ g, e = .returned (.slice (some ⟨g, 0, none⟩) 3 3) ∧ CRd w' (some ⟨g, 0, none⟩) fxL w'.heap.size ∧ Below w.heap.size w w' := by
  go_enter Tryd.func18, Tryd.ntmps18
  go_wp2
  go_ret
  refine ⟨_, rfl, crd_block (heap_alloc_new w _) fxL rfl, (Below.refl _ _).alloc (Nat.le_refl _) _⟩
theorem reads_block {w : World} {b : Nat} {cs : Array Value} {t : TypeId} {fr : Nat × Nat} (h : w.heap[b]? = some (.cells cs t fr)) (N : List Int) (hc : cs.toList = N.map fun z => Value.int .i64 z) : ReadsK w .i64 (some ⟨b, 0, none⟩) N w.heap.size := fun _ => ⟨b, 0, rfl, (Array.getElem?_eq_some_iff.1 h).1, fun j hj => by
  have e : cs[j]? = some (.int .i64 (N.getD j 0)) := by
    rw [← Array.getElem?_toList, hc]
    simp [hj]
  have := obj_cell h j
  rw [Nat.zero_add, this]
  exact e⟩
theorem readsUp {w w' : World} {k : IntKind} {a : Option Addr} {N : List Int} (h : ReadsK w k a N w.heap.size) (hb : Below w.heap.size w w') : ReadsK w' k a N w'.heap.size := fun q => by
  obtain ⟨b, off, e, hlt, hc⟩ := h q
  exact ⟨b, off, e, Nat.lt_of_lt_of_le hlt hb.size, fun j hj => (hb.cell hlt).trans (hc j hj)⟩
set_option maxHeartbeats 1000000 in
theorem lives_any (w : World) (hT : TabW w) (hp : 0 < w.heap.size) : Calls Tryd.prog 6 #[] w fun e w' => e = .returned (.bool true) ∧ Below w.heap.size w w' := by
  have HTb : Hid (∀ W, Below w.heap.size w W → TabW W ∧ 0 < W.heap.size) := hidS (fun W hW => ⟨hT.below hW hp, Nat.lt_of_lt_of_le hp hW.size⟩)
  clear hT hp
  go_enter Tryd.func6, Tryd.ntmps6
  go_wp2_with fail
  refine (fixed_any w).mono ?_
  rintro e w1 ⟨g, rfl, hC, hb1⟩
  have HD : Calls Tryd.prog 7 #[.slice (some ⟨g, 0, none⟩) 3 3, .slice none 0 0] w1 fun e w' => Below w1.heap.size w1 w' ∧ ∃ (gd cp : Nat) (a : Option Addr) (c : Nat), e = .returned (.tuple #[.slice (some ⟨gd, 0, none⟩) 3 cp, .slice a 1 c, .int .i64 0, .int .i64 0]) ∧ ReadsK w' .i64 (some ⟨gd, 0, none⟩) [0, 0, 1] w'.heap.size ∧ ReadsK w' .i64 a [1] w'.heap.size := by
    refine (fdepths_any (some ⟨g, 0, none⟩) none 3 0 fxL [] w1 (by decide) (by decide) (by unfold Wfc; decide) (by simp) hC (fun q => absurd q (by simp)) (HTb.out w1 hb1).1 (HTb.out w1 hb1).2).mono ?_
    rintro e w2 ⟨hb, ⟨i, x, rfl, hx, hB⟩ | ⟨_, i, x, rfl, _, k, hk, hno⟩ | ⟨_, gd, cp, nv, D, N, rfl, hD, hN, hK⟩⟩
    · exact absurd (fdG_not fxG hB) hx
    · rw [fx_len] at hk
      have : k = 0 := by omega
      rw [this] at hno
      exact absurd fxS (hno _)
    · obtain ⟨rfl, rfl⟩ := fx_res hK
      obtain ⟨a, c, rfl, hra⟩ := nv_reads hN
      exact ⟨hb, gd, cp, a, c, rfl, dp_reads hD, hra⟩
  have HF := hidS hb1
  clear hb1 hC HTb
  go_wp2_with fail
  refine HD.mono ?_
  rintro e w2 ⟨hb2, gd, cp, a, c, rfl, hr1, hr2⟩
  have hb3 : Below w2.heap.size w2 (w2.alloc (Obj.cells #[.int .i64 0, .int .i64 0, .int .i64 1] 3)) := (Below.refl _ _).alloc (Nat.le_refl _) _
  have HS := samei_any (some ⟨gd, 0, none⟩) (some ⟨w2.heap.size, 0, none⟩) cp 3 [0, 0, 1] [0, 0, 1] (w2.alloc (Obj.cells #[.int .i64 0, .int .i64 0, .int .i64 1] 3)) (by decide) (readsUp hr1 hb3) (reads_block (heap_alloc_new w2 _) [0, 0, 1] rfl)
  have HG := hidS (And.intro (btP HF.out hb2) (And.intro hb3 (readsUp hr2 hb3)))
  clear hb2 hr1 hr2 HD hb3
  simp only [show ([0, 0, 1] : List Int).length = 3 from rfl, decide_true] at HS
  go_wp2_with fail
  refine HS.mono ?_
  rintro e w3 ⟨rfl, m3, hw3⟩
  have hb34 : Below (w2.alloc (Obj.cells #[.int .i64 0, .int .i64 0, .int .i64 1] 3)).heap.size (w2.alloc (Obj.cells #[.int .i64 0, .int .i64 0, .int .i64 1] 3)) w3 := by rw [hw3]; exact below_drewN (Below.refl _ _) _
  have hr3 := readsUp HG.out.2.2 hb34
  have hb5 : Below w3.heap.size w3 (w3.alloc (Obj.cells #[.int .i64 1] 3)) := (Below.refl _ _).alloc (Nat.le_refl _) _
  have HS2 := samei_any a (some ⟨w3.heap.size, 0, none⟩) c 1 [1] [1] (w3.alloc (Obj.cells #[.int .i64 1] 3)) (by decide) (readsUp hr3 hb5) (reads_block (heap_alloc_new w3 _) [1] rfl)
  have HH := hidS (btP (btP HG.out.1 (btP HG.out.2.1 hb34)) hb5)
  clear hw3 HS hr3 hb34 hb5
  simp only [show ([1] : List Int).length = 1 from rfl, decide_true] at HS2
  go_wp2_with fail
  refine HS2.mono ?_
  rintro e w4 ⟨rfl, m4, hw4⟩
  go_wp2
  go_ret
  refine ⟨rfl, ?_⟩
  exact btP HH.out (below_drewN (Below.refl _ _) _)
end Go.Proofs.YtahghghobibgdaaDoor
