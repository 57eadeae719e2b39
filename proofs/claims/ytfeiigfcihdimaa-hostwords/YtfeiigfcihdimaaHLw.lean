import Derived.Test.YtfeiigfcihdimaaHRg
import Derived.Test.YtfeiigfcihdimaaHSg
import Derived.Test.YtfeiigfcihdimaaLApG
namespace Go.Proofs.Ytfeiigfcihdimaa
open Go.RowKit
set_option maxRecDepth 100000
theorem hby_in (n : Nat) : 16 ≤ n → n ≤ 39 → hby (hwd n) = n := fun h1 h2 => by
  have : n = 16 ∨ n = 17 ∨ n = 18 ∨ n = 19 ∨ n = 20 ∨ n = 21 ∨ n = 22 ∨ n = 23 ∨ n = 24 ∨ n = 25 ∨ n = 26 ∨ n = 27 ∨ n = 28 ∨ n = 29 ∨ n = 30 ∨ n = 31 ∨ n = 32 ∨ n = 33 ∨ n = 34 ∨ n = 35 ∨ n = 36 ∨ n = 37 ∨ n = 38 ∨ n = 39 := by omega
  rcases this with rfl | rfl | rfl | rfl | rfl | rfl | rfl | rfl | rfl | rfl | rfl | rfl | rfl | rfl | rfl | rfl | rfl | rfl | rfl | rfl | rfl | rfl | rfl | rfl
  all_goals (show _ = _; decide +kernel)
theorem hby_none : hby ⟨#[]⟩ = 0 := by decide +kernel
theorem same24 (ao bo : Option Addr) (ca cb : Nat) (w : World) (ha : GRd w ao (hgs 24) w.heap.size) (hb : GRd w bo (hgs 24) w.heap.size) :
    Calls Try.prog 9 #[.slice ao 24 ca, .slice bo 24 cb] w fun e w' => e = .returned (.bool true) ∧ Below w.heap.size w w' := by
  have := sameg_any ao bo ca cb (hgs 24) (hgs 24) w (by rw [hgs_len]; omega) ha hb
  rw [hgs_len, decide_eq_true rfl] at this
  exact this.mono fun e w' ⟨h1, m, h2⟩ => ⟨h1, by rw [h2]; exact below_drewN (Below.refl _ _) m⟩
abbrev Gow (w W : World) (v : Value) : Prop := W.ownsRow w.heap.size 37 2 v 24 (gv (hgs 24))
/-- three lists of grants in memory -/
structure H3 (w W : World) (va vb vc : Value) : Prop where
  bel : Below w.heap.size w W
  a : Gow w W va
  b : Gow w W vb
  c : Gow w W vc
  ab : va.ownBlock ≠ vb.ownBlock
theorem gow_some {w W : World} {v : Value} (h : Gow w W v) : ∃ g cap, v = .slice (some ⟨g, 0, none⟩) 24 cap := by
  obtain ⟨g, c, e, _⟩ := own_form h (by omega)
  exact ⟨g, c, e⟩
theorem gow_rd {w W : World} {ao : Option Addr} {cap : Nat} (h : Gow w W (.slice ao 24 cap)) : GRd W ao (hgs 24) W.heap.size := by
  have h2 : W.ownsRow w.heap.size 37 2 (.slice ao 24 cap) (hgs 24).length (gv (hgs 24)) := by rw [hgs_len]; exact h
  obtain ⟨a2, c2, e, hr⟩ := gown_reads h2
  cases e
  exact hr
theorem H3.below {w W W' : World} {va vb vc : Value} (h : H3 w W va vb vc) (hb : Below W.heap.size W W') : H3 w W' va vb vc :=
  ⟨h.bel.trans (hb.mono h.bel.size), below_own h.a hb, below_own h.b hb, below_own h.c hb, h.ab⟩
theorem h3_mk {w wa wb wc : World} {va vb vc : Value} (oa : Gow w wa va) (ba : Below w.heap.size w wa) (ob : Gow wa wb vb) (bb : Below wa.heap.size wa wb) (oc : Gow wb wc vc) (bc : Below wb.heap.size wb wc) : H3 w wc va vb vc := by
  refine ⟨ba.trans ((bb.trans (bc.mono bb.size)).mono ba.size), below_own (below_own oa bb) bc, own_low (below_own ob bc) ba.size, own_low oc (Nat.le_trans ba.size bb.size), ?_⟩
  obtain ⟨g, c, rfl⟩ := gow_some oa
  obtain ⟨g2, c2, rfl⟩ := gow_some ob
  have h1 := (oa.lt g rfl).2
  have h2 := (ob.lt g2 rfl).1
  intro e
  have : g = g2 := by simpa [Value.ownBlock] using e
  omega
theorem apart24 {w W : World} {va vb vc : Value} (h : H3 w W va vb vc) :
    Calls Try.prog 10 #[.slice (some ⟨W.heap.size, 0, none⟩) 2 2] (W.alloc (.cells #[va, vb] 23)) fun e w' => e = .returned (.bool true) ∧ Below w.heap.size w w' := by
  have hrow := World.ownsRow_lit (base := w.heap.size) (e := 23) (size := 1) W #[va, vb] 2 h.bel.size (by unfold maxLen; omega) rfl
  let vals : Nat → Value := fun i => if i = 0 then va else vb
  have hO : OwnG (W.alloc (.cells #[va, vb] 23)) w.heap.size (some ⟨W.heap.size, 0, none⟩) 2 2 vals (fun _ => hgs 24) := by
    refine ⟨hrow, fun i hi => ?_, fun i j hi hj hne => ?_⟩
    · show World.ownsRow _ _ _ _ (if i = 0 then va else vb) (hgs 24).length _
      rw [hgs_len]
      by_cases h0 : i = 0
      · rw [if_pos h0]; exact h.a.alloc _
      · rw [if_neg h0]; exact h.b.alloc _
    · right
      show (if i = 0 then va else vb).ownBlock ≠ (if j = 0 then va else vb).ownBlock
      by_cases h0 : i = 0
      · rw [if_pos h0, if_neg (by omega)]; exact h.ab
      · rw [if_neg h0, if_pos (by omega)]; exact h.ab.symm
  refine (apartG_any (some ⟨W.heap.size, 0, none⟩) 2 2 w.heap.size vals (fun _ => hgs 24) _ (by omega) (fun _ _ => by show (hgs 24).length ≤ _; rw [hgs_len]; omega) (by simp; have := h.bel.size; omega) hO).mono fun e w' ⟨h1, h2⟩ => ⟨h1, ?_⟩
  have hb0 : Below w.heap.size w (W.alloc (.cells #[va, vb] 23)) := h.bel.alloc h.bel.size _
  refine hb0.trans (h2.below hb0.size fun i b hi hv => ?_)
  have hv : (if i = 0 then va else vb).ownBlock = some b := hv
  by_cases h0 : i = 0
  · rw [if_pos h0] at hv; exact (h.a.lt b hv).1
  · rw [if_neg h0] at hv; exact (h.b.lt b hv).1
theorem hgB {w W W' : World} (h : Below w.heap.size w W) (hb : Below W.heap.size W W') : Below w.heap.size w W' := h.trans (hb.mono h.size)
set_option maxHeartbeats 4000000 in
theorem hostwords_any (n : Nat) (s : ByteArray) (w : World) (hn : n < 4294967296) : Calls Try.prog 3 #[.int .u32 n, .string s] w fun e w' => e = .returned (.bool true) ∧ Below w.heap.size w w' := by
  have HG := ghid hgrants_any
  have HRG := ghid rgrants_any
  have HB1 := ghid (fun W => hbyword_any s W)
  have HB2 := ghid (fun W => rbyword_any s W)
  have HW := ghid (fun W => hword_any n W hn)
  have HRW := ghid (fun W => rword_any n W hn)
  have HB3 := ghid (fun W => hbyword_any (hwd n) W)
  have HS := ghid (same24)
  have hcase : (((16 : Int) ≤ n ∧ (n : Int) ≤ 39 ∧ hby (hwd n) = n) ∨ ((n : Int) < 16 ∧ hby (hwd n) = 0) ∨ ((16 : Int) ≤ n ∧ (39 : Int) < n ∧ hby (hwd n) = 0)) := by
    by_cases h1 : n < 16
    · right; left; exact ⟨by omega, by rw [hwd_out n (.inl h1)]; exact hby_none⟩
    by_cases h2 : 39 < n
    · right; right; exact ⟨by omega, by omega, by rw [hwd_out n (.inr h2)]; exact hby_none⟩
    · left; exact ⟨by omega, by omega, hby_in n (by omega) (by omega)⟩
  generalize hwd n = t at *
  generalize hby s = bs at *
  rcases hcase with ⟨c1, c2, c3⟩ | ⟨c1, c3⟩ | ⟨c1, c2, c3⟩
  · have HB3 : Hid (∀ W : World, Calls Try.prog 6 #[.string t] W fun e w' => e = .returned (.tuple #[.int .u32 n, .bool true]) ∧ Below W.heap.size W w') := by
      have h := HB3.out
      have e : (n == 0) = false := by rw [beq_eq_false_iff_ne]; omega
      rw [c3, e] at h
      exact h
    clear c3
    go_enter Try.func3, Try.ntmps3
    go_wp2_with (first
      | (go_at_call 4; refine (HG.out w).mono ?_; rintro e wa ⟨va, rfl, oa, ba⟩; have HA := ghid (And.intro oa ba); have HG2 := ghid (hgrants_any wa); clear oa ba HG)
      | (go_at_call 4; refine HG2.out.mono ?_; rintro e wb ⟨vb, rfl, ob, bb⟩; have HB := ghid (And.intro ob bb); clear ob bb HG2)
      | (go_at_call 5; refine (HRG.out _).mono ?_; rintro e wc ⟨vc, rfl, oc, bc⟩; have H := ghid (h3_mk HA.out.1 HA.out.2 HB.out.1 HB.out.2 oc bc); clear oc bc HRG HA HB; obtain ⟨ga, ca, rfl⟩ := gow_some H.out.a; obtain ⟨gb, cb, rfl⟩ := gow_some H.out.b; obtain ⟨gc, cc, rfl⟩ := gow_some H.out.c)
      | (go_at_call 6; with_reducible refine (HB1.out _).mono ?_; rintro e wq ⟨rfl, hq⟩; have H := ghid (H.out.below hq); clear hq)
      | (go_at_call 6; with_reducible refine (HB3.out _).mono ?_; rintro e wq ⟨rfl, hq⟩; have H := ghid (H.out.below hq); clear hq)
      | (go_at_call 7; with_reducible refine (HB2.out _).mono ?_; rintro e wq ⟨rfl, hq⟩; have H := ghid (H.out.below hq); clear hq)
      | (go_at_call 9; with_reducible refine (HS.out _ _ _ _ _ (gow_rd H.out.a) (gow_rd H.out.c)).mono ?_; rintro e wq ⟨rfl, hq⟩; have H := ghid (H.out.below hq); clear hq)
      | (go_at_call 9; with_reducible refine (HS.out _ _ _ _ _ (gow_rd H.out.b) (gow_rd H.out.c)).mono ?_; rintro e wq ⟨rfl, hq⟩; have H := ghid (H.out.below hq); clear hq)
      | (go_at_call 10; refine (apart24 H.out).mono ?_; rintro e wq ⟨rfl, hq⟩; have HBl := ghid hq; clear hq HB1 HB3)
      | (go_at_call 8; with_reducible refine (HW.out _).mono ?_; rintro e wq ⟨rfl, hq⟩; have HBl := ghid (hgB HBl.out hq); clear hq)
      | (go_at_call 8; with_reducible refine (HW.out _).mono ?_; rintro e wq ⟨rfl, hq⟩; have H := ghid (H.out.below hq); clear hq)
      | (go_at_call 11; with_reducible refine (HRW.out _).mono ?_; rintro e wq ⟨rfl, hq⟩; have HBl := ghid (hgB HBl.out hq); clear hq)
      | fail)
    go_ret
    exact ⟨rfl, HBl.out⟩
  · have HB3 : Hid (∀ W : World, Calls Try.prog 6 #[.string t] W fun e w' => e = .returned (.tuple #[.int .u32 0, .bool false]) ∧ Below W.heap.size W w') := by
      have h := HB3.out
      rw [c3] at h
      exact h

    clear c3
    go_enter Try.func3, Try.ntmps3
    go_wp2_with (first
      | (go_at_call 4; refine (HG.out w).mono ?_; rintro e wa ⟨va, rfl, oa, ba⟩; have HA := ghid (And.intro oa ba); have HG2 := ghid (hgrants_any wa); clear oa ba HG)
      | (go_at_call 4; refine HG2.out.mono ?_; rintro e wb ⟨vb, rfl, ob, bb⟩; have HB := ghid (And.intro ob bb); clear ob bb HG2)
      | (go_at_call 5; refine (HRG.out _).mono ?_; rintro e wc ⟨vc, rfl, oc, bc⟩; have H := ghid (h3_mk HA.out.1 HA.out.2 HB.out.1 HB.out.2 oc bc); clear oc bc HRG HA HB; obtain ⟨ga, ca, rfl⟩ := gow_some H.out.a; obtain ⟨gb, cb, rfl⟩ := gow_some H.out.b; obtain ⟨gc, cc, rfl⟩ := gow_some H.out.c)
      | (go_at_call 6; with_reducible refine (HB1.out _).mono ?_; rintro e wq ⟨rfl, hq⟩; have H := ghid (H.out.below hq); clear hq)
      | (go_at_call 6; with_reducible refine (HB3.out _).mono ?_; rintro e wq ⟨rfl, hq⟩; have H := ghid (H.out.below hq); clear hq)
      | (go_at_call 7; with_reducible refine (HB2.out _).mono ?_; rintro e wq ⟨rfl, hq⟩; have H := ghid (H.out.below hq); clear hq)
      | (go_at_call 9; with_reducible refine (HS.out _ _ _ _ _ (gow_rd H.out.a) (gow_rd H.out.c)).mono ?_; rintro e wq ⟨rfl, hq⟩; have H := ghid (H.out.below hq); clear hq)
      | (go_at_call 9; with_reducible refine (HS.out _ _ _ _ _ (gow_rd H.out.b) (gow_rd H.out.c)).mono ?_; rintro e wq ⟨rfl, hq⟩; have H := ghid (H.out.below hq); clear hq)
      | (go_at_call 10; refine (apart24 H.out).mono ?_; rintro e wq ⟨rfl, hq⟩; have HBl := ghid hq; clear hq HB1 HB3)
      | (go_at_call 8; with_reducible refine (HW.out _).mono ?_; rintro e wq ⟨rfl, hq⟩; have HBl := ghid (hgB HBl.out hq); clear hq)
      | (go_at_call 8; with_reducible refine (HW.out _).mono ?_; rintro e wq ⟨rfl, hq⟩; have H := ghid (H.out.below hq); clear hq)
      | (go_at_call 11; with_reducible refine (HRW.out _).mono ?_; rintro e wq ⟨rfl, hq⟩; have HBl := ghid (hgB HBl.out hq); clear hq)
      | fail)
    go_ret
    exact ⟨rfl, HBl.out⟩
  · have HB3 : Hid (∀ W : World, Calls Try.prog 6 #[.string t] W fun e w' => e = .returned (.tuple #[.int .u32 0, .bool false]) ∧ Below W.heap.size W w') := by
      have h := HB3.out
      rw [c3] at h
      exact h

    clear c3
    go_enter Try.func3, Try.ntmps3
    go_wp2_with (first
      | (go_at_call 4; refine (HG.out w).mono ?_; rintro e wa ⟨va, rfl, oa, ba⟩; have HA := ghid (And.intro oa ba); have HG2 := ghid (hgrants_any wa); clear oa ba HG)
      | (go_at_call 4; refine HG2.out.mono ?_; rintro e wb ⟨vb, rfl, ob, bb⟩; have HB := ghid (And.intro ob bb); clear ob bb HG2)
      | (go_at_call 5; refine (HRG.out _).mono ?_; rintro e wc ⟨vc, rfl, oc, bc⟩; have H := ghid (h3_mk HA.out.1 HA.out.2 HB.out.1 HB.out.2 oc bc); clear oc bc HRG HA HB; obtain ⟨ga, ca, rfl⟩ := gow_some H.out.a; obtain ⟨gb, cb, rfl⟩ := gow_some H.out.b; obtain ⟨gc, cc, rfl⟩ := gow_some H.out.c)
      | (go_at_call 6; with_reducible refine (HB1.out _).mono ?_; rintro e wq ⟨rfl, hq⟩; have H := ghid (H.out.below hq); clear hq)
      | (go_at_call 6; with_reducible refine (HB3.out _).mono ?_; rintro e wq ⟨rfl, hq⟩; have H := ghid (H.out.below hq); clear hq)
      | (go_at_call 7; with_reducible refine (HB2.out _).mono ?_; rintro e wq ⟨rfl, hq⟩; have H := ghid (H.out.below hq); clear hq)
      | (go_at_call 9; with_reducible refine (HS.out _ _ _ _ _ (gow_rd H.out.a) (gow_rd H.out.c)).mono ?_; rintro e wq ⟨rfl, hq⟩; have H := ghid (H.out.below hq); clear hq)
      | (go_at_call 9; with_reducible refine (HS.out _ _ _ _ _ (gow_rd H.out.b) (gow_rd H.out.c)).mono ?_; rintro e wq ⟨rfl, hq⟩; have H := ghid (H.out.below hq); clear hq)
      | (go_at_call 10; refine (apart24 H.out).mono ?_; rintro e wq ⟨rfl, hq⟩; have HBl := ghid hq; clear hq HB1 HB3)
      | (go_at_call 8; with_reducible refine (HW.out _).mono ?_; rintro e wq ⟨rfl, hq⟩; have HBl := ghid (hgB HBl.out hq); clear hq)
      | (go_at_call 8; with_reducible refine (HW.out _).mono ?_; rintro e wq ⟨rfl, hq⟩; have H := ghid (H.out.below hq); clear hq)
      | (go_at_call 11; with_reducible refine (HRW.out _).mono ?_; rintro e wq ⟨rfl, hq⟩; have HBl := ghid (hgB HBl.out hq); clear hq)
      | fail)
    go_ret
    exact ⟨by show Ending.returned (Value.bool (!decide ((n : Int) ≤ 39))) = _; rw [decide_eq_false (Int.not_le.2 c2)]; rfl, HBl.out⟩
end Go.Proofs.Ytfeiigfcihdimaa
