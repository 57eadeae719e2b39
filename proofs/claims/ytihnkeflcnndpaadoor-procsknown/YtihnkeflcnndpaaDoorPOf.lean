import Derived.Test.YtihnkeflcnndpaaDoorPFa
import Derived.Test.YtihnkeflcnndpaaDoorPFm
import Derived.Test.YtihnkeflcnndpaaDoorPSea
namespace Go.Proofs.YtihnkeflcnndpaaDoor
open Go.RowKit Go.WideShapes Go.Shelf
set_option maxRecDepth 100000

theorem of1_any (Bi Bl x h cap : Nat) (ao : Option Addr) (Ps : List (Nat × Nat × Nat)) (w : World) (hi : w.cell? ⟨Bi, 0, none⟩ = some (.int .u32 x)) (hl : w.cell? ⟨Bl, 0, none⟩ = some (.slice ao Ps.length cap)) (hr : PRd w ao Ps w.heap.size) (hh : h < Ps.length) :
    Calls Tryd.prog 40 #[.int .i64 h, .pointer (some ⟨Bi, 0, none⟩), .pointer (some ⟨Bl, 0, none⟩)] w fun e w' => e = .returned (.bool (decide (x < (Ps.getD h (0, 0, 0)).2.1))) ∧ Below w.heap.size w w' := by
  obtain ⟨b, off, rfl, hb, hc⟩ := hr (by omega)
  have c1 := (hc h hh).2.1
  generalize (Ps.getD h (0, 0, 0)).2.1 = q at c1 ⊢
  have hI : (h : Int) < (Ps.length : Int) := by omega
  clear hc hr
  go_enter Tryd.func40, Tryd.ntmps40
  go_wp2
  go_quiet (fail)
  go_wp2
  go_ret
  exact ⟨by simp, below_drewN (Below.refl _ _) nq⟩
set_option maxHeartbeats 1000000 in
theorem pof_any {B pp p1 g1 p2 g2 n : Nat} {lv : Value} {L : List (Nat × Nat)} {A C : List Nat} (x : Nat) (w : World) (hL : L.length ≤ 16384) (hE : isEn L 0 = true) (h : PrS w B pp p1 g1 p2 g2 n lv (prs L (bgs L)) A C) :
    Calls Tryd.prog 14 #[.pointer (some ⟨pp, 0, none⟩), .int .u32 x] w fun e w' => e = .returned (.int .i64 (ofL L x)) ∧ Below w.heap.size w w' := by
  obtain ⟨ao, cap, rfl, hr⟩ := h.reads
  have hm : (prs L (bgs L)).length = (bgs L).length := prs_len _ _
  have hml : (bgs L).length ≤ 16384 := Nat.le_trans (els_le _ _) hL
  have HM := hidS (fun W hb => pheld_any pp _ W (h.below hb).c0 (h.below hb).c1)
  have HR : Hid (∀ W, Below w.heap.size w W → PRd W ao (prs L (bgs L)) w.heap.size) := hidS (fun W hb => hr.below hb)
  have HOf : Hid (∀ i : Nat, i ≤ (bgs L).length → (i = (bgs L).length ∨ decide (x < ((prs L (bgs L)).getD i (0, 0, 0)).2.1) = true) → (i = 0 ∨ decide (x < ((prs L (bgs L)).getD (i - 1) (0, 0, 0)).2.1) = false) → (if i = (bgs L).length then (-1 : Int) else (i : Int)) = ofL L x) := hidS (fun i hi h1 h2 => by
    refine of_eq hE hi ?_ ?_
    · rcases h1 with h1 | h1
      · exact .inl h1
      · by_cases he : i = (bgs L).length
        · exact .inl he
        · rw [prs_get L _ i (by omega)] at h1
          exact .inr (of_decide_eq_true h1)
    · rcases h2 with h2 | h2
      · exact .inl h2
      · by_cases he : i = 0
        · exact .inl he
        · rw [prs_get L _ (i - 1) (by omega)] at h2
          exact .inr (Nat.le_of_not_lt (of_decide_eq_false h2)))
  have HS : Hid (∀ (W : World) (Bi Bl : Nat), Below w.heap.size w W → Boxed W Bi 32 (.int .u32 x) → Boxed W Bl 71 (.slice ao (bgs L).length cap) → Calls Tryd.prog 39 #[.int .i64 ((bgs L).length : Nat), .func (.func 40) #[] #[.pointer (some ⟨Bi, 0, none⟩), .pointer (some ⟨Bl, 0, none⟩)]] W fun e w' => (∃ i : Nat, e = .returned (.int .i64 i) ∧ i ≤ (bgs L).length ∧ (i = (bgs L).length ∨ decide (x < ((prs L (bgs L)).getD i (0, 0, 0)).2.1) = true) ∧ (i = 0 ∨ decide (x < ((prs L (bgs L)).getD (i - 1) (0, 0, 0)).2.1) = false)) ∧ Below W.heap.size W w') := hidS (fun W Bi Bl hb b1 b2 =>
    search_any (bgs L).length 40 #[.pointer (some ⟨Bi, 0, none⟩), .pointer (some ⟨Bl, 0, none⟩)] (fun i => decide (x < ((prs L (bgs L)).getD i (0, 0, 0)).2.1)) W (by omega) (enters_of Tryd.func40 (by kernel_rfl) rfl) (fun hh hlt V hV => by
      have := of1_any Bi Bl x hh cap ao (prs L (bgs L)) V (box_thru hV b1).cell (by rw [hm]; exact (box_thru hV b2).cell) ((HR.out V (btP hb hV)).mono (btP hb hV).size) (by omega)
      exact this))
  rw [hm] at HM
  generalize hlen : (bgs L).length = m at HM HS HOf hml
  clear hr h hlen hm HR
  go_enter Tryd.func14, Tryd.ntmps14
  go_wp2_with (first | (go_at_call 38; refine (HM.out _ (belP (Below.refl _ _))).mono ?_; rintro e w2 ⟨rfl, hw2⟩; subst hw2) | (go_at_call 39; refine (HS.out _ _ _ (belP (belP (Below.refl _ _))) ((Boxed.new _ _ _).alloc _) (by have := Boxed.new (w.alloc (.cells #[.int .u32 (x : Int)] 32)) 71 (.slice ao m cap); rw [World.size_alloc] at this; exact this)).mono ?_; rintro e w2 ⟨⟨i, rfl, hi, h1, h2⟩, hw2⟩; have HI := hidS (HOf.out i hi h1 h2); clear h1 h2; have cL := (box_thru hw2 (by have := Boxed.new (w.alloc (.cells #[.int .u32 (x : Int)] 32)) 71 (.slice ao m cap); rw [World.size_alloc] at this; exact this)).cell))
  all_goals go_ret
  all_goals refine ⟨?_, btP (belP (belP (Below.refl _ _))) hw2⟩
  all_goals rw [← HI.out]
  · rename_i hq
    have : i = m := by have := eq_of_beq hq; omega
    rw [if_pos this]
    rfl
  · rename_i hq
    have : ¬ i = m := by have := ne_of_beq_false hq; omega
    rw [if_neg this]
    rfl
end Go.Proofs.YtihnkeflcnndpaaDoor
