import Derived.Test.YtfeiigfcihdimaaHGb
import Derived.BigQuiet
namespace Go.Proofs.Ytfeiigfcihdimaa
open Go.RowKit
set_option maxRecDepth 100000

theorem take_neg {xs ys : List (Nat × Int)} {k : Nat} (h : ¬ xs.getD k (0, 0) = ys.getD k (0, 0)) : ¬ xs = ys := by
  intro e; subst e; exact h rfl
set_option maxRecDepth 100000 in
set_option maxHeartbeats 2000000 in
theorem sameg_any (ao bo : Option Addr) (ca cb : Nat) (xs ys : List (Nat × Int)) (w : World) (hn : xs.length ≤ 140737488355328) (ha : GRd w ao xs w.heap.size) (hr : GRd w bo ys w.heap.size) :
    Calls Try.prog 9 #[.slice ao xs.length ca, .slice bo ys.length cb] w fun e w' => e = .returned (.bool (decide (xs = ys))) ∧ ∃ m, w' = w.drewN m := by
  by_cases hl : xs.length = ys.length
  · have hlI : (xs.length : Int) = (ys.length : Int) := by omega
    go_enter Try.func9, Try.ntmps9
    go_wp2
    go_loopw [5] (fun i wr => ∃ k m : Nat, k ≤ xs.length ∧ i = .int .i64 k ∧ wr = w.drewN m ∧ xs.take k = ys.take k)
      (fun i _ => xs.length - (intOf i).toNat)
    case atStart => exact ⟨0, 0, Nat.zero_le _, rfl, rfl, rfl⟩
    case round =>
      obtain ⟨k, m, hk, rfl, hw2, hpre⟩ := hrel
      have HP : Hid (xs.take k = ys.take k) := hpre
      clear hpre
      by_cases hlt : k < xs.length
      · obtain ⟨b, off, rfl, hbl, hc⟩ := hr (by omega)
        obtain ⟨b2, off2, rfl, hbl2, hc2⟩ := ha (by omega)
        obtain ⟨ck0, ck1⟩ := hc k (by omega)
        obtain ⟨dk0, dk1⟩ := hc2 k hlt
        have x0 : wr.cell? ⟨b, off + k * 2, none⟩ = some (.int .u32 (ys.getD k (0, 0)).1) := by rw [hw2]; exact ck0
        have x1 : wr.cell? ⟨b, off + k * 2 + 1, none⟩ = some (.int .i64 (ys.getD k (0, 0)).2) := by rw [hw2]; exact ck1
        have y0 : wr.cell? ⟨b2, off2 + k * 2, none⟩ = some (.int .u32 (xs.getD k (0, 0)).1) := by rw [hw2]; exact dk0
        have y1 : wr.cell? ⟨b2, off2 + k * 2 + 1, none⟩ = some (.int .i64 (xs.getD k (0, 0)).2) := by rw [hw2]; exact dk1
        clear hc hc2 ck0 ck1 dk0 dk1
        have HW2 : Hid (wr = w.drewN m) := hw2
        clear hw2
        have hlt' : (k : Int) < (xs.length : Int) := by omega
        have hlt'' : (k : Int) < (ys.length : Int) := by omega
        have HT1 : Hid (xs.take (k + 1) = xs.take k ++ [xs.getD k (0, 0)]) := take_snocG xs k hlt
        have HT2 : Hid (ys.take (k + 1) = ys.take k ++ [ys.getD k (0, 0)]) := take_snocG ys k (by omega)
        by_cases hcc : xs.getD k (0, 0) = ys.getD k (0, 0)
        · rw [hcc] at y0 y1 HT1
          generalize ys.getD k (0, 0) = c at x0 x1 y0 y1 HT1 HT2
          clear hcc
          go_wp2
          go_quiet (fail)
          go_wp2
          go_roundw
          case rel => exact ⟨k + 1, _, by omega, by go_num, by rw [HW2.out, World.drewN_drewN], by rw [HT1.out, HT2.out, HP.out]⟩
          case measure => simp [intOf]; omega
        · have HN : Hid (decide (xs = ys) = false) := decide_eq_false (take_neg hcc)
          clear HT1 HT2 HP
          generalize ys.getD k (0, 0) = c at x0 x1 hcc
          generalize xs.getD k (0, 0) = c2 at y0 y1 hcc
          obtain ⟨c0, c1⟩ := c
          obtain ⟨d0, d1⟩ := c2
          simp only [] at x0 x1 y0 y1
          by_cases h0 : d0 = c0
          · subst h0
            have h1 : ¬ d1 = c1 := fun e => hcc (by rw [e])
            have hbe : ((d1 : Int) == (c1 : Int)) = false := by rw [beq_eq_false_iff_ne]; omega
            have hbi : ¬ (d1 : Int) = (c1 : Int) := by omega
            clear hcc h1
            go_wp2
            go_quiet (fail)
            go_wp2
            go_ret
            exact ⟨by rw [HN.out]; rfl, _, by rw [HW2.out, World.drewN_drewN]⟩
          · have hbe : ((d0 : Int) == (c0 : Int)) = false := by rw [beq_eq_false_iff_ne]; omega
            have hbi : ¬ (d0 : Int) = (c0 : Int) := by omega
            clear hcc h0
            go_wp2
            go_quiet (fail)
            go_wp2
            go_ret
            exact ⟨by rw [HN.out]; rfl, _, by rw [HW2.out, World.drewN_drewN]⟩
      · have HN : Hid (decide (xs = ys) = true) := by
          have e1 := HP.out
          rw [List.take_of_length_le (by omega), List.take_of_length_le (by omega)] at e1
          exact decide_eq_true e1
        have HW2 : Hid (wr = w.drewN m) := hw2
        clear hw2 HP
        go_wp2
        go_ret
        exact ⟨by rw [HN.out]; rfl, _, HW2.out⟩
  · have HN : Hid (decide (xs = ys) = false) := decide_eq_false (fun e => hl (by rw [e]))
    have hlI : ¬ (xs.length : Int) = (ys.length : Int) := by omega
    clear hl ha hr
    go_enter Try.func9, Try.ntmps9
    go_wp2
    go_ret
    exact ⟨by rw [HN.out]; rfl, 0, rfl⟩
end Go.Proofs.Ytfeiigfcihdimaa
