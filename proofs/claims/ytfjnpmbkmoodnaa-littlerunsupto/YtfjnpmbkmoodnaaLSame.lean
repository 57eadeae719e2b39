import Derived.Test.YtfjnpmbkmoodnaaLMark
namespace Go.Proofs.Ytfjnpmbkmoodnaa
open Go.RowKit
set_option maxRecDepth 100000

theorem take_ne {xs ys : List Int} {k : Nat} (h : xs.getD k 0 ≠ ys.getD k 0) : xs ≠ ys := by
  intro e; subst e; exact h rfl

set_option maxRecDepth 100000 in
set_option maxHeartbeats 2000000 in
theorem same_any (ao bo : Option Addr) (ca cb : Nat) (xs ys : List Int) (w : World) (hn : xs.length ≤ 140737488355328) (ha : Reads w ao xs w.heap.size) (hr : Reads w bo ys w.heap.size) :
    Calls Try.prog 19 #[.slice ao xs.length ca, .slice bo ys.length cb] w fun e w' => e = .returned (.bool (decide (xs = ys))) ∧ ∃ m, w' = w.drewN m := by
  by_cases hl : xs.length = ys.length
  · have hlI : (xs.length : Int) = (ys.length : Int) := by omega
    go_enter Try.func19, Try.ntmps19
    go_wp2
    go_loopw [5] (fun i wr => ∃ k m : Nat, k ≤ xs.length ∧ i = .int .i64 k ∧ wr = w.drewN m ∧ xs.take k = ys.take k)
      (fun i _ => xs.length - (intOf i).toNat)
    case atStart => exact ⟨0, 0, Nat.zero_le _, rfl, rfl, rfl⟩
    case round =>
      obtain ⟨k, m, hk, rfl, hw2, hpre⟩ := hrel
      have HP : Hid (xs.take k = ys.take k) := hpre
      clear hpre
      by_cases hlt : k < xs.length
      · obtain ⟨b, off, rfl, hbl, hc⟩ := hr (by omega)
        obtain ⟨b2, off2, rfl, hbl2, hc2⟩ := ha (by omega)
        have hck : wr.cell? ⟨b, off + k, none⟩ = some (.int .u8 (ys.getD k 0)) := by rw [hw2]; exact hc k (by omega)
        have hck2 : wr.cell? ⟨b2, off2 + k, none⟩ = some (.int .u8 (xs.getD k 0)) := by rw [hw2]; exact hc2 k hlt
        clear hc hc2
        have HW2 : Hid (wr = w.drewN m) := hw2
        clear hw2
        have hlt' : (k : Int) < (xs.length : Int) := by omega
        have hlt'' : (k : Int) < (ys.length : Int) := by omega
        have HT1 : Hid (xs.take (k + 1) = xs.take k ++ [xs.getD k 0]) := take_snoc xs k hlt
        have HT2 : Hid (ys.take (k + 1) = ys.take k ++ [ys.getD k 0]) := take_snoc ys k (by omega)
        by_cases hcc : xs.getD k 0 = ys.getD k 0
        · rw [hcc] at hck2 HT1
          generalize ys.getD k 0 = c at hck hck2 HT1 HT2
          clear hcc
          go_wp2
          go_quiet (fail)
          go_wp2
          go_roundw
          case rel => exact ⟨k + 1, _, by omega, by go_num, by rw [HW2.out, World.drewN_drewN], by rw [HT1.out, HT2.out, HP.out]⟩
          case measure => simp [intOf]; omega
        · have HN : Hid (decide (xs = ys) = false) := decide_eq_false (take_ne hcc)
          generalize ys.getD k 0 = c at hck hcc
          generalize xs.getD k 0 = c2 at hck2 hcc
          clear HT1 HT2 HP
          have hbe : (c2 != c) = true := by simpa using hcc
          go_wp2
          go_quiet (fail)
          go_wp2
          go_ret
          exact ⟨by rw [HN.out]; rfl, _, by rw [HW2.out, World.drewN_drewN]⟩
      · have HN : Hid (decide (xs = ys) = true) := by
          have e1 := HP.out
          rw [List.take_of_length_le (by omega), List.take_of_length_le (by omega)] at e1
          exact decide_eq_true e1
        have HW2 : Hid (wr = w.drewN m) := hw2
        clear hw2 HP
        go_wp2
        go_ret
        exact ⟨by rw [HN.out]; rfl, _, HW2.out⟩
  · have hlI : ¬ (xs.length : Int) = (ys.length : Int) := by omega
    have HN : Hid (decide (xs = ys) = false) := decide_eq_false (fun e => hl (by rw [e]))
    go_enter Try.func19, Try.ntmps19
    go_wp2
    go_ret
    exact ⟨by rw [HN.out]; rfl, 0, rfl⟩
end Go.Proofs.Ytfjnpmbkmoodnaa
