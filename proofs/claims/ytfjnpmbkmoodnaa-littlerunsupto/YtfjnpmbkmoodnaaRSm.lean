import Derived.Test.YtfjnpmbkmoodnaaLRunW
import Derived.Test.YtfjnpmbkmoodnaaLSame
namespace Go.Proofs.Ytfjnpmbkmoodnaa
open Go.RowKit
set_option maxRecDepth 100000

set_option maxHeartbeats 2000000 in
theorem sameR_any (ao bo : Option Addr) (ca cb : Nat) (R : List Rn) (w : World) (hn : R.length ≤ 140737488355328) (hl : ∀ k, k < R.length → (R.getD k (0, [])).2.length ≤ 140737488355328) (ha : RunsR w ao R w.heap.size) (hr : RunsR w bo R w.heap.size) :
    Calls Try.prog 14 #[.slice ao R.length ca, .slice bo R.length cb] w fun e w' => e = .returned (.bool true) ∧ ∃ m, w' = w.drewN m := by
  have HA : Hid (RunsR w ao R w.heap.size) := ha
  have HR : Hid (RunsR w bo R w.heap.size) := hr
  have HL : Hid (∀ k, k < R.length → (R.getD k (0, [])).2.length ≤ 140737488355328) := hl
  clear ha hr hl
  go_enter Try.func14, Try.ntmps14
  go_wp2_with fail
  go_loopw [5] (fun i wr => ∃ k m : Nat, k ≤ R.length ∧ i = .int .i64 k ∧ wr = w.drewN m) (fun i _ => R.length - (intOf i).toNat)
  case atStart => exact ⟨0, 0, Nat.zero_le _, rfl, rfl⟩
  case round =>
    obtain ⟨k, m, hk, rfl, hw2⟩ := hrel
    have HW2 : Hid (wr = w.drewN m) := hw2
    by_cases hlt : k < R.length
    · obtain ⟨b, off, rfl, hbl, hc⟩ := HA.out (by omega)
      obtain ⟨b2, off2, rfl, hbl2, hc2⟩ := HR.out (by omega)
      obtain ⟨c0, sa, sc, c1, hr1⟩ := hc k hlt
      obtain ⟨d0, ta, tc, d1, hr2⟩ := hc2 k hlt
      have hlk := HL.out k hlt
      have hkI : (k : Int) < (R.length : Int) := by omega
      generalize R.getD k (0, []) = r at *
      have HS : Hid (∀ q, Calls Try.prog 19 #[.slice sa r.2.length sc, .slice ta r.2.length tc] (wr.drewN q) fun e w' => e = .returned (.bool true) ∧ ∃ m, w' = (wr.drewN q).drewN m) := fun q => by
        have := same_any sa ta sc tc r.2 r.2 (wr.drewN q) (by omega) (by rw [hw2]; exact hr1.2.2) (by rw [hw2]; exact hr2.2.2)
        rwa [decide_eq_true rfl] at this
      have x0 : wr.cell? ⟨b, off + k * 2, none⟩ = some (.int .u32 r.1) := by rw [hw2]; exact c0
      have x1 : wr.cell? ⟨b, off + k * 2 + 1, none⟩ = some (.slice sa r.2.length sc) := by rw [hw2]; exact c1
      have y0 : wr.cell? ⟨b2, off2 + k * 2, none⟩ = some (.int .u32 r.1) := by rw [hw2]; exact d0
      have y1 : wr.cell? ⟨b2, off2 + k * 2 + 1, none⟩ = some (.slice ta r.2.length tc) := by rw [hw2]; exact d1
      clear hc hc2 c0 c1 d0 d1 hr1 hr2 hw2
      go_wp2_with fail
      go_quiet ((go_at_call 19; exact Calls.quiet_of (HS.out _)))
      go_wp2_with fail
      go_roundw
      case rel => exact ⟨k + 1, _, by omega, by go_num, by rw [HW2.out, World.drewN_drewN]⟩
      case measure => simp [intOf]; omega
    · have hkI : ¬ (k : Int) < (R.length : Int) := by omega
      clear hw2
      go_wp2_with fail
      go_ret
      exact ⟨rfl, _, HW2.out⟩
end Go.Proofs.Ytfjnpmbkmoodnaa
