import Derived.Test.YtecbdjhhdhpmhaaRef
import Derived.Deep.QuietTactic
import Derived.BigQuiet
import Derived.WalkSmall
namespace Go.Proofs.Ytecbdjhhdhpmhaa
open Go.RowKit

theorem own_get {w1 : World} {B g n cap : Nat} {L : List Int} (h : w1.ownsRow B 5 1 (.slice (some ⟨g, 0, none⟩) n cap) n (bv L)) {i : Nat} (hi : i < L.length) : w1.cell? ⟨g, i, none⟩ = some (.int .u8 (L.getD i 0)) := by
  have hL : L.length = n := by have := h.1; rw [bv_len] at this; omega
  subst hL
  have := own_cell h hi
  rwa [Nat.zero_add] at this

set_option maxHeartbeats 1000000 in
theorem kept_any (ao : Option Addr) (cap : Nat) (zs : List Int) (g capF B : Nat) (w : World) (hn : zs.length ≤ 1048576) (hr : Reads w ao zs w.heap.size)
    (hown : w.ownsRow B 5 1 (.slice (some ⟨g, 0, none⟩) (zs.length + 64) capF) (zs.length + 64) (bv (zs ++ marks 0 64))) :
    Calls Try.prog 10 #[.slice (some ⟨g, 0, none⟩) (zs.length + 64) capF, .slice ao zs.length cap] w fun e w' => e = .returned (.bool true) ∧ Below w.heap.size w w' := by
  have hg : g < w.heap.size := (hown.lt g rfl).2
  have hcl : ∀ i, i < zs.length + 64 → w.cell? ⟨g, i, none⟩ = some (.int .u8 ((zs ++ marks 0 64).getD i 0)) := fun i hi => own_get hown (by simpa [marks_len] using hi)
  have HC : Hid (∀ i, i < zs.length + 64 → w.cell? ⟨g, i, none⟩ = some (.int .u8 ((zs ++ marks 0 64).getD i 0))) := hcl
  clear hcl hown
  go_enter Try.func10, Try.ntmps10
  go_wp2
  go_loopw [5] (fun i wr => ∃ k : Nat, k ≤ zs.length ∧ i = .int .i64 k ∧ Below w.heap.size w wr)
    (fun i _ => zs.length - (intOf i).toNat)
  case atStart => exact ⟨0, Nat.zero_le _, rfl, Below.refl _ _⟩
  case round =>
    obtain ⟨k, hk, rfl, hb⟩ := hrel
    by_cases hlt : k < zs.length
    · obtain ⟨b, off, rfl, hbl, hc⟩ := (hr.below hb) (by omega)
      have hck := hc k hlt
      clear hc
      have hfk : wr.cell? ⟨g, k, none⟩ = some (.int .u8 (zs.getD k 0)) := by
        rw [hb.cell (p := ⟨g, k, none⟩) hg, HC.out k (by omega)]
        simp [List.getElem?_append_left hlt]
      generalize zs.getD k 0 = c at hck hfk
      have hlt' : (k : Int) < (zs.length : Int) := by omega
      have hlt2 : (k : Int) < (zs.length : Int) + 64 := by omega
      go_wp2
      go_quiet (fail)
      go_wp2
      go_roundw
      case rel => exact ⟨k + 1, by omega, by go_num, below_drewN hb _⟩
      case measure => simp [intOf]; omega
    · go_wp2
      go_loopw [6] (fun i wr => ∃ k : Nat, k ≤ 64 ∧ i = .int .i64 k ∧ Below w.heap.size w wr)
        (fun i _ => 64 - (intOf i).toNat)
      case atStart => exact ⟨0, by omega, rfl, hb⟩
      case round =>
        clear hb
        obtain ⟨j, hj, rfl, hb⟩ := hrel
        by_cases hlt2 : j < 64
        · have hfk : wr.cell? ⟨g, zs.length + j, none⟩ = some (.int .u8 (mk 0 j)) := by
            rw [hb.cell (p := ⟨g, zs.length + j, none⟩) hg, HC.out _ (by omega)]
            simp [marks, hlt2]
          have hlt3 : (zs.length : Int) + (j : Int) < (zs.length : Int) + 64 := by omega
          go_wp2
          go_quiet ((go_at_call 18; exact Calls.quiet_of_same (mark_any _ _ _ (by omega) (by omega))))
          go_wp2
          go_roundw
          case rel => exact ⟨j + 1, by omega, by go_num, below_drewN hb _⟩
          case measure => simp [intOf]; omega
        · go_wp2
          go_ret
          exact ⟨rfl, hb⟩
end Go.Proofs.Ytecbdjhhdhpmhaa
