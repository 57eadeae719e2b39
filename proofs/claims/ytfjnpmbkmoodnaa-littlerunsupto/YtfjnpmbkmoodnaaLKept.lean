import Derived.Test.YtfjnpmbkmoodnaaLMark
namespace Go.Proofs.Ytfjnpmbkmoodnaa
open Go.RowKit
set_option maxRecDepth 100000

theorem Reads.drewN {w : World} {ao : Option Addr} {zs : List Int} {B : Nat} (h : Reads w ao zs B) (n : Nat) : Reads (w.drewN n) ao zs B := h

set_option maxRecDepth 100000 in
set_option maxHeartbeats 1000000 in
theorem kept_any (ao : Option Addr) (cap : Nat) (zs : List Int) (g capF : Nat) (w : World) (hn : zs.length ≤ 140737488351232) (hr : Reads w ao zs w.heap.size)
    (hcl : ∀ i, i < zs.length + 64 → w.cell? ⟨g, i, none⟩ = some (.int .u8 ((zs ++ marks 0 64).getD i 0))) :
    Calls Try.prog 12 #[.slice (some ⟨g, 0, none⟩) (zs.length + 64) capF, .slice ao zs.length cap] w fun e w' => e = .returned (.bool true) ∧ ∃ m, w' = w.drewN m := by
  have HC : Hid (∀ i, i < zs.length + 64 → w.cell? ⟨g, i, none⟩ = some (.int .u8 ((zs ++ marks 0 64).getD i 0))) := hcl
  clear hcl
  go_enter Try.func12, Try.ntmps12
  go_wp2
  go_loopw [5] (fun i wr => ∃ k m : Nat, k ≤ zs.length ∧ i = .int .i64 k ∧ wr = w.drewN m)
    (fun i _ => zs.length - (intOf i).toNat)
  case atStart => exact ⟨0, 0, Nat.zero_le _, rfl, rfl⟩
  case round =>
    obtain ⟨k, m, hk, rfl, rfl⟩ := hrel
    by_cases hlt : k < zs.length
    · obtain ⟨b, off, rfl, hbl, hc⟩ := hr (by omega)
      have hck := hc k hlt
      clear hc
      have hfk : w.cell? ⟨g, k, none⟩ = some (.int .u8 (zs.getD k 0)) := by
        rw [HC.out k (by omega)]
        simp [List.getElem?_append_left hlt]
      generalize zs.getD k 0 = c at hck hfk
      have hlt' : (k : Int) < (zs.length : Int) := by omega
      have hlt2 : (k : Int) < (zs.length : Int) + 64 := by omega
      go_wp2
      go_quiet (fail)
      go_wp2
      go_roundw
      case rel => exact ⟨k + 1, _, by omega, by go_num, rfl⟩
      case measure => simp [intOf]; omega
    · go_wp2
      go_loopw [6] (fun i wr => ∃ k m : Nat, k ≤ 64 ∧ i = .int .i64 k ∧ wr = w.drewN m)
        (fun i _ => 64 - (intOf i).toNat)
      case atStart => exact ⟨0, m, by omega, rfl, rfl⟩
      case round =>
        obtain ⟨j, m2, hj, rfl, hw2⟩ := hrel
        by_cases hlt2 : j < 64
        · have hfk : wr.cell? ⟨g, zs.length + j, none⟩ = some (.int .u8 (mk 0 j)) := by
            rw [hw2, World.cell?_drewN, HC.out _ (by omega)]
            simp [marks, hlt2]
          have hlt3 : (zs.length : Int) + (j : Int) < (zs.length : Int) + 64 := by omega
          have HW2 : Hid (wr = w.drewN m2) := hw2
          clear hw2
          go_wp2
          go_quiet ((go_at_call 20; exact Calls.quiet_of_same (mark_any _ _ _ (by omega) (by omega))))
          go_wp2
          go_roundw
          case rel => exact ⟨j + 1, _, by omega, by go_num, by rw [HW2.out, World.drewN_drewN]⟩
          case measure => simp [intOf]; omega
        · go_wp2
          go_ret
          exact ⟨rfl, _, rfl⟩
end Go.Proofs.Ytfjnpmbkmoodnaa
