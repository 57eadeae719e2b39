import Derived.Test.YtelddclhoojjmaaLJoin
namespace Go.Proofs.Ytelddclhoojjmaa
open Go.RowKit

set_option maxHeartbeats 400000 in
theorem rsum_any (ao : Option Addr) (cap : Nat) (zs : List Int) (w : World) (hn : zs.length ≤ 140737488355328) (hwf : ∀ z ∈ zs, 0 ≤ z ∧ z ≤ 255) (hr : Reads w ao zs w.heap.size) :
    Calls Try.prog 10 #[.slice ao zs.length cap] w fun e w' => e = .returned (.int .u32 (adl zs)) ∧ w' = w := by
  go_enter Try.func10, Try.ntmps10
  go_wp2
  go_loop [3, 4, 5] (fun l h i => ∃ k : Nat, k ≤ zs.length ∧ i = .int .i64 k ∧ l = .int .u32 (st (zs.take k)).1 ∧ h = .int .u32 (st (zs.take k)).2)
    (fun _ _ i => zs.length - (intOf i).toNat)
  case atStart => exact ⟨0, Nat.zero_le _, rfl, rfl, rfl⟩
  case round =>
    obtain ⟨k, hk, rfl, rfl, rfl⟩ := hrel
    have hst := st_range (zs.take k)
    by_cases hlt : k < zs.length
    · obtain ⟨b, off, rfl, hbl, hc⟩ := hr (by omega)
      have hck := hc k hlt
      clear hc
      have hts := take_snoc zs k hlt
      have hcw := hwf _ (getD_mem hlt)
      generalize zs.getD k 0 = c at hck hts hcw
      have HS : Hid (st (zs.take (k + 1)) = stp (st (zs.take k)) c) := by rw [hts]; exact st_snoc _ _
      clear hts
      generalize st (zs.take k) = p at hst HS
      obtain ⟨l, h⟩ := p
      simp only at hst
      obtain ⟨⟨l0, l1⟩, h0, h1⟩ := hst
      obtain ⟨c0, c1⟩ := hcw
      go_wp2
      go_round
      case rel => exact ⟨k + 1, by omega, by go_num, by rw [HS.out]; rfl, by rw [HS.out]; rfl⟩
      case measure => simp [intOf]; omega
    · have HE : Hid (adl zs = (st (zs.take k)).2 * 65536 + (st (zs.take k)).1) := by rw [show k = zs.length by omega, List.take_length]; rfl
      generalize st (zs.take k) = p at hst HE
      obtain ⟨l, h⟩ := p
      simp only at hst
      obtain ⟨⟨l0, l1⟩, h0, h1⟩ := hst
      go_wp2
      go_ret
      exact ⟨by rw [HE.out]; rfl, rfl⟩

theorem mod_prod (S x y : Int) : (S + x * (y % 65521)) % 65521 = (S + x * y) % 65521 := by
  obtain ⟨q, hq⟩ : ∃ q, y % 65521 = y - 65521 * q := ⟨y / 65521, by omega⟩
  rw [hq]
  exact modp (-(x * q)) (by grind)

theorem rjoin_any (a b n : Int) (w : World) (a0 : 0 ≤ a) (a1 : a ≤ 4294967295) (b0 : 0 ≤ b) (b1 : b ≤ 4294967295) (n0 : -9223372036854775808 ≤ n) (n1 : n ≤ 9223372036854775807) :
    Calls Try.prog 8 #[.int .u32 a, .int .u32 b, .int .i64 n] w fun e w' => e = .returned (.int .u32 (jn a b n)) ∧ w' = w := by
  have HJ : Hid (jn a b n = (a / 65536 + b / 65536 + (max n 0) % 65521 * ((a % 65536 + 65520) % 65521)) % 65521 * 65536 + (a % 65536 + b % 65536 + 65520) % 65521) := by rw [mod_prod]; exact rfl
  go_enter Try.func8, Try.ntmps8
  by_cases hn : n < 0
  · have hm := prod_le (x := 0) (y := (a % 65536 + 65520) % 65521) (by omega) (by omega) (by omega) (by omega)
    go_wp2
    go_ret
    refine ⟨ret_int ?_, rfl⟩
    rw [HJ.out, show max n 0 = 0 by omega]
    simp
  · have hm := prod_le (x := n % 65521) (y := (a % 65536 + 65520) % 65521) (by omega) (by omega) (by omega) (by omega)
    have hw := wrap64 (n % 65521 * ((a % 65536 + 65520) % 65521)) hm.1 (by omega)
    go_wp2
    go_ret
    refine ⟨ret_int ?_, rfl⟩
    rw [HJ.out, show max n 0 = n by omega]
end Go.Proofs.Ytelddclhoojjmaa
