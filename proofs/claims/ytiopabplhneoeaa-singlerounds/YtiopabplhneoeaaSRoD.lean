import Derived.Test.YtiopabplhneoeaaSRoC
import Derived.OwnWalk
namespace Go.Proofs.Ytiopabplhneoeaa
open Go.RowKit

theorem bl_nb : ∀ n x : Nat, x < 2 ^ n → n ≤ 64 → Lib.bitLen x = nbits x
  | 0, x, h, _ => by
    have : x = 0 := by simp at h; exact h
    subst this; decide
  | n + 1, x, h, hn => by
    by_cases h0 : x = 0
    · subst h0; decide
    · have h64 : x < 2 ^ 64 := Nat.lt_of_lt_of_le h (Nat.pow_le_pow_right (by decide) hn)
      rw [Lib.bitLen_half x h0 h64, bl_nb n (x / 2) (by rw [Nat.pow_succ] at h; omega) (by omega)]
      unfold nbits
      rw [if_neg h0]
      by_cases h1 : x / 2 = 0
      · rw [if_pos h1]
        have : x = 1 := by omega
        subst this; decide
      · rw [if_neg h1, Nat.log2_def x, if_pos (by omega)]
        omega
theorem lz_any (x z : Nat) (w : World) (hx : x < 18446744073709551616) (hz : nbits x + z = 64) :
    Calls Try.prog 39 #[.int .u64 x] w fun e w' => e = .returned (.int .i64 z) ∧ w' = w := by
  refine (Try.bits_LeadingZeros64 (x : Int) w (by omega) (by omega)).mono fun e w' ⟨he, hw⟩ => ⟨?_, hw⟩
  rw [he, Int.toNat_natCast, bl_nb 64 x hx (by omega), show (64 : Int) - (nbits x : Int) = (z : Int) by omega]
set_option maxRecDepth 100000 in
set_option maxHeartbeats 1000000 in
theorem rai_0 (x : Nat) (P : Int) (mo : Bool) (w : World) (hx : x < 18446744073709551616) (hz : nbits x = 64) :
    Calls Try.prog 23 #[.int .u64 x, .int .i64 P, .bool mo] w fun e w' => e = .returned (.tuple #[.int .u64 x, .int .i64 P, .bool mo]) ∧ w' = w := by
  have HZ : Hid (nbits x + 0 = 64) := hz
  clear hz
  go_enter Try.func23, Try.ntmps23
  go_wp2_with (go_at_call 39; with_reducible refine (lz_any x 0 _ hx HZ.out).mono ?_; rintro e wq ⟨rfl, hq⟩; subst wq)
  go_ret3
  exact ⟨rfl, rfl⟩
set_option maxRecDepth 100000 in
set_option maxHeartbeats 1000000 in
theorem rai_f (x z Y : Nat) (P : Int) (w : World) (hx : x < 18446744073709551616) (hz : nbits x + z = 64) (hz0 : 1 ≤ z) (hz1 : z ≤ 64) (e1 : IntKind.u64.wrap ((x : Int) * 2 ^ z) = (Y : Int)) (hP : -4000 ≤ P) (hP2 : P ≤ 4000) :
    Calls Try.prog 23 #[.int .u64 x, .int .i64 P, .bool false] w fun e w' => e = .returned (.tuple #[.int .u64 Y, .int .i64 (P - z), .bool false]) ∧ w' = w := by
  have HZ : Hid (nbits x + z = 64) := hz
  clear hz
  have hz9 : ((z : Int) == 0) = false := by rw [beq_eq_false_iff_ne]; omega
  go_enter Try.func23, Try.ntmps23
  go_wp2_with (go_at_call 39; with_reducible refine (lz_any x z _ hx HZ.out).mono ?_; rintro e wq ⟨rfl, hq⟩; subst wq)
  go_ret3
  exact ⟨rfl, rfl⟩
set_option maxRecDepth 100000 in
set_option maxHeartbeats 1000000 in
theorem rai_t (x z Y Z : Nat) (P : Int) (w : World) (hx : x < 18446744073709551616) (hz : nbits x + z = 64) (hz0 : 1 ≤ z) (hz1 : z ≤ 64) (e1 : IntKind.u64.wrap ((x : Int) * 2 ^ z) = (Y : Int)) (e2 : bits .or .u64 (Y : Int) (IntKind.u64.wrap (2 ^ (z - 1))) = (Z : Int)) (hP : -4000 ≤ P) (hP2 : P ≤ 4000) :
    Calls Try.prog 23 #[.int .u64 x, .int .i64 P, .bool true] w fun e w' => e = .returned (.tuple #[.int .u64 Z, .int .i64 (P - z), .bool false]) ∧ w' = w := by
  have HZ : Hid (nbits x + z = 64) := hz
  clear hz
  have hz9 : ((z : Int) == 0) = false := by rw [beq_eq_false_iff_ne]; omega
  go_enter Try.func23, Try.ntmps23
  go_wp2_with (go_at_call 39; with_reducible refine (lz_any x z _ hx HZ.out).mono ?_; rintro e wq ⟨rfl, hq⟩; subst wq)
  go_ret3
  exact ⟨rfl, rfl⟩
end Go.Proofs.Ytiopabplhneoeaa
