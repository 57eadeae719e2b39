import Derived.Test.YtelddclhoojjmaaLMath
namespace Go.Proofs.Ytelddclhoojjmaa
open Go.RowKit

theorem or16w (h l : Int) (h0 : 0 ≤ h) (h1 : h ≤ 65535) (l0 : 0 ≤ l) (l1 : l ≤ 65535) : bits .or .u64 (h * 65536) l = h * 65536 + l := by
  obtain ⟨n, rfl⟩ := Int.eq_ofNat_of_zero_le h0
  obtain ⟨m, rfl⟩ := Int.eq_ofNat_of_zero_le l0
  have := u64_or_nat (n * 65536) m (by omega) (by omega)
  have e : n * 65536 ||| m = n * 65536 + m := by
    have := (Nat.shiftLeft_add_eq_or_of_lt (i := 16) (b := m) (by omega) n).symm
    simpa [Nat.shiftLeft_eq] using this
  rw [e] at this
  simpa using this

theorem halves_any (a : Int) (w : World) (h0 : 0 ≤ a) (h1 : a ≤ 4294967295) :
    Calls Try.prog 14 #[.int .u32 a] w fun e w' => e = .returned (.tuple #[.int .u64 (a % 65536), .int .u64 (a / 65536)]) ∧ w' = w := by
  go_enter Try.func14, Try.ntmps14
  go_wp2
  go_ret2
  exact ⟨rfl, rfl⟩

theorem wrap64 (x : Int) (h0 : 0 ≤ x) (h1 : x < 18446744073709551616) : IntKind.u64.wrap x = x := by
  simp only [IntKind.wrap, IntKind.bits, IntKind.signed]
  simp
  omega


theorem cut32 (x l : Int) : (x % 65521 * 65536 + l % 65521) % 4294967296 = x % 65521 * 65536 + l % 65521 := by omega

theorem prod_le {x y : Int} (x0 : 0 ≤ x) (x1 : x ≤ 65520) (y0 : 0 ≤ y) (y1 : y ≤ 131055) : 0 ≤ x * y ∧ x * y ≤ 9000000000 := by
  have h1 := Int.mul_nonneg x0 y0
  have h2 := Int.mul_le_mul x1 y1 y0 (by omega : (0 : Int) ≤ 65520)
  omega

theorem join_any (a b n : Int) (w : World) (a0 : 0 ≤ a) (a1 : a ≤ 4294967295) (b0 : 0 ≤ b) (b1 : b ≤ 4294967295) (n0 : -9223372036854775808 ≤ n) (n1 : n ≤ 9223372036854775807) :
    Calls Try.prog 7 #[.int .u32 a, .int .u32 b, .int .i64 n] w fun e w' => e = .returned (.int .u32 (jn a b n)) ∧ w' = w := by
  have HJ : Hid (jn a b n = (a / 65536 + b / 65536 + (max n 0) % 65521 * (a % 65536 + 65520)) % 65521 * 65536 + (a % 65536 + b % 65536 + 65520) % 65521) := rfl
  go_enter Try.func7, Try.ntmps7
  by_cases hn : n < 0
  · go_wp2_with (go_at_call 14; refine (halves_any _ _ (by omega) (by omega)).mono ?_; rintro e w' ⟨rfl, rfl⟩)
    go_ret
    refine ⟨ret_int ?_, rfl⟩
    rw [HJ.out, show max n 0 = 0 by omega, or16w _ _ (by omega) (by omega) (by omega) (by omega), show a % 65536 + b % 65536 + 65521 - 1 = a % 65536 + b % 65536 + 65520 by omega, cut32]
    simp
  · have hm := prod_le (x := n % 65521) (y := a % 65536 + 65521 - 1) (by omega) (by omega) (by omega) (by omega)
    have hw := wrap64 (n % 65521 * (a % 65536 + 65521 - 1)) hm.1 (by omega)
    go_wp2_with (go_at_call 14; refine (halves_any _ _ (by omega) (by omega)).mono ?_; rintro e w' ⟨rfl, rfl⟩)
    go_ret
    refine ⟨ret_int ?_, rfl⟩
    rw [HJ.out, show max n 0 = n by omega]
    generalize hM : n % 65521 * (a % 65536 + 65521 - 1) = m at *
    rw [show n % 65521 * (a % 65536 + 65520) = m by rw [← hM]; congr 1; omega]
    rw [or16w _ _ (by omega) (by omega) (by omega) (by omega), show a % 65536 + b % 65536 + 65521 - 1 = a % 65536 + b % 65536 + 65520 by omega, cut32]
end Go.Proofs.Ytelddclhoojjmaa
