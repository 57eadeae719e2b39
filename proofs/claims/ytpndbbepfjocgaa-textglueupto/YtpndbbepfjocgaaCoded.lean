import Derived.Test.YtpndbbepfjocgaaCuts
namespace Go.Proofs.Ytpndbbepfjocgaa
open Go.RowKit

/-- the bytes of a rune's number -/
def encZ (r : Int) : List Int :=
  if r < 128 then [r] else if r < 2048 then [192 + r / 64, 128 + r % 64] else if r < 65536 then [224 + r / 4096, 128 + r / 64 % 64, 128 + r % 64]
  else [240 + r / 262144, 128 + r / 4096 % 64, 128 + r / 64 % 64, 128 + r % 64]
theorem encZ_len (r : Int) : 1 ≤ (encZ r).length ∧ (encZ r).length ≤ 4 := by
  unfold encZ
  repeat' split
  all_goals simp

theorem or_join (i : Nat) (hi : i ≤ 6) (x y : Int) (hx0 : 0 ≤ x) (hx : x % 2 ^ i = 0) (hx1 : x < 256) (hy0 : 0 ≤ y) (hy : y < 2 ^ i) : bits .or .i32 x y = x + y :=
  bits_join .i32 31 (by decide) wraps_i32 i x y hx0 hx (by omega) hy0 hy (by
    have : (2 : Int) ^ i ≤ 64 := by
      have h : 2 ^ i ≤ 2 ^ 6 := Nat.pow_le_pow_right (by decide) hi
      exact_mod_cast h
    omega)
theorem and63 (x : Int) (h0 : 0 ≤ x) (h1 : x < 2147483648) : bits .and .i32 x 63 = x % 64 :=
  bits_mask .i32 31 (by decide) wraps_i32 6 (by decide) x h0 h1

end Go.Proofs.Ytpndbbepfjocgaa
