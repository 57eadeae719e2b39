import Derived.Test.YtkoklkbjcfhmkaaCuts
namespace Go.Proofs.Ytkoklkbjcfhmkaa
open Go.RowKit

/-- the bytes of a rune's number -/
def encZ (r : Int) : List Int :=
  if r < 128 then [r] else if r < 2048 then [192 + r / 64, 128 + r % 64] else if r < 65536 then [224 + r / 4096, 128 + r / 64 % 64, 128 + r % 64]
  else [240 + r / 262144, 128 + r / 4096 % 64, 128 + r / 64 % 64, 128 + r % 64]
theorem encZ_len (r : Int) : 1 ≤ (encZ r).length ∧ (encZ r).length ≤ 4 := by
  unfold encZ
  repeat' split
  all_goals simp

theorem or_join (i : Nat) (hi : i ≤ 6) (x y : Int) (hx0 : 0 ≤ x) (hx : x % 2 ^ i = 0) (hx1 : x < 256) (hy0 : 0 ≤ y) (hy : y < 2 ^ i) : bits .or .i32 x y = x + y :=
  bits_join .i32 31 (by decide) wraps_i32 i x y hx0 hx (by omega) hy0 hy (by
    have : (2 : Int) ^ i ≤ 64 := by
      have h : 2 ^ i ≤ 2 ^ 6 := Nat.pow_le_pow_right (by decide) hi
      exact_mod_cast h
    omega)
theorem and63 (x : Int) (h0 : 0 ≤ x) (h1 : x < 2147483648) : bits .and .i32 x 63 = x % 64 :=
  bits_mask .i32 31 (by decide) wraps_i32 6 (by decide) x h0 h1

set_option maxHeartbeats 1000000 in
theorem coded_any (r : Int) (w : World) (h0 : 0 ≤ r) (h1 : r ≤ 1114111) :
    Calls Try.prog 16 #[.int .i32 r] w fun e w' => e = .returned (.slice (some ⟨w.heap.size, 0, none⟩) (encZ r).length (encZ r).length) ∧ w' = w.alloc (.cells ((encZ r).map (Value.int .u8)).toArray 5) := by
  have a0 := and63 r h0 (by omega)
  by_cases c1 : r < 128
  · have HE : Hid (encZ r = [r]) := by rw [Hid, encZ, if_pos c1]
    go_enter Try.func16, Try.ntmps16
    go_wp2
    go_ret
    rw [HE.out]
    exact ⟨rfl, rfl⟩
  · by_cases c2 : r < 2048
    · have HE : Hid (encZ r = [192 + r / 64, 128 + r % 64]) := by rw [Hid, encZ, if_neg c1, if_pos c2]
      have o1 := or_join 5 (by decide) 192 (r / 64) (by omega) (by decide) (by omega) (by omega) (by omega)
      have o2 := or_join 6 (by decide) 128 (r % 64) (by omega) (by decide) (by omega) (by omega) (by omega)
      go_enter Try.func16, Try.ntmps16
      go_wp2
      go_ret
      rw [HE.out]
      exact ⟨rfl, rfl⟩
    · by_cases c3 : r < 65536
      · have HE : Hid (encZ r = [224 + r / 4096, 128 + r / 64 % 64, 128 + r % 64]) := by rw [Hid, encZ, if_neg c1, if_neg c2, if_pos c3]
        have a1 := and63 (r / 64) (by omega) (by omega)
        have o1 := or_join 4 (by decide) 224 (r / 4096) (by omega) (by decide) (by omega) (by omega) (by omega)
        have o2 := or_join 6 (by decide) 128 (r % 64) (by omega) (by decide) (by omega) (by omega) (by omega)
        have o3 := or_join 6 (by decide) 128 (r / 64 % 64) (by omega) (by decide) (by omega) (by omega) (by omega)
        go_enter Try.func16, Try.ntmps16
        go_wp2
        go_ret
        rw [HE.out]
        exact ⟨rfl, rfl⟩
      · have HE : Hid (encZ r = [240 + r / 262144, 128 + r / 4096 % 64, 128 + r / 64 % 64, 128 + r % 64]) := by rw [Hid, encZ, if_neg c1, if_neg c2, if_neg c3]
        have a1 := and63 (r / 64) (by omega) (by omega)
        have a2 := and63 (r / 4096) (by omega) (by omega)
        have o1 := or_join 3 (by decide) 240 (r / 262144) (by omega) (by decide) (by omega) (by omega) (by omega)
        have o2 := or_join 6 (by decide) 128 (r % 64) (by omega) (by decide) (by omega) (by omega) (by omega)
        have o3 := or_join 6 (by decide) 128 (r / 64 % 64) (by omega) (by decide) (by omega) (by omega) (by omega)
        have o4 := or_join 6 (by decide) 128 (r / 4096 % 64) (by omega) (by decide) (by omega) (by omega) (by omega)
        go_enter Try.func16, Try.ntmps16
        go_wp2
        go_ret
        rw [HE.out]
        exact ⟨rfl, rfl⟩
end Go.Proofs.Ytkoklkbjcfhmkaa
