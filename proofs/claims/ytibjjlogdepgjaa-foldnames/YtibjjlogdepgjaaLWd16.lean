import Derived.Test.YtibjjlogdepgjaaLNum
import Derived.Test.YtibjjlogdepgjaaLClone
import Derived.Laws.AppendOwn
import Derived.Laws.MakeOwn
import Derived.Lib.Tables
import Derived.Laws.CopyOwn
namespace Go.Proofs.Ytibjjlogdepgjaa
open Go.RowKit
set_option maxRecDepth 100000


set_option maxRecDepth 100000 in
theorem or_u16 (x c : Int) (s : Nat) (hs : s < 16) (x0 : 0 ≤ x) (x1 : x < 2 ^ s) (c0 : 0 ≤ c) (c1 : c ≤ 255) (hc : c * 2 ^ s < 65536) : bits .or .u16 x (c * 2 ^ s) = x + c * 2 ^ s := by
  obtain ⟨n, rfl⟩ := Int.eq_ofNat_of_zero_le x0
  obtain ⟨m, rfl⟩ := Int.eq_ofNat_of_zero_le c0
  have h1 : n < 2 ^ s := by exact_mod_cast x1
  have e1 : ((m * 2 ^ s : Nat) : Int) = (m : Int) * 2 ^ s := by push_cast; rfl
  have h2 : m * 2 ^ s < 65536 := by rw [← e1] at hc; omega
  have h3 : (2 : Nat) ^ s < 65536 := Nat.lt_of_lt_of_le (Nat.pow_lt_pow_right (by omega) hs) (by decide)
  have := u16_or_nat n (m * 2 ^ s) (by omega) h2
  rw [shl_or m n s h1] at this
  rw [← e1, this]
  push_cast
  rfl
end Go.Proofs.Ytibjjlogdepgjaa
