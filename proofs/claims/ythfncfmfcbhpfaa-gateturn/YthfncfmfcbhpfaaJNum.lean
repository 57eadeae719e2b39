import Derived.Test.YthfncfmfcbhpfaaRows
import Derived.Test.YthfncfmfcbhpfaaProg
import Derived.WalkKit
import Derived.WalkLawsBesides
import Derived.Deep.QuietTactic
namespace Go.Proofs.Ythfncfmfcbhpfaa
open Go.RowKit
set_option maxRecDepth 100000
theorem w32_hi {x : Nat} (h : ¬ x < 2147483648) (h' : x < 4294967296) : wrap32 (x : Int) = (x : Int) - 4294967296 := by
  unfold wrap32; omega
theorem xor_ones {a : Nat} (ha : a < 4294967296) : a ^^^ 4294967295 = 4294967295 - a := by
  have h : (BitVec.ofNat 32 a ^^^ BitVec.allOnes 32).toNat = (~~~ BitVec.ofNat 32 a).toNat := by rw [BitVec.xor_allOnes]
  rw [BitVec.toNat_xor, BitVec.toNat_not, BitVec.toNat_allOnes, BitVec.toNat_ofNat, Nat.mod_eq_of_lt ha] at h
  exact h
theorem u_not {a : Nat} (ha : a < 4294967296) : bits .xor .u32 IntKind.u32.max (a : Int) = ((4294967295 - a : Nat) : Int) := by
  have h1 : IntKind.u32.max = ((4294967295 : Nat) : Int) := rfl
  rw [h1, u32_xor_nat 4294967295 a (by decide) ha]
  congr 1
  have := Nat.xor_comm 4294967295 a
  rw [this]
  exact xor_ones ha
theorem number_lo (x : Nat) (w : World) (h : x < 2147483648) :
    Calls Try.prog 6 #[.int .u32 x] w fun e w' => e = .returned (.tuple #[.int .u32 0, .bool false]) ∧ w' = w := by
  go_enter Try.func6, Try.ntmps6
  go_wp2
  go_ret2
  exact ⟨rfl, rfl⟩
theorem number_hi (x : Nat) (w : World) (h : ¬ x < 2147483648) (h' : x < 4294967296) :
    Calls Try.prog 6 #[.int .u32 x] w fun e w' => e = .returned (.tuple #[.int .u32 ((4294967295 - x : Nat) : Int), .bool true]) ∧ w' = w := by
  have e := w32_hi h h'
  have hlt : wrap32 (x : Int) < 0 := by rw [e]; omega
  have hd : decide (0 ≤ wrap32 (x : Int)) = false := by simp; omega
  clear e
  have hn := u_not h'
  have hs : IntKind.u32.signed = false := rfl
  generalize ((4294967295 - x : Nat) : Int) = y at *
  clear h h'
  go_enter Try.func6, Try.ntmps6
  go_wp2
  go_ret2
  exact ⟨rfl, rfl⟩
theorem rnumber_lo (x : Nat) (w : World) (h : x < 2147483648) :
    Calls Try.prog 7 #[.int .u32 x] w fun e w' => e = .returned (.tuple #[.int .u32 0, .bool false]) ∧ w' = w := by
  have hd : decide ((x : Int) < 2147483648) = true := by simp; omega
  have hi : (x : Int) < 2147483648 := by omega
  clear h
  go_enter Try.func7, Try.ntmps7
  go_wp2
  go_ret2
  exact ⟨rfl, rfl⟩
theorem rnumber_hi (x : Nat) (w : World) (h : ¬ x < 2147483648) (h' : x < 4294967296) :
    Calls Try.prog 7 #[.int .u32 x] w fun e w' => e = .returned (.tuple #[.int .u32 ((4294967295 - x : Nat) : Int), .bool true]) ∧ w' = w := by
  have hd : decide ((x : Int) < 2147483648) = false := by simp; omega
  have hi : 2147483648 ≤ (x : Int) := by omega
  have hi' : (x : Int) ≤ 4294967295 := by omega
  have e : ((4294967295 - x : Nat) : Int) = 4294967295 - (x : Int) := by omega
  rw [e]
  clear h h' e
  go_enter Try.func7, Try.ntmps7
  go_wp2
  go_ret2
  exact ⟨rfl, rfl⟩
end Go.Proofs.Ythfncfmfcbhpfaa
