import Derived.Test.YtgoekampndcinaaDoorRows
import Derived.WalkKit
import Derived.Lib.OthersKept
import Derived.Lib.Strings
import Derived.Deep.Draws
namespace Go.Proofs.YtgoekampndcinaaDoor
open Go.RowKit

/-- the byte at a place -/
def bt (s : ByteArray) (i : Nat) : Nat := (s.get! i).toNat
theorem bt_eq (s : ByteArray) (i : Nat) (h : i < s.size) : bt s i = (s[i]'h).toNat := by rw [bt, ← get_at s i h]; rfl
theorem bt_lt (s : ByteArray) (i : Nat) : bt s i < 256 := (s.get! i).toNat_lt

/-- the number of a hexadecimal digit; 16: it is none -/
def dg (c : Nat) : Nat := if 48 ≤ c ∧ c ≤ 57 then c - 48 else if 97 ≤ c ∧ c ≤ 102 then c - 87 else if 65 ≤ c ∧ c ≤ 70 then c - 55 else 16
theorem dg_le (c : Nat) : dg c ≤ 16 := by
  unfold dg
  repeat' split
  all_goals omega
theorem dg_cases (c : Nat) : (48 ≤ c ∧ c ≤ 57 ∧ dg c = c - 48) ∨ (97 ≤ c ∧ c ≤ 102 ∧ dg c = c - 87) ∨ (65 ≤ c ∧ c ≤ 70 ∧ dg c = c - 55) ∨ ((c < 48 ∨ (57 < c ∧ c < 65) ∨ (70 < c ∧ c < 97) ∨ 102 < c) ∧ dg c = 16) := by
  unfold dg
  repeat' split
  all_goals omega
theorem ret_i {k : IntKind} {a b : Int} (h : a = b) : Ending.returned (.int k a) = .returned (.int k b) := by rw [h]

set_option maxHeartbeats 2000000 in
theorem digit_any (c : Nat) (w : World) (h1 : c ≤ 255) :
    Calls Tryd.prog 26 #[.int .u8 c] w fun e w' => e = .returned (.int .u64 (dg c)) ∧ w' = w := by
  rcases dg_cases c with ⟨a, b, hv⟩ | ⟨a, b, hv⟩ | ⟨a, b, hv⟩ | ⟨hlt, hv⟩
  · have HV : Hid (dg c = c - 48) := hv
    have a' : (48 : Int) ≤ c := by omega
    have b' : (c : Int) ≤ 57 := by omega
    clear hv
    go_enter Tryd.func26, Tryd.ntmps26
    go_wp2
    go_ret
    exact ⟨ret_i (by rw [HV.out]; omega), rfl⟩
  · have HV : Hid (dg c = c - 87) := hv
    have a' : (97 : Int) ≤ c := by omega
    have b' : (c : Int) ≤ 102 := by omega
    clear hv
    go_enter Tryd.func26, Tryd.ntmps26
    go_wp2
    go_ret
    exact ⟨ret_i (by rw [HV.out]; omega), rfl⟩
  · have HV : Hid (dg c = c - 55) := hv
    have a' : (65 : Int) ≤ c := by omega
    have b' : (c : Int) ≤ 70 := by omega
    clear hv
    go_enter Tryd.func26, Tryd.ntmps26
    go_wp2
    go_ret
    exact ⟨ret_i (by rw [HV.out]; omega), rfl⟩
  · have HV : Hid (dg c = 16) := hv
    clear hv
    rcases hlt with h | ⟨h, h'⟩ | ⟨h, h'⟩ | h
    · have a' : (c : Int) < 48 := by omega
      go_enter Tryd.func26, Tryd.ntmps26
      go_wp2
      go_ret
      exact ⟨ret_i (by rw [HV.out]; rfl), rfl⟩
    · have a' : (57 : Int) < c := by omega
      have b' : (c : Int) < 65 := by omega
      go_enter Tryd.func26, Tryd.ntmps26
      go_wp2
      go_ret
      exact ⟨ret_i (by rw [HV.out]; rfl), rfl⟩
    · have a' : (70 : Int) < c := by omega
      have b' : (c : Int) < 97 := by omega
      go_enter Tryd.func26, Tryd.ntmps26
      go_wp2
      go_ret
      exact ⟨ret_i (by rw [HV.out]; rfl), rfl⟩
    · have a' : (102 : Int) < c := by omega
      go_enter Tryd.func26, Tryd.ntmps26
      go_wp2
      go_ret
      exact ⟨ret_i (by rw [HV.out]; rfl), rfl⟩
end Go.Proofs.YtgoekampndcinaaDoor
