import Derived.Test.YtfolcjamefgphaaDec
import Derived.Lib.ConvBytes
import Derived.Deep.Draws
namespace Go.Proofs.Ytfolcjamefgphaa
open Go.RowKit

/-- the number of a hexadecimal digit, below 0: it is none -/
def hexv (c : Int) : Int := if 48 ≤ c ∧ c ≤ 57 then c - 48 else if 97 ≤ c ∧ c ≤ 102 then c - 87 else if 65 ≤ c ∧ c ≤ 70 then c - 55 else -1
def hexR (c : Int) : Int := if hexv c < 0 then 0 else hexv c
def hexOk (c : Int) : Bool := decide (0 ≤ hexv c)
theorem hexv_range (c : Int) : -1 ≤ hexv c ∧ hexv c ≤ 15 := by
  unfold hexv
  repeat' split
  all_goals omega
theorem ret_i {k : IntKind} {a b : Int} (h : a = b) : Ending.returned (.int k a) = .returned (.int k b) := by rw [h]
theorem ret_ib {k : IntKind} {a b : Int} {x y : Bool} (h : a = b) (h' : x = y) : Ending.returned (.tuple #[.int k a, .bool x]) = .returned (.tuple #[.int k b, .bool y]) := by rw [h, h']

theorem hexv_cases (c : Int) : (48 ≤ c ∧ c ≤ 57 ∧ hexv c = c - 48) ∨ (97 ≤ c ∧ c ≤ 102 ∧ hexv c = c - 87) ∨ (65 ≤ c ∧ c ≤ 70 ∧ hexv c = c - 55) ∨ ((c < 48 ∨ (57 < c ∧ c < 65) ∨ (70 < c ∧ c < 97) ∨ 102 < c) ∧ hexv c = -1) := by
  unfold hexv
  repeat' split
  all_goals omega

set_option maxHeartbeats 2000000 in
theorem hexdigit_any (c : Int) (w : World) (h0 : 0 ≤ c) (h1 : c ≤ 255) :
    Calls Try.prog 46 #[.int .u8 c] w fun e w' => e = .returned (.tuple #[.int .i32 (hexR c), .bool (hexOk c)]) ∧ w' = w := by
  rcases hexv_cases c with ⟨a, b, hv⟩ | ⟨a, b, hv⟩ | ⟨a, b, hv⟩ | ⟨hlt, hv⟩
  · have HR : Hid (hexR c = c - 48) := by rw [Hid, hexR, hv, if_neg (by omega)]
    have HO : Hid (hexOk c = true) := by rw [Hid, hexOk, hv]; simp; omega
    clear hv
    go_enter Try.func46, Try.ntmps46
    go_wp2
    go_ret2
    exact ⟨ret_ib (by rw [HR.out]) (by rw [HO.out]), rfl⟩
  · have HR : Hid (hexR c = c - 97 + 10) := by rw [Hid, hexR, hv, if_neg (by omega)]; omega
    have HO : Hid (hexOk c = true) := by rw [Hid, hexOk, hv]; simp; omega
    clear hv
    go_enter Try.func46, Try.ntmps46
    go_wp2
    go_ret2
    exact ⟨ret_ib (by rw [HR.out]) (by rw [HO.out]), rfl⟩
  · have HR : Hid (hexR c = c - 65 + 10) := by rw [Hid, hexR, hv, if_neg (by omega)]; omega
    have HO : Hid (hexOk c = true) := by rw [Hid, hexOk, hv]; simp; omega
    clear hv
    go_enter Try.func46, Try.ntmps46
    go_wp2
    go_ret2
    exact ⟨ret_ib (by rw [HR.out]) (by rw [HO.out]), rfl⟩
  · have HR : Hid (hexR c = 0) := by rw [Hid, hexR, hv]; rfl
    have HO : Hid (hexOk c = false) := by rw [Hid, hexOk, hv]; rfl
    clear hv
    rcases hlt with h | ⟨h, h'⟩ | ⟨h, h'⟩ | h
    all_goals
      go_enter Try.func46, Try.ntmps46
      go_wp2
      go_ret2
      exact ⟨ret_ib (by rw [HR.out]) (by rw [HO.out]), rfl⟩

/-- the number of the first digits from a place on -/
def hx (s : ByteArray) (i : Nat) : Nat → Int
  | 0 => 0
  | k + 1 => hx s i k * 16 + hexv (bt s (i + k))
/-- the number of n hexadecimal digits from a place on, -1: they are not there -/
def hexesAt (s : ByteArray) (i n : Nat) : Int := if i + n ≤ s.size ∧ (∀ j, j < n → 0 ≤ hexv (bt s (i + j))) then hx s i n else -1
theorem hx_range (s : ByteArray) (i : Nat) : ∀ k, k ≤ 4 → (∀ j, j < k → 0 ≤ hexv (bt s (i + j))) → 0 ≤ hx s i k ∧ hx s i k ≤ 65535 ∧ (k ≤ 3 → hx s i k ≤ 4095) ∧ (k ≤ 2 → hx s i k ≤ 255) := by
  intro k hk h
  have g : ∀ j, j < k → 0 ≤ hexv (bt s (i + j)) ∧ hexv (bt s (i + j)) ≤ 15 := fun j hj => ⟨h j hj, (hexv_range _).2⟩
  match k, hk with
  | 0, _ => simp only [hx]; omega
  | 1, _ => have := g 0 (by omega); simp only [hx]; omega
  | 2, _ => have := g 0 (by omega); have := g 1 (by omega); simp only [hx]; omega
  | 3, _ => have := g 0 (by omega); have := g 1 (by omega); have := g 2 (by omega); simp only [hx]; omega
  | 4, _ => have := g 0 (by omega); have := g 1 (by omega); have := g 2 (by omega); have := g 3 (by omega); simp only [hx]; omega

end Go.Proofs.Ytfolcjamefgphaa
