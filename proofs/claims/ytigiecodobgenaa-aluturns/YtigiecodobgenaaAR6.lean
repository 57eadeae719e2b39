import Derived.Test.YtigiecodobgenaaABinA
namespace Go.Proofs.Ytigiecodobgenaa
open Go.RowKit

theorem rsig_any (a : Nat) (w : World) (ha : a < 4294967296) :
    Calls Try.prog 21 #[.int .u32 a] w fun e w' => e = .returned (.int .i64 (sx a)) ∧ w' = w := by
  unfold sx
  by_cases h' : a < 2147483648
  · rw [if_pos h']
    have g1 : decide ((2147483648 : Int) ≤ (a : Int)) = false := decide_eq_false (by omega)
    obtain ⟨x, hx⟩ : ∃ x : Int, x = (a : Int) := ⟨_, rfl⟩
    rw [← hx] at g1 ⊢
    have x0 : 0 ≤ x := by omega
    have x1 : x ≤ 2147483647 := by omega
    clear hx ha h'
    go_enter Try.func21, Try.ntmps21
    go_wp2
    go_ret
    exact ⟨rfl, rfl⟩
  · rw [if_neg h']
    have g1 : decide ((2147483648 : Int) ≤ (a : Int)) = true := decide_eq_true (by omega)
    obtain ⟨x, hx⟩ : ∃ x : Int, x = (a : Int) := ⟨_, rfl⟩
    rw [← hx] at g1 ⊢
    have x0 : 0 ≤ x := by omega
    have x1 : x ≤ 4294967295 := by omega
    have hw : wrap64 (x - 4294967296) = x - 4294967296 := by unfold wrap64; omega
    clear hx ha h'
    go_enter Try.func21, Try.ntmps21
    go_wp2
    go_ret
    exact ⟨rfl, rfl⟩
theorem tmod_cases (z : Int) : z.tmod 4294967296 = z % 4294967296 ∧ 0 ≤ z.tmod 4294967296 ∨ z.tmod 4294967296 = z % 4294967296 - 4294967296 ∧ z.tmod 4294967296 < 0 ∨ z.tmod 4294967296 = 0 ∧ z % 4294967296 = 0 := by
  by_cases h : 0 ≤ z
  · left
    rw [Int.tmod_eq_emod_of_nonneg h]
    exact ⟨rfl, Int.emod_nonneg _ (by decide)⟩
  · have e : z.tmod 4294967296 = -((-z) % 4294967296) := by
      rw [← Int.tmod_eq_emod_of_nonneg (by omega : 0 ≤ -z), Int.neg_tmod, Int.neg_neg]
    rw [e]
    omega
theorem rwrap_any (z : Int) (w : World) : 
    Calls Try.prog 17 #[.int .i64 z] w fun e w' => e = .returned (.int .u32 (z % 4294967296)) ∧ w' = w := by
  have e0 : (0 : Int) ≤ z % 4294967296 := Int.emod_nonneg _ (by decide)
  have e1 : z % 4294967296 < 4294967296 := Int.emod_lt_of_pos _ (by decide)
  have hc := tmod_cases z
  obtain ⟨r, hr⟩ : ∃ r, z % 4294967296 = r := ⟨_, rfl⟩
  obtain ⟨y, hy⟩ : ∃ y, z.tmod 4294967296 = y := ⟨_, rfl⟩
  rw [hr] at e0 e1 hc ⊢
  rw [hy] at hc
  have hn : y < 0 ∧ y + 4294967296 = r ∨ ¬ y < 0 ∧ y = r := by omega
  have hw0 : wrap64 y = y := by unfold wrap64; omega
  rcases hn with ⟨h1, h2⟩ | ⟨h1, h2⟩
  · have hw : wrap64 (y + 4294967296) = r := by unfold wrap64; omega
    have hv : r % 4294967296 = r := by omega
    clear hc hr
    go_enter Try.func17, Try.ntmps17
    go_wp2
    go_ret
    exact ⟨rfl, rfl⟩
  · subst h2
    have hv : y % 4294967296 = y := by omega
    clear hc hr
    go_enter Try.func17, Try.ntmps17
    go_wp2
    go_ret
    exact ⟨rfl, rfl⟩
end Go.Proofs.Ytigiecodobgenaa
