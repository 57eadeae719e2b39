import Derived.Test.YtibjjlogdepgjaaSKey
namespace Go.Proofs.Ytibjjlogdepgjaa
open Go.RowKit
set_option maxRecDepth 100000

theorem ok_mod {a : Nat} (h : ok a = true) : a % 2147483648 ≤ 2139095040 := by simpa [ok] using h
theorem mod_ok {a : Nat} (h : a % 2147483648 ≤ 2139095040) : ok a = true := by simpa [ok] using h
theorem tn_key {a : Nat} (h : a < 4294967296) : key (tn a) = - key a := by
  unfold tn
  split
  · rename_i h'
    rw [key_neg (by omega), key_pos h']; omega
  · rename_i h'
    rw [key_pos (by omega), key_neg (by omega)]; omega
theorem key_inj {a b : Nat} (ha : a < 4294967296) (hb : b < 4294967296) (h : key a = key b) : a = b ∨ a % 2147483648 = 0 ∧ b % 2147483648 = 0 := by
  by_cases h1 : 2147483648 ≤ a <;> by_cases h2 : 2147483648 ≤ b
  · rw [key_neg h1, key_neg h2] at h; omega
  · rw [key_neg h1, key_pos (by omega)] at h; omega
  · rw [key_pos (by omega), key_neg h2] at h; omega
  · rw [key_pos (by omega), key_pos (by omega)] at h; omega
theorem fab_key {a : Nat} (ha : a < 4294967296) (oa : ok a = true) (hi : a ≠ 2139095040) : ok (fab a) = true ∧ key (fab a) = key a + 1 := by
  have hm := ok_mod oa
  unfold fab
  rw [if_neg (by simp [oa])]
  by_cases hz : a % 2147483648 = 0
  · rw [if_pos hz]
    have : a = 0 ∨ a = 2147483648 := by omega
    rcases this with rfl | rfl <;> decide +kernel
  rw [if_neg hz, if_neg hi]
  by_cases hs : 2147483648 ≤ a
  · rw [if_pos hs]
    refine ⟨mod_ok (by omega), ?_⟩
    rw [key_neg hs, key_neg (by omega)]; omega
  · rw [if_neg hs]
    refine ⟨mod_ok (by omega), ?_⟩
    rw [key_pos (by omega), key_pos (by omega)]; omega
theorem fbe_key {a : Nat} (ha : a < 4294967296) (oa : ok a = true) (hi : a ≠ 4286578688) : ok (fbe a) = true ∧ key (fbe a) = key a - 1 := by
  unfold fbe
  rw [if_neg (by simp [oa])]
  have h1 := tn_lt ha
  have ot : ok (tn a) = true := by rw [ok_tn a ha, oa]
  have hi' : tn a ≠ 2139095040 := by unfold tn; split <;> omega
  obtain ⟨o2, k2⟩ := fab_key h1 ot hi'
  have h2 := fab_lt h1
  refine ⟨by rw [ok_tn _ h2, o2], ?_⟩
  rw [tn_key h2, k2, tn_key ha]; omega
theorem key_bound {a : Nat} (ha : a < 4294967296) (oa : ok a = true) : -2139095040 ≤ key a ∧ key a ≤ 2139095040 := by
  have := ok_mod oa
  by_cases h : 2147483648 ≤ a
  · rw [key_neg h]; omega
  · rw [key_pos (by omega)]; omega

end Go.Proofs.Ytibjjlogdepgjaa
