import Derived.Test.YtpndbbepfjocgaaCuts
namespace Go.Proofs.Ytpndbbepfjocgaa

/-- the byte at a place -/
def bt (s : ByteArray) (i : Nat) : Nat := (s.get! i).toNat
theorem bt_eq (s : ByteArray) (i : Nat) (h : i < s.size) : bt s i = (s[i]'h).toNat := by rw [bt, ← get_at s i h]; rfl
theorem bt_lt (s : ByteArray) (i : Nat) : bt s i < 256 := (s.get! i).toNat_lt

theorem dec_low (s : ByteArray) (pos : Nat) (h : pos < s.size) (hb : bt s pos < 128) : wid s pos = 1 ∧ numAt s pos = bt s pos := by
  have hb' : (s[pos]'h).toNat < 128 := by rw [← bt_eq s pos h]; exact hb
  have hd := decode_ascii s pos h hb'
  unfold wid numAt
  rw [hd, bt_eq s pos h]
  refine ⟨rfl, ?_⟩
  rw [if_neg (by simp only; omega)]

theorem dec_high (s : ByteArray) (pos : Nat) (h : pos < s.size) (hb : 128 ≤ bt s pos) : pos + wid s pos ≤ s.size ∧ (numAt s pos < 0 ∨ 128 ≤ numAt s pos) ∧ ∀ j, j < wid s pos → 128 ≤ bt s (pos + j) := by
  have hb' : 128 ≤ (s[pos]'h).toNat := by rw [← bt_eq s pos h]; exact hb
  have h1 := (decode_high s pos h hb').1
  refine ⟨?_, ?_, ?_⟩
  · unfold wid
    simp only [Utf8.decode]
    repeat' split
    all_goals simp_all
    all_goals omega
  · unfold numAt
    split
    · have := bt_lt s pos
      unfold bt at this
      omega
    · omega
  · unfold wid
    simp only [Utf8.decode]
    have e : ∀ i, (s.get! i).toNat = bt s i := fun _ => rfl
    simp only [e, Nat.add_zero]
    intro j hj
    have hj4 : j = 0 ∨ j = 1 ∨ j = 2 ∨ j = 3 ∨ 4 ≤ j := by omega
    rcases hj4 with rfl | rfl | rfl | rfl | hj4
    · simpa using hb
    all_goals
      revert hj
      repeat' split
      all_goals simp_all
      all_goals omega

theorem wid_le (s : ByteArray) (pos : Nat) (h : pos < s.size) : pos + wid s pos ≤ s.size := by
  by_cases hb : bt s pos < 128
  · rw [(dec_low s pos h hb).1]; omega
  · exact (dec_high s pos h (by omega)).1
end Go.Proofs.Ytpndbbepfjocgaa
