import Derived.Test.YtigiecodobgenaaSUp
namespace Go.Proofs.Ytigiecodobgenaa
open Go.RowKit

/-- how many bits -/
def nbits (x : Nat) : Nat := if x = 0 then 0 else x.log2 + 1
theorem nbits_spec (x : Nat) (k : Nat) : nbits x = k ↔ (k = 0 ∧ x = 0) ∨ (∃ j, k = j + 1 ∧ 2 ^ j ≤ x ∧ x < 2 ^ (j + 1)) := by
  unfold nbits
  by_cases h : x = 0
  · subst h
    rw [if_pos rfl]
    constructor
    · intro e; exact Or.inl ⟨e.symm, rfl⟩
    · rintro (⟨e, -⟩ | ⟨j, -, h1, -⟩)
      · exact e.symm
      · have := Nat.two_pow_pos j; omega
  · rw [if_neg h]
    have h1 : 2 ^ x.log2 ≤ x := Nat.log2_self_le h
    have h2 : x < 2 ^ (x.log2 + 1) := Nat.lt_log2_self
    constructor
    · intro e; exact Or.inr ⟨x.log2, e.symm, h1, h2⟩
    · rintro (⟨-, e⟩ | ⟨j, rfl, h3, h4⟩)
      · exact absurd e h
      · have a1 := (Nat.pow_lt_pow_iff_right (a := 2) (by decide)).1 (Nat.lt_of_le_of_lt h1 h4)
        have a2 := (Nat.pow_lt_pow_iff_right (a := 2) (by decide)).1 (Nat.lt_of_le_of_lt h3 h2)
        omega
theorem nbits_high (r t : Nat) (m : Nat) (hr : r < 4294967296 ^ m) (ht : 0 < t) : nbits (r + 4294967296 ^ m * t) = 32 * m + nbits t := by
  have e32 : 4294967296 ^ m = 2 ^ (32 * m) := by rw [Nat.pow_mul]
  rw [e32] at hr ⊢
  obtain ⟨j, hj⟩ : ∃ j, nbits t = j + 1 := by
    unfold nbits; rw [if_neg (by omega)]; exact ⟨_, rfl⟩
  obtain ⟨h1, h2⟩ : 2 ^ j ≤ t ∧ t < 2 ^ (j + 1) := by
    rcases (nbits_spec t (j + 1)).1 hj with ⟨h, -⟩ | ⟨i, h, h1, h2⟩
    · omega
    · obtain rfl : i = j := by omega
      exact ⟨h1, h2⟩
  rw [hj]
  refine (nbits_spec _ _).2 (Or.inr ⟨32 * m + j, by omega, ?_, ?_⟩)
  · rw [Nat.pow_add]
    have := Nat.mul_le_mul_left (2 ^ (32 * m)) h1
    omega
  · rw [show 32 * m + j + 1 = 32 * m + (j + 1) by omega, Nat.pow_add]
    have : 2 ^ (32 * m) * (t + 1) ≤ 2 ^ (32 * m) * 2 ^ (j + 1) := Nat.mul_le_mul_left _ h2
    rw [Nat.mul_add, Nat.mul_one] at this
    omega
theorem nbits_half (c : Nat) (h : 0 < c) : nbits c = nbits (c / 2) + 1 := by
  obtain ⟨j, hj⟩ : ∃ j, nbits c = j + 1 := by
    unfold nbits; rw [if_neg (by omega)]; exact ⟨_, rfl⟩
  obtain ⟨h1, h2⟩ : 2 ^ j ≤ c ∧ c < 2 ^ (j + 1) := by
    rcases (nbits_spec c (j + 1)).1 hj with ⟨h, -⟩ | ⟨i, h, h1, h2⟩
    · omega
    · obtain rfl : i = j := by omega
      exact ⟨h1, h2⟩
  rw [hj]
  congr 1
  symm
  refine (nbits_spec _ _).2 ?_
  cases j with
  | zero => exact Or.inl ⟨rfl, by omega⟩
  | succ i =>
    refine Or.inr ⟨i, rfl, ?_, ?_⟩
    · rw [Nat.pow_succ] at h1; omega
    · rw [Nat.pow_succ] at h2; omega
set_option maxRecDepth 100000 in
set_option maxHeartbeats 1000000 in
theorem size_any (ao : Option Addr) (cap : Nat) (zs : List Nat) (w : World) (hl : zs.length ≤ 1000000) (hr : ReadsU w ao zs w.heap.size) (hW : Words zs) (hN : Norm zs) :
    Calls Try.prog 46 #[.slice ao zs.length cap] w fun e w' => e = .returned (.int .i64 (nbits (nv zs))) ∧ w' = w := by
  by_cases h0 : zs.length = 0
  · have hz : zs = [] := List.length_eq_zero_iff.1 h0
    subst hz
    have hb : nbits (nv []) = 0 := by simp [nv, nbits]
    rw [hb]
    go_enter Try.func46, Try.ntmps46
    go_wp2
    go_ret
    exact ⟨rfl, rfl⟩
  · obtain ⟨m, hm⟩ : ∃ m, zs.length = m + 1 := ⟨zs.length - 1, by omega⟩
    obtain ⟨b, off, rfl, hbl, hc⟩ := hr (by omega)
    have hcm := hc m (by omega)
    have ht0 : zs.getD m 0 ≠ 0 := by
      rcases hN with h | h
      · omega
      · rwa [hm, Nat.add_sub_cancel] at h
    have htw := words_get hW m
    have hnb : nbits (nv zs) = 32 * m + nbits (zs.getD m 0) := by
      have hsp := nv_split zs m (by omega)
      rw [List.drop_eq_nil_of_le (by omega)] at hsp
      simp only [nv, Nat.mul_zero, Nat.add_zero] at hsp
      rw [hsp]
      have h1 := nv_lt (words_take hW m)
      rw [show (zs.take m).length = m by simp; omega] at h1
      exact nbits_high _ _ m h1 (by omega)
    rw [hnb]
    generalize zs.getD m 0 = t at *
    have g0 : ((zs.length : Int) == 0) = false := by simp; intro h; subst h; simp at hm
    have hlI : (zs.length : Int) = (m : Int) + 1 := by omega
    have hm2 : m ≤ 1000000 := by omega
    clear hc hnb hN hW hl h0
    go_enter Try.func46, Try.ntmps46
    go_wp2
    have HT : Hid (nbits t ≤ 32) := by
      show nbits t ≤ 32
      apply Nat.le_of_not_lt
      intro hlt
      rcases (nbits_spec t (nbits t)).1 rfl with ⟨h, -⟩ | ⟨i, h, h1, -⟩
      · omega
      · have : 2 ^ 32 ≤ 2 ^ i := Nat.pow_le_pow_right (by decide) (by omega)
        omega
    go_loop [3, 4] (fun n top => ∃ j c : Nat, n = .int .i64 (32 * (m : Int) + (j : Int)) ∧ top = .int .u32 (c : Int) ∧ nbits t = j + nbits c ∧ c < 4294967296) (fun _ top => (intOf top).toNat)
    case atStart => exact ⟨0, t, by first | rfl | (simp; done) | (go_num), rfl, by omega, by omega⟩
    case round =>
      obtain ⟨j, c, rfl, rfl, hj, hc4⟩ := hrel
      have hj32 := HT.out
      by_cases hc0 : c = 0
      · subst hc0
        have HJ : Hid (nbits t = j) := by
          show nbits t = j
          rw [hj]; simp [nbits]
        clear hj hj32
        go_wp2
        go_ret
        exact ⟨by rw [HJ.out]; first | rfl | (simp; done), rfl⟩
      · have hh := nbits_half c (by omega)
        have HJ : Hid (nbits t = j + 1 + nbits (c / 2)) := by
          show nbits t = j + 1 + nbits (c / 2)
          omega
        have hjb : j ≤ 32 := by omega
        have g1 : decide ((0 : Int) < (c : Int)) = true := decide_eq_true (by omega)
        have hcI : (0 : Int) < (c : Int) := by omega
        clear hj hj32 hh
        go_wp2
        go_round
        case rel => exact ⟨j + 1, c / 2, by first | go_num | (simp; omega), by first | go_num | (simp; done), HJ.out, by omega⟩
        case measure => simp [intOf]; omega
end Go.Proofs.Ytigiecodobgenaa
