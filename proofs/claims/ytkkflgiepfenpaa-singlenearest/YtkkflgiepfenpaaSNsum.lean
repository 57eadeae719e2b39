import Derived.Test.YtkkflgiepfenpaaSHal
namespace Go.Proofs.Ytkkflgiepfenpaa
open Go.RowKit

def sg (a : Nat) (x : Nat) : Int := if sn a then -(x : Int) else (x : Int)
theorem sn_bool (a : Nat) (h : a < 4294967296) : ((a : Int) != ((a % 2147483648 : Nat) : Int)) = sn a := by
  unfold sn
  by_cases h' : a < 2147483648
  · rw [show a / 2147483648 % 2 = 0 by omega, show a % 2147483648 = a by omega]; simp
  · rw [show a / 2147483648 % 2 = 1 by omega]
    have : ((a : Int) == ((a % 2147483648 : Nat) : Int)) = false := by simp; omega
    rw [bne, this]; rfl
theorem signed_any (a n : Nat) (w : World) (h : a < 4294967296) (hn : n ≤ 38) :
    Calls Try.prog 14 #[.int .u32 a, .int .i64 n] w fun e w' => e = .returned (.int .i64 (sg a (rdm a * 2 ^ n))) ∧ w' = w := by
  obtain ⟨-, -, hm, -⟩ := rd_val a
  have r1 := fun w => read_any a w h
  have hb := b_and a h
  have hs := sn_bool a h
  have hlt : rdm a * 2 ^ n < 4611686018427387904 := by
    have h1 : 2 ^ n ≤ 2 ^ 38 := Nat.pow_le_pow_right (by decide) hn
    have h2 : rdm a * 2 ^ n ≤ 16777215 * 2 ^ 38 := Nat.mul_le_mul (by omega) h1
    omega
  have hw : IntKind.u64.wrap ((rdm a : Int) * 2 ^ n) = ((rdm a * 2 ^ n : Nat) : Int) := by
    have e : (rdm a : Int) * 2 ^ n = ((rdm a * 2 ^ n : Nat) : Int) := by simp
    rw [e]
    show ((rdm a * 2 ^ n : Nat) : Int) % 18446744073709551616 = _
    omega
  have e3 : (rdm a : Int) * 2 ^ n = ((rdm a * 2 ^ n : Nat) : Int) := by simp
  rw [e3] at hw
  unfold sg
  generalize rdk a = K at *
  generalize hX : rdm a * 2 ^ n = X at *
  generalize rdm a = M at *
  cases hsa : sn a
  · rw [hsa] at hs
    go_enter Try.func14, Try.ntmps14
    go_wp2_with (go_at_call 7; refine (r1 _).mono ?_; rintro e wq ⟨rfl, hq⟩; subst wq)
    go_ret
    exact ⟨rfl, rfl⟩
  · rw [hsa] at hs
    go_enter Try.func14, Try.ntmps14
    go_wp2_with (go_at_call 7; refine (r1 _).mono ?_; rintro e wq ⟨rfl, hq⟩; subst wq)
    go_ret
    exact ⟨rfl, rfl⟩
theorem great_any (x q : Nat) (w : World) (hx : x < 4611686018427387904) (hq : q ≤ 253) :
    Calls Try.prog 15 #[.int .u64 x, .int .i64 (-149 + (q : Int))] w fun e w' => e = .returned (.bool (decide (33554431 * 2 ^ 252 ≤ x * 2 ^ q))) ∧ w' = w := by
  by_cases h : q = 253
  · subst h
    have hd : decide ((33554431 : Int) ≤ (x : Int) * 2) = decide (33554431 * 2 ^ 252 ≤ x * 2 ^ 253) := by
      apply decide_eq_decide.2
      rw [Nat.pow_succ 2 252, Nat.mul_comm (2 ^ 252) 2, ← Nat.mul_assoc]
      constructor
      · intro h; exact Nat.mul_le_mul_right _ (by omega)
      · intro h; have := Nat.le_of_mul_le_mul_right h (Nat.two_pow_pos 252); omega
    rw [← hd]
    clear hd
    go_enter Try.func15, Try.ntmps15
    go_wp2
    go_ret
    exact ⟨rfl, rfl⟩
  · obtain ⟨j, hj⟩ : ∃ j, q + j = 252 := ⟨252 - q, by omega⟩
    have g1 : decide ((103 : Int) < -149 + (q : Int)) = false := decide_eq_false (by omega)
    have gj : (103 : Int) - (-149 + (q : Int)) = (j : Int) := by omega
    by_cases h39 : j ≤ 39
    · have g2 : decide ((j : Int) ≤ 39) = true := decide_eq_true (by omega)
      have hlt : 33554431 * 2 ^ j < 18446744073709551616 := by
        have h1 : 2 ^ j ≤ 2 ^ 39 := Nat.pow_le_pow_right (by decide) h39
        omega
      have hw : IntKind.u64.wrap ((33554431 : Int) * 2 ^ j) = ((33554431 * 2 ^ j : Nat) : Int) := by
        have e : (33554431 : Int) * 2 ^ j = ((33554431 * 2 ^ j : Nat) : Int) := by simp
        rw [e]
        show ((33554431 * 2 ^ j : Nat) : Int) % 18446744073709551616 = _
        omega
      have hd : decide (((33554431 * 2 ^ j : Nat) : Int) ≤ (x : Int)) = decide (33554431 * 2 ^ 252 ≤ x * 2 ^ q) := by
        apply decide_eq_decide.2
        rw [← hj, Nat.pow_add, Nat.mul_comm (2 ^ q), ← Nat.mul_assoc]
        constructor
        · intro h; exact Nat.mul_le_mul_right _ (by omega)
        · intro h; have := Nat.le_of_mul_le_mul_right h (Nat.two_pow_pos q); omega
      rw [← hd]
      clear hd
      go_enter Try.func15, Try.ntmps15
      go_wp2
      go_ret
      exact ⟨rfl, rfl⟩
    · have g2 : decide ((j : Int) ≤ 39) = false := decide_eq_false (by omega)
      have hd : decide (33554431 * 2 ^ 252 ≤ x * 2 ^ q) = false := by
        apply decide_eq_false
        rw [← hj, Nat.pow_add, Nat.mul_comm (2 ^ q), ← Nat.mul_assoc]
        intro h
        have h3 := Nat.le_of_mul_le_mul_right h (Nat.two_pow_pos q)
        have h1 : 2 ^ 40 ≤ 2 ^ j := Nat.pow_le_pow_right (by decide) (by omega)
        omega
      rw [hd]
      clear hd
      go_enter Try.func15, Try.ntmps15
      go_wp2
      go_ret
      exact ⟨rfl, rfl⟩
end Go.Proofs.Ytkkflgiepfenpaa
