import Derived.Test.YtkkflgiepfenpaaSBtw
namespace Go.Proofs.Ytkkflgiepfenpaa
open Go.RowKit

/-- half way to the next smaller, in quarters -/
def hlo (r : Nat) : Nat := if rdm r = 8388608 ∧ 0 < rdk r then 4 * rdm r - 1 else 4 * rdm r - 2
theorem halves_any (r : Nat) (w : World) (h : r < 4294967296) (h0 : 0 < rdm r) :
    Calls Try.prog 9 #[.int .u32 r] w fun e w' => e = .returned (.tuple #[.int .u64 (hlo r), .int .u64 ((4 * rdm r + 2 : Nat) : Int), .int .i64 (-151 + (rdk r : Int)), .bool (rdm r % 2 == 0)]) ∧ w' = w := by
  obtain ⟨-, hv, hm, -⟩ := rd_val r
  have hk : rdk r < 256 := by omega
  have r1 := fun w => read_any r w h
  unfold hlo
  generalize rdm r = M at *
  generalize rdk r = K at *
  have hpar : ((M : Int) % 2 == 0) = (M % 2 == 0) := by
    by_cases e : M % 2 = 0
    · rw [e, show (M : Int) % 2 = 0 by omega]; rfl
    · rw [show M % 2 = 1 by omega, show (M : Int) % 2 = 1 by omega]; rfl
  rw [← hpar]
  by_cases hc : M = 8388608
  · subst hc
    by_cases hk0 : 0 < K
    · have g1 : decide ((-149 : Int) < -149 + (K : Int)) = true := decide_eq_true (by omega)
      rw [if_pos ⟨rfl, hk0⟩]
      go_enter Try.func9, Try.ntmps9
      go_wp2_with (go_at_call 7; refine (r1 _).mono ?_; rintro e wq ⟨rfl, hq⟩; subst wq)
      refine bodyPost_ret (v := .tuple #[.int .u64 33554431, .int .u64 33554434, .int .i64 (-151 + (K : Int)), .bool true]) (by simp [results, Try.f9, go_sem]; omega) rfl ?_
      exact ⟨rfl, rfl⟩
    · have hk1 : K = 0 := by omega
      subst hk1
      rw [if_neg (by omega)]
      go_enter Try.func9, Try.ntmps9
      go_wp2_with (go_at_call 7; refine (r1 _).mono ?_; rintro e wq ⟨rfl, hq⟩; subst wq)
      refine bodyPost_ret (v := .tuple #[.int .u64 33554430, .int .u64 33554434, .int .i64 (-151), .bool true]) (by simp [results, Try.f9, go_sem]) rfl ?_
      exact ⟨rfl, rfl⟩
  · have g1 : ((M : Int) == 8388608) = false := by simp; omega
    rw [if_neg (by omega)]
    go_enter Try.func9, Try.ntmps9
    go_wp2_with (go_at_call 7; refine (r1 _).mono ?_; rintro e wq ⟨rfl, hq⟩; subst wq)
    refine bodyPost_ret (v := .tuple #[.int .u64 (4 * (M : Int) - 2), .int .u64 (4 * (M : Int) + 2), .int .i64 (-151 + (K : Int)), .bool ((M : Int) % 2 == 0)]) (by simp [results, Try.f9, go_sem]; exact ⟨by omega, hpar.symm⟩) rfl ?_
    exact ⟨by rw [show ((4 * M - 2 : Nat) : Int) = 4 * (M : Int) - 2 by omega]; rfl, rfl⟩

theorem can_lt {x y n e : Nat} : x * 2 ^ (n + e) < y * 2 ^ e ↔ x * 2 ^ n < y := by
  rw [Nat.pow_add, ← Nat.mul_assoc]
  exact Nat.mul_lt_mul_right (Nat.two_pow_pos e)
theorem can_eq {x y n e : Nat} : x * 2 ^ (n + e) = y * 2 ^ e ↔ x * 2 ^ n = y := by
  rw [Nat.pow_add, ← Nat.mul_assoc]
  exact ⟨fun h => Nat.eq_of_mul_eq_mul_right (Nat.two_pow_pos e) h, fun h => by rw [h]⟩
theorem btw_of {value lo hi E1 E2 : Nat} {power at_ : Int} {ends : Bool} (hE : power - at_ = (E1 : Int) - E2)
    (h1 : lo * 2 ^ E2 < value * 2 ^ E1 ∨ lo * 2 ^ E2 = value * 2 ^ E1 ∧ ends = true) (h2 : value * 2 ^ E1 < hi * 2 ^ E2 ∨ value * 2 ^ E1 = hi * 2 ^ E2 ∧ ends = true) : Btw value power lo hi at_ ends := by
  constructor
  · intro hle
    obtain ⟨n, rfl⟩ : ∃ n, E1 = n + E2 := ⟨E1 - E2, by omega⟩
    rw [show (power - at_).toNat = n by omega]
    have f : ∀ x y : Nat, x * 2 ^ E2 < y * 2 ^ E2 ↔ x < y := fun x y => Nat.mul_lt_mul_right (Nat.two_pow_pos E2)
    rw [Nat.pow_add, ← Nat.mul_assoc] at h1 h2
    rw [f] at h1 h2
    refine ⟨h1.imp_right fun h => ⟨Nat.eq_of_mul_eq_mul_right (Nat.two_pow_pos E2) h.1, h.2⟩, h2.imp_right fun h => ⟨Nat.eq_of_mul_eq_mul_right (Nat.two_pow_pos E2) h.1, h.2⟩⟩
  · intro hlt
    obtain ⟨n, rfl⟩ : ∃ n, E2 = n + E1 := ⟨E2 - E1, by omega⟩
    rw [show (at_ - power).toNat = n by omega]
    have f : ∀ x y : Nat, x * 2 ^ E1 < y * 2 ^ E1 ↔ x < y := fun x y => Nat.mul_lt_mul_right (Nat.two_pow_pos E1)
    rw [Nat.pow_add, ← Nat.mul_assoc] at h1 h2
    rw [f] at h1 h2
    refine ⟨h1.imp_right fun h => ⟨Nat.eq_of_mul_eq_mul_right (Nat.two_pow_pos E1) h.1, h.2⟩, h2.imp_right fun h => ⟨Nat.eq_of_mul_eq_mul_right (Nat.two_pow_pos E1) h.1, h.2⟩⟩
/-- the halves, by the rungs' sizes -/
theorem halves_val (a : Nat) (h0 : 0 < a % 2147483648) : (val (a % 2147483648) + val (a % 2147483648 + 1)) * 2 = (4 * rdm a + 2) * 2 ^ rdk a ∧ (∀ r', r' + 1 = a % 2147483648 → (val r' + val (a % 2147483648)) * 2 = hlo a * 2 ^ rdk a) ∧ 0 < rdm a ∧ 0 < hlo a ∧ (a % 2147483648) % 2 = rdm a % 2 := by
  obtain ⟨v, f, hm, hk⟩ := rd_val a
  generalize a % 2147483648 = r at *
  unfold hlo
  generalize rdm a = M at *
  generalize rdk a = K at *
  subst f
  have hM : 0 < M := by
    rcases hk with rfl | h
    · omega
    · omega
  refine ⟨?_, fun r' hr' => ?_, hM, by split <;> omega, by omega⟩
  · rw [← v, val_vl, Nat.add_assoc, vl_at 8388608 (by decide) K (M + 1) (by omega) (by omega), ← Nat.add_mul, Nat.mul_assoc, Nat.mul_comm (2 ^ K) 2, ← Nat.mul_assoc]
    congr 1; omega
  · rw [← v]
    split
    · rename_i hc
      obtain ⟨hc, hK0⟩ := hc
      obtain ⟨j, rfl⟩ : ∃ j, K = j + 1 := ⟨K - 1, by omega⟩
      have : r' = j * 8388608 + 16777215 := by omega
      rw [this, val_vl, vl_at 8388608 (by decide) j 16777215 (Or.inr (by decide)) (by decide), hc, Nat.pow_succ]
      omega
    · rename_i hc
      have : r' = K * 8388608 + (M - 1) := by omega
      rw [this, val_vl, vl_at 8388608 (by decide) K (M - 1) (by omega) (by omega), ← Nat.add_mul, Nat.mul_assoc, Nat.mul_comm (2 ^ K) 2, ← Nat.mul_assoc]
      congr 1; omega
/-- nearest, as the law tells it -/
theorem near_btw {a d N value E : Nat} {power : Int} (h0 : 0 < a % 2147483648) (hn : Near 8388608 d N (a % 2147483648)) (hN : N = value * 2 ^ E) (hE : power + 149 + d = E) :
    Btw value power (hlo a) (4 * rdm a + 2) (-151 + (rdk a : Int)) (rdm a % 2 == 0) := by
  obtain ⟨e1, e2, -, -, e5⟩ := halves_val a h0
  obtain ⟨⟨u1, u2⟩, u3⟩ := hn
  rw [← val_vl, ← val_vl] at u1 u2
  have hpar : ∀ {x : Nat}, x % 2 = 0 → x % 2 = rdm a % 2 → (rdm a % 2 == 0) = true := fun p q => by rw [← q, p]; rfl
  refine btw_of (E1 := E + 2) (E2 := rdk a + d) (by omega) ?_ ?_
  · obtain ⟨r', hr'⟩ : ∃ r', r' + 1 = a % 2147483648 := ⟨a % 2147483648 - 1, by omega⟩
    have l := e2 r' hr'
    obtain ⟨l1, l2⟩ := u3 r' hr'
    rw [← val_vl, ← val_vl] at l1 l2
    have t : hlo a * 2 ^ (rdk a + d) = (val r' + val (a % 2147483648)) * 2 ^ d * 2 := by
      rw [Nat.pow_add, ← Nat.mul_assoc, ← l, Nat.mul_assoc, Nat.mul_comm 2 (2 ^ d), ← Nat.mul_assoc]
    have t2 : value * 2 ^ (E + 2) = 2 * N * 2 := by rw [hN, Nat.pow_add, ← Nat.mul_assoc]; omega
    rw [t, t2]
    rcases Nat.lt_or_eq_of_le l1 with g | g
    · exact Or.inl (by omega)
    · exact Or.inr ⟨by omega, hpar (l2 g) e5⟩
  · have t : (4 * rdm a + 2) * 2 ^ (rdk a + d) = (val (a % 2147483648) + val (a % 2147483648 + 1)) * 2 ^ d * 2 := by
      rw [Nat.pow_add, ← Nat.mul_assoc, ← e1, Nat.mul_assoc, Nat.mul_comm 2 (2 ^ d), ← Nat.mul_assoc]
    have t2 : value * 2 ^ (E + 2) = 2 * N * 2 := by rw [hN, Nat.pow_add, ← Nat.mul_assoc]; omega
    rw [t, t2]
    rcases Nat.lt_or_eq_of_le u1 with g | g
    · exact Or.inl (by omega)
    · exact Or.inr ⟨by omega, hpar (u2 g) e5⟩
/-- what is too great -/
theorem near_great {d N r : Nat} (hn : Near 8388608 d N r) : 33554431 * 2 ^ 252 * 2 ^ d ≤ N ↔ 2139095040 ≤ r := by
  have e1 : vl 8388608 2139095039 = 16777215 * 2 ^ 253 := vl_at 8388608 (by decide) 253 16777215 (Or.inr (by decide)) (by decide)
  have e2 : vl 8388608 2139095040 = 16777216 * 2 ^ 253 := vl_at 8388608 (by decide) 253 16777216 (Or.inr (by decide)) (by decide)
  have e3 : (vl 8388608 2139095039 + vl 8388608 2139095040) * 2 ^ d = 2 * (33554431 * 2 ^ 252 * 2 ^ d) := by
    rw [e1, e2, ← Nat.add_mul, show (16777215 + 16777216) = 33554431 from rfl, Nat.pow_succ 2 252, ← Nat.mul_assoc, ← Nat.mul_assoc, Nat.mul_comm _ 2, Nat.mul_assoc 2]
  generalize 33554431 * 2 ^ 252 * 2 ^ d = G at *
  have hp := Nat.two_pow_pos d
  constructor
  · intro h
    apply Nat.le_of_not_lt
    intro hlt
    obtain ⟨⟨u1, u2⟩, -⟩ := hn
    by_cases e : r = 2139095039
    · subst e
      have := u2 (by rw [e3]; rw [e3] at u1; omega)
      omega
    · have a1 := vl_lt 8388608 (by decide) (show r < 2139095039 by omega)
      have a2 := vl_lt 8388608 (by decide) (show r + 1 < 2139095040 by omega)
      have := Nat.mul_lt_mul_of_pos_right (show vl 8388608 r + vl 8388608 (r + 1) < vl 8388608 2139095039 + vl 8388608 2139095040 by omega) hp
      omega
  · intro h
    obtain ⟨r', hr'⟩ : ∃ r', r' + 1 = r := ⟨r - 1, by omega⟩
    obtain ⟨l1, -⟩ := hn.2 r' hr'
    have a1 := vl_le 8388608 (by decide) (show 2139095039 ≤ r' by omega)
    have a2 := vl_le 8388608 (by decide) h
    have := Nat.mul_le_mul_right (2 ^ d) (show vl 8388608 2139095039 + vl 8388608 2139095040 ≤ vl 8388608 r' + vl 8388608 r by omega)
    omega
end Go.Proofs.Ytkkflgiepfenpaa
