import Derived.Test.YtadjdccjhaejfaaABase
namespace Go.Proofs.Ytadjdccjhaejfaa
open Go.RowKit
theorem bit_step (a b : Nat) : (a &&& b) / 2 = (a / 2) &&& (b / 2) ∧ (a ||| b) / 2 = (a / 2) ||| (b / 2) ∧ (a ^^^ b) / 2 = (a / 2) ^^^ (b / 2) := by
  have h := fun x : Nat => Nat.shiftRight_eq_div_pow x 1
  simp only [Nat.pow_one] at h
  rw [← h, ← h, ← h, ← h, ← h, Nat.shiftRight_and_distrib, Nat.shiftRight_or_distrib, Nat.shiftRight_xor_distrib]
  exact ⟨rfl, rfl, rfl⟩
theorem bit_low (a b : Nat) : (a &&& b) % 2 = (a % 2) &&& (b % 2) ∧ (a ||| b) % 2 = (a % 2) ||| (b % 2) ∧ (a ^^^ b) % 2 = (a % 2) ^^^ (b % 2) :=
  ⟨Nat.and_mod_two_pow (n := 1), Nat.or_mod_two_pow (n := 1), Nat.xor_mod_two_pow (n := 1)⟩
theorem bits_add : ∀ n a b : Nat, a < 2 ^ n → b < 2 ^ n → (a &&& b) + (a ||| b) = a + b ∧ (a ^^^ b) + (a &&& b) = a ||| b := by
  intro n
  induction n with
  | zero => intro a b ha hb; obtain rfl : a = 0 := by omega
            obtain rfl : b = 0 := by omega
            decide
  | succ n ih =>
    intro a b ha hb
    obtain ⟨i1, i2⟩ := ih (a / 2) (b / 2) (by omega) (by omega)
    obtain ⟨s1, s2, s3⟩ := bit_step a b
    obtain ⟨l1, l2, l3⟩ := bit_low a b
    rw [← s1, ← s2] at i1
    rw [← s1, ← s2, ← s3] at i2
    have ea : a % 2 = 0 ∨ a % 2 = 1 := by omega
    have eb : b % 2 = 0 ∨ b % 2 = 1 := by omega
    have c1 : (0 &&& 0 : Nat) = 0 := rfl
    have c2 : (0 &&& 1 : Nat) = 0 := rfl
    have c3 : (1 &&& 0 : Nat) = 0 := rfl
    have c4 : (1 &&& 1 : Nat) = 1 := rfl
    have c5 : (0 ||| 0 : Nat) = 0 := rfl
    have c6 : (0 ||| 1 : Nat) = 1 := rfl
    have c7 : (1 ||| 0 : Nat) = 1 := rfl
    have c8 : (1 ||| 1 : Nat) = 1 := rfl
    have c9 : (0 ^^^ 0 : Nat) = 0 := rfl
    have d1 : (0 ^^^ 1 : Nat) = 1 := rfl
    have d2 : (1 ^^^ 0 : Nat) = 1 := rfl
    have d3 : (1 ^^^ 1 : Nat) = 0 := rfl
    rcases ea with ea | ea <;> rcases eb with eb | eb <;> rw [ea, eb] at l1 l2 l3 <;> simp only [c1, c2, c3, c4, c5, c6, c7, c8, c9, d1, d2, d3] at l1 l2 l3 <;> constructor <;> omega
theorem and_or_self (a b : Nat) : a &&& (a ||| b) = a := by
  apply Nat.eq_of_testBit_eq
  intro i
  simp only [Nat.testBit_and, Nat.testBit_or]
  cases a.testBit i <;> simp
theorem not_and_word {a b : Nat} (ha : a < 4294967296) (hb : b < 4294967296) : (4294967295 - a) ||| (4294967295 - b) = 4294967295 - (a &&& b) := by
  have h : (~~~ (BitVec.ofNat 32 a &&& BitVec.ofNat 32 b)).toNat = (~~~ BitVec.ofNat 32 a ||| ~~~ BitVec.ofNat 32 b).toNat := by rw [BitVec.not_and]
  rw [BitVec.toNat_not, BitVec.toNat_and, BitVec.toNat_or, BitVec.toNat_not, BitVec.toNat_not, BitVec.toNat_ofNat, BitVec.toNat_ofNat, Nat.mod_eq_of_lt ha, Nat.mod_eq_of_lt hb] at h
  exact h.symm
set_option maxRecDepth 100000 in
set_option maxHeartbeats 1000000 in
theorem ring_some (a b c s d nb p p1 p2 na ng an o x z nt : Nat) (w : World) (ha : a < 4294967296) (hb : b < 4294967296) (hc : c < 4294967296) (h_s : (a + b) % 4294967296 = s) (h_d : (a + 4294967296 - b) % 4294967296 = d) (h_nb : (4294967296 - b) % 4294967296 = nb) (h_p : s * c % 4294967296 = p) (h_p1 : a * c % 4294967296 = p1) (h_p2 : b * c % 4294967296 = p2) (h_na : 4294967295 - a = na) (h_ng : (4294967296 - a) % 4294967296 = ng) (h_an : a &&& b = an) (h_o : a ||| b = o) (h_x : a ^^^ b = x) (h_z : 4294967295 - an = z) (h_nt : 4294967295 - b = nt) :
    Calls Try.prog 7 #[.int .u32 a, .int .u32 b, .int .u32 c] w fun e w' => e = .returned (.bool true) ∧ Below w.heap.size w w' := by
  have l_s : s < 4294967296 := by rw [← h_s]; exact Nat.mod_lt _ (by decide)
  have l_d : d < 4294967296 := by rw [← h_d]; exact Nat.mod_lt _ (by decide)
  have l_nb : nb < 4294967296 := by rw [← h_nb]; exact Nat.mod_lt _ (by decide)
  have l_p : p < 4294967296 := by rw [← h_p]; exact Nat.mod_lt _ (by decide)
  have l_p1 : p1 < 4294967296 := by rw [← h_p1]; exact Nat.mod_lt _ (by decide)
  have l_p2 : p2 < 4294967296 := by rw [← h_p2]; exact Nat.mod_lt _ (by decide)
  have l_ng : ng < 4294967296 := by rw [← h_ng]; exact Nat.mod_lt _ (by decide)
  obtain ⟨i1, i2⟩ := bits_add 32 a b ha hb
  rw [h_an, h_o] at i1
  rw [h_an, h_o, h_x] at i2
  have l_an : an < 4294967296 := by rw [← h_an]; exact Nat.and_lt_two_pow a (n := 32) hb
  have l_o : o < 4294967296 := by rw [← h_o]; exact Nat.or_lt_two_pow (n := 32) ha hb
  have l_x : x < 4294967296 := by omega
  have l_z : z < 4294967296 := by omega
  have l_na : na < 4294967296 := by omega
  have l_nt : nt < 4294967296 := by omega
  have k1 : (p1 + p2) % 4294967296 = p := by
    rw [← h_p1, ← h_p2, ← Nat.add_mod, ← Nat.add_mul, ← h_p, ← h_s, Nat.mod_mul_mod]
  have k2 : na ||| nt = z := by rw [← h_na, ← h_nt, ← h_z, ← h_an]; exact not_and_word ha hb
  have k3 : a &&& o = a := by rw [← h_o]; exact and_or_self a b
  have HB : Below w.heap.size w w := Below.refl _ _
  have c0 : Two 39 ((a : Nat) : Int) ((b : Nat) : Int) ((s : Nat) : Int) := two_is 39 (a) (b) (s) (by assumption) (by assumption) (by rw [binV_39, h_s])
  have c1 : Two 39 ((b : Nat) : Int) ((a : Nat) : Int) ((s : Nat) : Int) := two_is 39 (b) (a) (s) (by assumption) (by assumption) (by rw [binV_39, Nat.add_comm, h_s])
  have c2 : Two 40 ((s : Nat) : Int) ((b : Nat) : Int) ((a : Nat) : Int) := two_is 40 (s) (b) (a) (by assumption) (by assumption) (by rw [binV_40]; omega)
  have c3 : Two 40 ((a : Nat) : Int) ((b : Nat) : Int) ((d : Nat) : Int) := two_is 40 (a) (b) (d) (by assumption) (by assumption) (by rw [binV_40, h_d])
  have c4 : One 38 ((b : Nat) : Int) ((nb : Nat) : Int) := one_is 38 (b) (nb) (by assumption) (by rw [unV_38, h_nb])
  have c5 : Two 39 ((a : Nat) : Int) ((nb : Nat) : Int) ((d : Nat) : Int) := two_is 39 (a) (nb) (d) (by assumption) (by assumption) (by rw [binV_39]; omega)
  have c6 : Two 41 ((s : Nat) : Int) ((c : Nat) : Int) ((p : Nat) : Int) := two_is 41 (s) (c) (p) (by assumption) (by assumption) (by rw [binV_41, h_p])
  have c7 : Two 41 ((a : Nat) : Int) ((c : Nat) : Int) ((p1 : Nat) : Int) := two_is 41 (a) (c) (p1) (by assumption) (by assumption) (by rw [binV_41, h_p1])
  have c8 : Two 41 ((b : Nat) : Int) ((c : Nat) : Int) ((p2 : Nat) : Int) := two_is 41 (b) (c) (p2) (by assumption) (by assumption) (by rw [binV_41, h_p2])
  have c9 : Two 39 ((p1 : Nat) : Int) ((p2 : Nat) : Int) ((p : Nat) : Int) := two_is 39 (p1) (p2) (p) (by assumption) (by assumption) (by rw [binV_39, k1])
  have c10 : Two 41 ((c : Nat) : Int) ((s : Nat) : Int) ((p : Nat) : Int) := two_is 41 (c) (s) (p) (by assumption) (by assumption) (by rw [binV_41, Nat.mul_comm, h_p])
  have c11 : One 49 ((a : Nat) : Int) ((na : Nat) : Int) := one_is 49 (a) (na) (by assumption) (by rw [unV_49, h_na])
  have c12 : One 38 ((a : Nat) : Int) ((ng : Nat) : Int) := one_is 38 (a) (ng) (by assumption) (by rw [unV_38, h_ng])
  have c13 : Two 40 ((ng : Nat) : Int) 1 ((na : Nat) : Int) := two_is 40 (ng) (1) (na) (by assumption) (by decide) (by rw [binV_40]; omega)
  have c14 : One 49 ((na : Nat) : Int) ((a : Nat) : Int) := one_is 49 (na) (a) (by assumption) (by rw [unV_49]; omega)
  have c15 : Two 46 ((a : Nat) : Int) ((b : Nat) : Int) ((an : Nat) : Int) := two_is 46 (a) (b) (an) (by assumption) (by assumption) (by rw [binV_46, h_an])
  have c16 : Two 47 ((a : Nat) : Int) ((b : Nat) : Int) ((o : Nat) : Int) := two_is 47 (a) (b) (o) (by assumption) (by assumption) (by rw [binV_47, h_o])
  have c17 : Two 39 ((an : Nat) : Int) ((o : Nat) : Int) ((s : Nat) : Int) := two_is 39 (an) (o) (s) (by assumption) (by assumption) (by rw [binV_39, i1, h_s])
  have c18 : Two 48 ((a : Nat) : Int) ((b : Nat) : Int) ((x : Nat) : Int) := two_is 48 (a) (b) (x) (by assumption) (by assumption) (by rw [binV_48, h_x])
  have c19 : Two 40 ((o : Nat) : Int) ((an : Nat) : Int) ((x : Nat) : Int) := two_is 40 (o) (an) (x) (by assumption) (by assumption) (by rw [binV_40]; omega)
  have c20 : Two 46 ((a : Nat) : Int) ((o : Nat) : Int) ((a : Nat) : Int) := two_is 46 (a) (o) (a) (by assumption) (by assumption) (by rw [binV_46, k3])
  have c21 : One 49 ((an : Nat) : Int) ((z : Nat) : Int) := one_is 49 (an) (z) (by assumption) (by rw [unV_49, h_z])
  have c22 : One 49 ((b : Nat) : Int) ((nt : Nat) : Int) := one_is 49 (b) (nt) (by assumption) (by rw [unV_49, h_nt])
  have c23 : Two 47 ((na : Nat) : Int) ((nt : Nat) : Int) ((z : Nat) : Int) := two_is 47 (na) (nt) (z) (by assumption) (by assumption) (by rw [binV_47, k2])
  clear h_s h_d h_nb h_p h_p1 h_p2 h_na h_ng h_an h_o h_x h_z h_nt i1 i2 k1 k2 k3
  go_enter Try.func7, Try.ntmps7
  go_wp2_with (first
    | (go_at_call 11; with_reducible refine (c0 _).mono ?_; rintro e wq ⟨rfl, hq⟩; replace HB : Below w.heap.size w wq := bt2 hq HB)
    | (go_at_call 11; with_reducible refine (c1 _).mono ?_; rintro e wq ⟨rfl, hq⟩; replace HB : Below w.heap.size w wq := bt2 hq HB)
    | (go_at_call 11; with_reducible refine (c2 _).mono ?_; rintro e wq ⟨rfl, hq⟩; replace HB : Below w.heap.size w wq := bt2 hq HB)
    | (go_at_call 11; with_reducible refine (c3 _).mono ?_; rintro e wq ⟨rfl, hq⟩; replace HB : Below w.heap.size w wq := bt2 hq HB)
    | (go_at_call 10; with_reducible refine (c4 _).mono ?_; rintro e wq ⟨rfl, hq⟩; subst wq)
    | (go_at_call 11; with_reducible refine (c5 _).mono ?_; rintro e wq ⟨rfl, hq⟩; replace HB : Below w.heap.size w wq := bt2 hq HB)
    | (go_at_call 11; with_reducible refine (c6 _).mono ?_; rintro e wq ⟨rfl, hq⟩; replace HB : Below w.heap.size w wq := bt2 hq HB)
    | (go_at_call 11; with_reducible refine (c7 _).mono ?_; rintro e wq ⟨rfl, hq⟩; replace HB : Below w.heap.size w wq := bt2 hq HB)
    | (go_at_call 11; with_reducible refine (c8 _).mono ?_; rintro e wq ⟨rfl, hq⟩; replace HB : Below w.heap.size w wq := bt2 hq HB)
    | (go_at_call 11; with_reducible refine (c9 _).mono ?_; rintro e wq ⟨rfl, hq⟩; replace HB : Below w.heap.size w wq := bt2 hq HB)
    | (go_at_call 11; with_reducible refine (c10 _).mono ?_; rintro e wq ⟨rfl, hq⟩; replace HB : Below w.heap.size w wq := bt2 hq HB)
    | (go_at_call 10; with_reducible refine (c11 _).mono ?_; rintro e wq ⟨rfl, hq⟩; subst wq)
    | (go_at_call 10; with_reducible refine (c12 _).mono ?_; rintro e wq ⟨rfl, hq⟩; subst wq)
    | (go_at_call 11; with_reducible refine (c13 _).mono ?_; rintro e wq ⟨rfl, hq⟩; replace HB : Below w.heap.size w wq := bt2 hq HB)
    | (go_at_call 10; with_reducible refine (c14 _).mono ?_; rintro e wq ⟨rfl, hq⟩; subst wq)
    | (go_at_call 11; with_reducible refine (c15 _).mono ?_; rintro e wq ⟨rfl, hq⟩; replace HB : Below w.heap.size w wq := bt2 hq HB)
    | (go_at_call 11; with_reducible refine (c16 _).mono ?_; rintro e wq ⟨rfl, hq⟩; replace HB : Below w.heap.size w wq := bt2 hq HB)
    | (go_at_call 11; with_reducible refine (c17 _).mono ?_; rintro e wq ⟨rfl, hq⟩; replace HB : Below w.heap.size w wq := bt2 hq HB)
    | (go_at_call 11; with_reducible refine (c18 _).mono ?_; rintro e wq ⟨rfl, hq⟩; replace HB : Below w.heap.size w wq := bt2 hq HB)
    | (go_at_call 11; with_reducible refine (c19 _).mono ?_; rintro e wq ⟨rfl, hq⟩; replace HB : Below w.heap.size w wq := bt2 hq HB)
    | (go_at_call 11; with_reducible refine (c20 _).mono ?_; rintro e wq ⟨rfl, hq⟩; replace HB : Below w.heap.size w wq := bt2 hq HB)
    | (go_at_call 10; with_reducible refine (c21 _).mono ?_; rintro e wq ⟨rfl, hq⟩; subst wq)
    | (go_at_call 10; with_reducible refine (c22 _).mono ?_; rintro e wq ⟨rfl, hq⟩; subst wq)
    | (go_at_call 11; with_reducible refine (c23 _).mono ?_; rintro e wq ⟨rfl, hq⟩; replace HB : Below w.heap.size w wq := bt2 hq HB)
    | (go_at_call 9; with_reducible refine (awake6 _).mono ?_; rintro e wq ⟨rfl, hq⟩; replace HB : Below w.heap.size w wq := bt2 hq HB))
  go_ret
  exact ⟨rfl, HB⟩
theorem alu_ring (a b c : Nat) (w : World) (ha : a < 4294967296) (hb : b < 4294967296) (hc : c < 4294967296) :
    Calls Try.prog 7 #[.int .u32 a, .int .u32 b, .int .u32 c] w fun e w' => e = .returned (.bool true) ∧ Below w.heap.size w w' := ring_some a b c _ _ _ _ _ _ _ _ _ _ _ _ _ w ha hb hc rfl rfl rfl rfl rfl rfl rfl rfl rfl rfl rfl rfl rfl
end Go.Proofs.Ytadjdccjhaejfaa
