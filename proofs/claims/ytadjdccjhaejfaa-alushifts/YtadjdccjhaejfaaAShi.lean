import Derived.Test.YtadjdccjhaejfaaABase
import Derived.Deep.RegionHeld3
namespace Go.Proofs.Ytadjdccjhaejfaa
open Go.RowKit
theorem shri_is {a g i u na k nk : Nat} (ha : a < 4294967296) (hg : 0 < g) (hi : (sx a / (g : Nat) % 4294967296).toNat = i) (hu : a / g = u) (hna : 4294967295 - a = na) (hk : na / g = k) (hnk : 4294967295 - k = nk) : (a < 2147483648 ∧ i = u) ∨ (¬ a < 2147483648 ∧ i = nk) := by
  by_cases h : a < 2147483648
  · left
    refine ⟨h, ?_⟩
    have e : sx a / ((g : Nat) : Int) = ((a / g : Nat) : Int) := by unfold sx; rw [if_pos h]; rfl
    rw [e] at hi
    have := Nat.div_le_self a g
    omega
  · right
    refine ⟨h, ?_⟩
    have e : sx a = Int.negSucc na := by unfold sx; rw [if_neg h, Int.negSucc_eq]; omega
    have e2 : sx a / ((g : Nat) : Int) = -(((na / g : Nat) : Int) + 1) := by
      rw [e, Int.negSucc_ediv _ (by omega)]; rfl
    rw [e2, hk] at hi
    have := Nat.div_le_self na g
    omega
theorem uw (x : Int) : IntKind.u32.wrap x = x % 4294967296 := by simp [IntKind.wrap, IntKind.signed, IntKind.bits]
theorem ones_shr (s : Nat) (hs : s < 32) : 4294967295 / 2 ^ s = 2 ^ (32 - s) - 1 := by
  have h : ∀ k, k < 32 → 4294967295 / 2 ^ k = 2 ^ (32 - k) - 1 := by decide
  exact h s hs
theorem shl_back (a s : Nat) (hs : s < 32) : a * 2 ^ s % 4294967296 / 2 ^ s = a % 2 ^ (32 - s) := by
  have e : 4294967296 = 2 ^ (32 - s) * 2 ^ s := by rw [← Nat.pow_add, show 32 - s + s = 32 by omega]
  rw [e, Nat.mul_mod_mul_right, Nat.mul_div_cancel _ (Nat.two_pow_pos s)]
set_option maxRecDepth 100000 in
set_option maxHeartbeats 1000000 in
theorem shift_some (a b s l u i m n na k nk : Nat) (w : World) (ha : a < 4294967296) (hb : b < 4294967296) (hs : (b : Int) % 32 = (s : Int)) (h_l : a * 2 ^ s % 4294967296 = l) (h_u : a / 2 ^ s = u) (h_i : (sx a / 2 ^ s % 4294967296).toNat = i) (h_m : l / 2 ^ s = m) (h_n : u * 2 ^ s % 4294967296 = n) (h_na : 4294967295 - a = na) (h_k : na / 2 ^ s = k) (h_nk : 4294967295 - k = nk) :
    Calls Try.prog 6 #[.int .u32 a, .int .u32 b] w fun e w' => e = .returned (.bool true) ∧ Below w.heap.size w w' := by
  have sl : s < 32 := by omega
  have se : b % 32 = s := by omega
  have ss : s % 32 = s := by omega
  have ls : s < 4294967296 := by omega
  have lu : u < 4294967296 := by have := Nat.div_le_self a (2 ^ s); omega
  have ll : l < 4294967296 := by rw [← h_l]; exact Nat.mod_lt _ (by decide)
  have lk : k < 4294967296 := by have := Nat.div_le_self na (2 ^ s); omega
  have lna : na < 4294967296 := by omega
  have hp : (2 : Nat) ^ s ≤ 2147483648 := Nat.pow_le_pow_right (by decide) (show s ≤ 31 by omega)
  have hp0 := Nat.two_pow_pos s
  have hg : ((2 : Int) ^ s) = ((2 ^ s : Nat) : Int) := by simp
  have lm : m < 4294967296 := by have := Nat.div_le_self l (2 ^ s); omega
  obtain ⟨g, hG⟩ : ∃ g, (2 : Nat) ^ s = g := ⟨_, rfl⟩
  obtain ⟨v, hv⟩ : ∃ v, 4294967295 / g = v := ⟨_, rfl⟩
  obtain ⟨r, hr⟩ : ∃ r, a % g = r := ⟨_, rfl⟩
  rw [hG] at hp hp0
  have F0 : (2 : Int) ^ s = (g : Int) := by rw [hg, hG]
  have F1 : IntKind.u32.wrap ((a : Int) * (g : Int)) = (l : Int) := by rw [uw, ← h_l, hG]; rfl
  have F2 : (4294967295 : Int) / (g : Int) = (v : Int) := by rw [← hv]; rfl
  have F3 : bits .and .u32 (a : Int) (v : Int) = (m : Int) := by
    rw [u32_and_nat a v ha (by have := Nat.div_le_self 4294967295 g; omega), ← h_m, ← h_l, shl_back a s sl, ← hv, ← hG, ones_shr s sl, Nat.and_two_pow_sub_one_eq_mod]
  have F4 : IntKind.u32.wrap (g : Int) = (g : Int) := by rw [uw]; omega
  have F4' : IntKind.u32.wrap (1 * (g : Int)) = (g : Int) := by rw [uw]; omega
  have F5 : ¬ (g : Int) = 0 := by omega
  have F5' : ¬ g = 0 := by omega
  have F5'' : ((g : Int) == 0) = false := by simp; omega
  have F6 : (a : Int) % (g : Int) = (r : Int) := by rw [← hr]; rfl
  have lr : r ≤ a := by rw [← hr]; exact Nat.mod_le _ _
  have F6' : (a : Int).tmod (g : Int) = (r : Int) := by rw [← hr]; rfl
  have F6'' : IntKind.u32.wrap (r : Int) = (r : Int) := by rw [uw]; omega
  have F7 : IntKind.u32.wrap ((a : Int) - (r : Int)) = (n : Int) := by
    have e1 : n = a - r := by
      rw [← h_n, ← h_u, hG]
      have := Nat.div_add_mod a g
      rw [Nat.mul_comm] at this
      rw [Nat.mod_eq_of_lt (by omega)]
      omega
    rw [uw]
    omega
  have HB : Below w.heap.size w w := Below.refl _ _
  have c0 : Two 50 ((a : Nat) : Int) ((b : Nat) : Int) ((l : Nat) : Int) := two_is 50 (a) (b) (l) (by assumption) (by assumption) (by rw [binV_50, se, h_l])
  have c1 : Two 52 ((a : Nat) : Int) ((b : Nat) : Int) ((u : Nat) : Int) := two_is 52 (a) (b) (u) (by assumption) (by assumption) (by rw [binV_52, se, h_u])
  have c2 : Two 51 ((a : Nat) : Int) ((b : Nat) : Int) ((i : Nat) : Int) := two_is 51 (a) (b) (i) (by assumption) (by assumption) (by rw [binV_51, se, h_i])
  have c3 : Two 50 ((a : Nat) : Int) ((s : Nat) : Int) ((l : Nat) : Int) := two_is 50 (a) (s) (l) (by assumption) (by assumption) (by rw [binV_50, ss, h_l])
  have c4 : Two 52 ((a : Nat) : Int) ((s : Nat) : Int) ((u : Nat) : Int) := two_is 52 (a) (s) (u) (by assumption) (by assumption) (by rw [binV_52, ss, h_u])
  have c5 : Two 51 ((a : Nat) : Int) ((s : Nat) : Int) ((i : Nat) : Int) := two_is 51 (a) (s) (i) (by assumption) (by assumption) (by rw [binV_51, ss, h_i])
  have c6 : Two 52 ((l : Nat) : Int) ((s : Nat) : Int) ((m : Nat) : Int) := two_is 52 (l) (s) (m) (by assumption) (by assumption) (by rw [binV_52, ss, h_m])
  have c7 : Two 50 ((u : Nat) : Int) ((s : Nat) : Int) ((n : Nat) : Int) := two_is 50 (u) (s) (n) (by assumption) (by assumption) (by rw [binV_50, ss, h_n])
  have c8 : One 49 ((a : Nat) : Int) ((na : Nat) : Int) := one_is 49 (a) (na) (by assumption) (by rw [unV_49, h_na])
  have c9 : Two 52 ((na : Nat) : Int) ((s : Nat) : Int) ((k : Nat) : Int) := two_is 52 (na) (s) (k) (by assumption) (by assumption) (by rw [binV_52, ss, h_k])
  have c10 : One 49 ((k : Nat) : Int) ((nk : Nat) : Int) := one_is 49 (k) (nk) (by assumption) (by rw [unV_49, h_nk])
  have hI : (a < 2147483648 ∧ i = u) ∨ (¬ a < 2147483648 ∧ i = nk) := shri_is ha hp0 (by rw [← h_i, F0]) (by rw [← h_u, hG]) h_na (by rw [← h_k, hG]) h_nk
  clear h_l h_u h_i h_m h_n h_na h_k h_nk se ss hg hG hv hr
  rcases hI with ⟨hA, rfl⟩ | ⟨hA, rfl⟩
  · have hA' : (a : Int) < 2147483648 := by omega
    clear hA
    go_enter Try.func6, Try.ntmps6
    go_wp2_with (first
      | (go_at_call 11; with_reducible refine (c0 _).mono ?_; rintro e wq ⟨rfl, hq⟩; replace HB : Below w.heap.size w wq := bt2 hq (by (repeat (first | exact HB | with_reducible refine Below.drew ?_))))
      | (go_at_call 11; with_reducible refine (c1 _).mono ?_; rintro e wq ⟨rfl, hq⟩; replace HB : Below w.heap.size w wq := bt2 hq (by (repeat (first | exact HB | with_reducible refine Below.drew ?_))))
      | (go_at_call 11; with_reducible refine (c2 _).mono ?_; rintro e wq ⟨rfl, hq⟩; replace HB : Below w.heap.size w wq := bt2 hq (by (repeat (first | exact HB | with_reducible refine Below.drew ?_))))
      | (go_at_call 11; with_reducible refine (c3 _).mono ?_; rintro e wq ⟨rfl, hq⟩; replace HB : Below w.heap.size w wq := bt2 hq (by (repeat (first | exact HB | with_reducible refine Below.drew ?_))))
      | (go_at_call 11; with_reducible refine (c4 _).mono ?_; rintro e wq ⟨rfl, hq⟩; replace HB : Below w.heap.size w wq := bt2 hq (by (repeat (first | exact HB | with_reducible refine Below.drew ?_))))
      | (go_at_call 11; with_reducible refine (c5 _).mono ?_; rintro e wq ⟨rfl, hq⟩; replace HB : Below w.heap.size w wq := bt2 hq (by (repeat (first | exact HB | with_reducible refine Below.drew ?_))))
      | (go_at_call 11; with_reducible refine (c6 _).mono ?_; rintro e wq ⟨rfl, hq⟩; replace HB : Below w.heap.size w wq := bt2 hq (by (repeat (first | exact HB | with_reducible refine Below.drew ?_))))
      | (go_at_call 11; with_reducible refine (c7 _).mono ?_; rintro e wq ⟨rfl, hq⟩; replace HB : Below w.heap.size w wq := bt2 hq (by (repeat (first | exact HB | with_reducible refine Below.drew ?_))))
      | (go_at_call 10; with_reducible refine (c8 _).mono ?_; rintro e wq ⟨rfl, hq⟩; subst wq)
      | (go_at_call 11; with_reducible refine (c9 _).mono ?_; rintro e wq ⟨rfl, hq⟩; replace HB : Below w.heap.size w wq := bt2 hq (by (repeat (first | exact HB | with_reducible refine Below.drew ?_))))
      | (go_at_call 10; with_reducible refine (c10 _).mono ?_; rintro e wq ⟨rfl, hq⟩; subst wq)
      | (go_at_call 9; with_reducible refine (awake6 _).mono ?_; rintro e wq ⟨rfl, hq⟩; replace HB : Below w.heap.size w wq := bt2 hq (by (repeat (first | exact HB | with_reducible refine Below.drew ?_)))))
    go_region_held3 (fun _ => True) (trivial) (first
      | (go_at_call 11; with_reducible refine (c0 _).mono ?_; rintro e wq ⟨rfl, hq⟩; replace HB : Below w.heap.size w wq := bt2 hq (by (repeat (first | exact HB | with_reducible refine Below.drew ?_))))
      | (go_at_call 11; with_reducible refine (c1 _).mono ?_; rintro e wq ⟨rfl, hq⟩; replace HB : Below w.heap.size w wq := bt2 hq (by (repeat (first | exact HB | with_reducible refine Below.drew ?_))))
      | (go_at_call 11; with_reducible refine (c2 _).mono ?_; rintro e wq ⟨rfl, hq⟩; replace HB : Below w.heap.size w wq := bt2 hq (by (repeat (first | exact HB | with_reducible refine Below.drew ?_))))
      | (go_at_call 11; with_reducible refine (c3 _).mono ?_; rintro e wq ⟨rfl, hq⟩; replace HB : Below w.heap.size w wq := bt2 hq (by (repeat (first | exact HB | with_reducible refine Below.drew ?_))))
      | (go_at_call 11; with_reducible refine (c4 _).mono ?_; rintro e wq ⟨rfl, hq⟩; replace HB : Below w.heap.size w wq := bt2 hq (by (repeat (first | exact HB | with_reducible refine Below.drew ?_))))
      | (go_at_call 11; with_reducible refine (c5 _).mono ?_; rintro e wq ⟨rfl, hq⟩; replace HB : Below w.heap.size w wq := bt2 hq (by (repeat (first | exact HB | with_reducible refine Below.drew ?_))))
      | (go_at_call 11; with_reducible refine (c6 _).mono ?_; rintro e wq ⟨rfl, hq⟩; replace HB : Below w.heap.size w wq := bt2 hq (by (repeat (first | exact HB | with_reducible refine Below.drew ?_))))
      | (go_at_call 11; with_reducible refine (c7 _).mono ?_; rintro e wq ⟨rfl, hq⟩; replace HB : Below w.heap.size w wq := bt2 hq (by (repeat (first | exact HB | with_reducible refine Below.drew ?_))))
      | (go_at_call 10; with_reducible refine (c8 _).mono ?_; rintro e wq ⟨rfl, hq⟩; subst wq)
      | (go_at_call 11; with_reducible refine (c9 _).mono ?_; rintro e wq ⟨rfl, hq⟩; replace HB : Below w.heap.size w wq := bt2 hq (by (repeat (first | exact HB | with_reducible refine Below.drew ?_))))
      | (go_at_call 10; with_reducible refine (c10 _).mono ?_; rintro e wq ⟨rfl, hq⟩; subst wq)
      | (go_at_call 9; with_reducible refine (awake6 _).mono ?_; rintro e wq ⟨rfl, hq⟩; replace HB : Below w.heap.size w wq := bt2 hq (by (repeat (first | exact HB | with_reducible refine Below.drew ?_)))))
    all_goals (go_wp2_with (first
      | (go_at_call 11; with_reducible refine (c0 _).mono ?_; rintro e wq ⟨rfl, hq⟩; replace HB : Below w.heap.size w wq := bt2 hq (by (repeat (first | exact HB | with_reducible refine Below.drew ?_))))
      | (go_at_call 11; with_reducible refine (c1 _).mono ?_; rintro e wq ⟨rfl, hq⟩; replace HB : Below w.heap.size w wq := bt2 hq (by (repeat (first | exact HB | with_reducible refine Below.drew ?_))))
      | (go_at_call 11; with_reducible refine (c2 _).mono ?_; rintro e wq ⟨rfl, hq⟩; replace HB : Below w.heap.size w wq := bt2 hq (by (repeat (first | exact HB | with_reducible refine Below.drew ?_))))
      | (go_at_call 11; with_reducible refine (c3 _).mono ?_; rintro e wq ⟨rfl, hq⟩; replace HB : Below w.heap.size w wq := bt2 hq (by (repeat (first | exact HB | with_reducible refine Below.drew ?_))))
      | (go_at_call 11; with_reducible refine (c4 _).mono ?_; rintro e wq ⟨rfl, hq⟩; replace HB : Below w.heap.size w wq := bt2 hq (by (repeat (first | exact HB | with_reducible refine Below.drew ?_))))
      | (go_at_call 11; with_reducible refine (c5 _).mono ?_; rintro e wq ⟨rfl, hq⟩; replace HB : Below w.heap.size w wq := bt2 hq (by (repeat (first | exact HB | with_reducible refine Below.drew ?_))))
      | (go_at_call 11; with_reducible refine (c6 _).mono ?_; rintro e wq ⟨rfl, hq⟩; replace HB : Below w.heap.size w wq := bt2 hq (by (repeat (first | exact HB | with_reducible refine Below.drew ?_))))
      | (go_at_call 11; with_reducible refine (c7 _).mono ?_; rintro e wq ⟨rfl, hq⟩; replace HB : Below w.heap.size w wq := bt2 hq (by (repeat (first | exact HB | with_reducible refine Below.drew ?_))))
      | (go_at_call 10; with_reducible refine (c8 _).mono ?_; rintro e wq ⟨rfl, hq⟩; subst wq)
      | (go_at_call 11; with_reducible refine (c9 _).mono ?_; rintro e wq ⟨rfl, hq⟩; replace HB : Below w.heap.size w wq := bt2 hq (by (repeat (first | exact HB | with_reducible refine Below.drew ?_))))
      | (go_at_call 10; with_reducible refine (c10 _).mono ?_; rintro e wq ⟨rfl, hq⟩; subst wq)
      | (go_at_call 9; with_reducible refine (awake6 _).mono ?_; rintro e wq ⟨rfl, hq⟩; replace HB : Below w.heap.size w wq := bt2 hq (by (repeat (first | exact HB | with_reducible refine Below.drew ?_))))))
    all_goals (go_ret; exact ⟨rfl, HB⟩)
  · have hA' : ¬ (a : Int) < 2147483648 := by omega
    have hA2 : (2147483648 : Int) ≤ (a : Int) := by omega
    have hA3 : decide ((a : Int) < 2147483648) = false := decide_eq_false hA'
    clear hA
    go_enter Try.func6, Try.ntmps6
    go_wp2_with (first
      | (go_at_call 11; with_reducible refine (c0 _).mono ?_; rintro e wq ⟨rfl, hq⟩; replace HB : Below w.heap.size w wq := bt2 hq (by (repeat (first | exact HB | with_reducible refine Below.drew ?_))))
      | (go_at_call 11; with_reducible refine (c1 _).mono ?_; rintro e wq ⟨rfl, hq⟩; replace HB : Below w.heap.size w wq := bt2 hq (by (repeat (first | exact HB | with_reducible refine Below.drew ?_))))
      | (go_at_call 11; with_reducible refine (c2 _).mono ?_; rintro e wq ⟨rfl, hq⟩; replace HB : Below w.heap.size w wq := bt2 hq (by (repeat (first | exact HB | with_reducible refine Below.drew ?_))))
      | (go_at_call 11; with_reducible refine (c3 _).mono ?_; rintro e wq ⟨rfl, hq⟩; replace HB : Below w.heap.size w wq := bt2 hq (by (repeat (first | exact HB | with_reducible refine Below.drew ?_))))
      | (go_at_call 11; with_reducible refine (c4 _).mono ?_; rintro e wq ⟨rfl, hq⟩; replace HB : Below w.heap.size w wq := bt2 hq (by (repeat (first | exact HB | with_reducible refine Below.drew ?_))))
      | (go_at_call 11; with_reducible refine (c5 _).mono ?_; rintro e wq ⟨rfl, hq⟩; replace HB : Below w.heap.size w wq := bt2 hq (by (repeat (first | exact HB | with_reducible refine Below.drew ?_))))
      | (go_at_call 11; with_reducible refine (c6 _).mono ?_; rintro e wq ⟨rfl, hq⟩; replace HB : Below w.heap.size w wq := bt2 hq (by (repeat (first | exact HB | with_reducible refine Below.drew ?_))))
      | (go_at_call 11; with_reducible refine (c7 _).mono ?_; rintro e wq ⟨rfl, hq⟩; replace HB : Below w.heap.size w wq := bt2 hq (by (repeat (first | exact HB | with_reducible refine Below.drew ?_))))
      | (go_at_call 10; with_reducible refine (c8 _).mono ?_; rintro e wq ⟨rfl, hq⟩; subst wq)
      | (go_at_call 11; with_reducible refine (c9 _).mono ?_; rintro e wq ⟨rfl, hq⟩; replace HB : Below w.heap.size w wq := bt2 hq (by (repeat (first | exact HB | with_reducible refine Below.drew ?_))))
      | (go_at_call 10; with_reducible refine (c10 _).mono ?_; rintro e wq ⟨rfl, hq⟩; subst wq)
      | (go_at_call 9; with_reducible refine (awake6 _).mono ?_; rintro e wq ⟨rfl, hq⟩; replace HB : Below w.heap.size w wq := bt2 hq (by (repeat (first | exact HB | with_reducible refine Below.drew ?_)))))
    go_region_held3 (fun _ => True) (trivial) (first
      | (go_at_call 11; with_reducible refine (c0 _).mono ?_; rintro e wq ⟨rfl, hq⟩; replace HB : Below w.heap.size w wq := bt2 hq (by (repeat (first | exact HB | with_reducible refine Below.drew ?_))))
      | (go_at_call 11; with_reducible refine (c1 _).mono ?_; rintro e wq ⟨rfl, hq⟩; replace HB : Below w.heap.size w wq := bt2 hq (by (repeat (first | exact HB | with_reducible refine Below.drew ?_))))
      | (go_at_call 11; with_reducible refine (c2 _).mono ?_; rintro e wq ⟨rfl, hq⟩; replace HB : Below w.heap.size w wq := bt2 hq (by (repeat (first | exact HB | with_reducible refine Below.drew ?_))))
      | (go_at_call 11; with_reducible refine (c3 _).mono ?_; rintro e wq ⟨rfl, hq⟩; replace HB : Below w.heap.size w wq := bt2 hq (by (repeat (first | exact HB | with_reducible refine Below.drew ?_))))
      | (go_at_call 11; with_reducible refine (c4 _).mono ?_; rintro e wq ⟨rfl, hq⟩; replace HB : Below w.heap.size w wq := bt2 hq (by (repeat (first | exact HB | with_reducible refine Below.drew ?_))))
      | (go_at_call 11; with_reducible refine (c5 _).mono ?_; rintro e wq ⟨rfl, hq⟩; replace HB : Below w.heap.size w wq := bt2 hq (by (repeat (first | exact HB | with_reducible refine Below.drew ?_))))
      | (go_at_call 11; with_reducible refine (c6 _).mono ?_; rintro e wq ⟨rfl, hq⟩; replace HB : Below w.heap.size w wq := bt2 hq (by (repeat (first | exact HB | with_reducible refine Below.drew ?_))))
      | (go_at_call 11; with_reducible refine (c7 _).mono ?_; rintro e wq ⟨rfl, hq⟩; replace HB : Below w.heap.size w wq := bt2 hq (by (repeat (first | exact HB | with_reducible refine Below.drew ?_))))
      | (go_at_call 10; with_reducible refine (c8 _).mono ?_; rintro e wq ⟨rfl, hq⟩; subst wq)
      | (go_at_call 11; with_reducible refine (c9 _).mono ?_; rintro e wq ⟨rfl, hq⟩; replace HB : Below w.heap.size w wq := bt2 hq (by (repeat (first | exact HB | with_reducible refine Below.drew ?_))))
      | (go_at_call 10; with_reducible refine (c10 _).mono ?_; rintro e wq ⟨rfl, hq⟩; subst wq)
      | (go_at_call 9; with_reducible refine (awake6 _).mono ?_; rintro e wq ⟨rfl, hq⟩; replace HB : Below w.heap.size w wq := bt2 hq (by (repeat (first | exact HB | with_reducible refine Below.drew ?_)))))
    all_goals (go_wp2_with (first
      | (go_at_call 11; with_reducible refine (c0 _).mono ?_; rintro e wq ⟨rfl, hq⟩; replace HB : Below w.heap.size w wq := bt2 hq (by (repeat (first | exact HB | with_reducible refine Below.drew ?_))))
      | (go_at_call 11; with_reducible refine (c1 _).mono ?_; rintro e wq ⟨rfl, hq⟩; replace HB : Below w.heap.size w wq := bt2 hq (by (repeat (first | exact HB | with_reducible refine Below.drew ?_))))
      | (go_at_call 11; with_reducible refine (c2 _).mono ?_; rintro e wq ⟨rfl, hq⟩; replace HB : Below w.heap.size w wq := bt2 hq (by (repeat (first | exact HB | with_reducible refine Below.drew ?_))))
      | (go_at_call 11; with_reducible refine (c3 _).mono ?_; rintro e wq ⟨rfl, hq⟩; replace HB : Below w.heap.size w wq := bt2 hq (by (repeat (first | exact HB | with_reducible refine Below.drew ?_))))
      | (go_at_call 11; with_reducible refine (c4 _).mono ?_; rintro e wq ⟨rfl, hq⟩; replace HB : Below w.heap.size w wq := bt2 hq (by (repeat (first | exact HB | with_reducible refine Below.drew ?_))))
      | (go_at_call 11; with_reducible refine (c5 _).mono ?_; rintro e wq ⟨rfl, hq⟩; replace HB : Below w.heap.size w wq := bt2 hq (by (repeat (first | exact HB | with_reducible refine Below.drew ?_))))
      | (go_at_call 11; with_reducible refine (c6 _).mono ?_; rintro e wq ⟨rfl, hq⟩; replace HB : Below w.heap.size w wq := bt2 hq (by (repeat (first | exact HB | with_reducible refine Below.drew ?_))))
      | (go_at_call 11; with_reducible refine (c7 _).mono ?_; rintro e wq ⟨rfl, hq⟩; replace HB : Below w.heap.size w wq := bt2 hq (by (repeat (first | exact HB | with_reducible refine Below.drew ?_))))
      | (go_at_call 10; with_reducible refine (c8 _).mono ?_; rintro e wq ⟨rfl, hq⟩; subst wq)
      | (go_at_call 11; with_reducible refine (c9 _).mono ?_; rintro e wq ⟨rfl, hq⟩; replace HB : Below w.heap.size w wq := bt2 hq (by (repeat (first | exact HB | with_reducible refine Below.drew ?_))))
      | (go_at_call 10; with_reducible refine (c10 _).mono ?_; rintro e wq ⟨rfl, hq⟩; subst wq)
      | (go_at_call 9; with_reducible refine (awake6 _).mono ?_; rintro e wq ⟨rfl, hq⟩; replace HB : Below w.heap.size w wq := bt2 hq (by (repeat (first | exact HB | with_reducible refine Below.drew ?_))))))
    all_goals (go_ret; exact ⟨rfl, HB⟩)
theorem alu_shifts (a b : Nat) (w : World) (ha : a < 4294967296) (hb : b < 4294967296) :
    Calls Try.prog 6 #[.int .u32 a, .int .u32 b] w fun e w' => e = .returned (.bool true) ∧ Below w.heap.size w w' := shift_some a b (b % 32) _ _ _ _ _ _ _ _ w ha hb (by omega) rfl rfl rfl rfl rfl rfl rfl rfl
end Go.Proofs.Ytadjdccjhaejfaa
