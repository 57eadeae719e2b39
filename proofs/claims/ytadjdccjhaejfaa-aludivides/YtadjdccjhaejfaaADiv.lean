import Derived.Test.YtadjdccjhaejfaaABase
namespace Go.Proofs.Ytadjdccjhaejfaa
open Go.RowKit
set_option maxRecDepth 100000 in
set_option maxHeartbeats 1000000 in
theorem div_nought (a : Nat) (w : World) (ha : a < 4294967296) : Calls Try.prog 5 #[.int .u32 a, .int .u32 0] w fun e w' => e = .returned (.bool true) ∧ Below w.heap.size w w' := by
  have HB : Below w.heap.size w w := Below.refl _ _
  have c0 : Bin 42 ((a : Nat) : Int) 0 0 60 := bin_is 42 (a) (0) (0) (60) (by assumption) (by decide) (by rw [binV_42, if_pos rfl]) (by rw [binE_42, if_pos rfl])
  have c1 : Bin 44 ((a : Nat) : Int) 0 0 60 := bin_is 44 (a) (0) (0) (60) (by assumption) (by decide) (by rw [binV_44, if_pos rfl]) (by rw [binE_44, if_pos rfl])
  have c2 : Bin 43 ((a : Nat) : Int) 0 0 60 := bin_is 43 (a) (0) (0) (60) (by assumption) (by decide) (by rw [binV_43, if_pos rfl]) (by rw [binE_43, if_pos rfl])
  have c3 : Bin 45 ((a : Nat) : Int) 0 0 60 := bin_is 45 (a) (0) (0) (60) (by assumption) (by decide) (by rw [binV_45, if_pos rfl]) (by rw [binE_45, if_pos rfl])
  go_enter Try.func5, Try.ntmps5
  go_wp2_with (first
    | (go_at_call 16; with_reducible refine (c0 _).mono ?_; rintro e wq ⟨rfl, hq⟩; replace HB : Below w.heap.size w wq := bt2 hq HB)
    | (go_at_call 16; with_reducible refine (c1 _).mono ?_; rintro e wq ⟨rfl, hq⟩; replace HB : Below w.heap.size w wq := bt2 hq HB)
    | (go_at_call 16; with_reducible refine (c2 _).mono ?_; rintro e wq ⟨rfl, hq⟩; replace HB : Below w.heap.size w wq := bt2 hq HB)
    | (go_at_call 16; with_reducible refine (c3 _).mono ?_; rintro e wq ⟨rfl, hq⟩; replace HB : Below w.heap.size w wq := bt2 hq HB)
    | (go_at_call 9; with_reducible refine (awake6 _).mono ?_; rintro e wq ⟨rfl, hq⟩; replace HB : Below w.heap.size w wq := bt2 hq HB))
  go_ret
  exact ⟨rfl, HB⟩
theorem toNat_sx {z : Int} (h1 : -2147483648 ≤ z) (h2 : z ≤ 2147483647) : sx (z % 4294967296).toNat = z := by unfold sx; split <;> omega
theorem toNat_lt (z : Int) : (z % 4294967296).toNat < 4294967296 := by omega
theorem sx_mod (a : Nat) : (sx a) % 4294967296 = (a : Int) % 4294967296 := by unfold sx; split <;> omega
theorem quot_back (a b : Nat) : a / b * b + a % b = a := by rw [Nat.mul_comm]; exact Nat.div_add_mod a b
theorem cast_eq_of_mod {x y : Nat} (hx : x < 4294967296) (hy : y < 4294967296) (h : (x : Int) % 4294967296 = (y : Int) % 4294967296) : x = y := by omega
theorem squot_back (a b q r m : Nat) (ha : a < 4294967296) (hq : ((sx a).tdiv (sx b) % 4294967296).toNat = q) (hr : ((sx a).tmod (sx b) % 4294967296).toNat = r) (hm : q * b % 4294967296 = m) : (m + r) % 4294967296 = a := by
  apply cast_eq_of_mod (Nat.mod_lt _ (by decide)) ha
  rw [← sx_mod a]
  have e := Int.tdiv_mul_add_tmod (sx a) (sx b)
  have hq' : (q : Int) % 4294967296 = (sx a).tdiv (sx b) % 4294967296 := by omega
  have hr' : (r : Int) % 4294967296 = (sx a).tmod (sx b) % 4294967296 := by omega
  have hm' : (m : Int) % 4294967296 = ((sx a).tdiv (sx b) * sx b) % 4294967296 := by
    rw [Int.mul_emod, ← hq', sx_mod b, ← Int.mul_emod, ← hm]
    simp
  rw [← e]
  generalize (sx a).tdiv (sx b) * sx b = X at *
  omega
set_option maxRecDepth 100000 in
set_option maxHeartbeats 1000000 in
theorem div_some (a b q r m q2 r2 m2 : Nat) (ρ β : Int) (w : World) (ha : a < 4294967296) (hb : b < 4294967296) (hz : b ≠ 0) (hq : a / b = q) (hr : a % b = r) (hm : q * b = m)
    (hq2 : ((sx a).tdiv (sx b) % 4294967296).toNat = q2) (hr2 : ((sx a).tmod (sx b) % 4294967296).toNat = r2) (hm2 : q2 * b % 4294967296 = m2) (hρ : wrap32 (r2 : Int) = ρ) (hβ : wrap32 (b : Int) = β)
    (h1 : ρ ≠ 0 → (ρ < 0 ↔ wrap32 (a : Int) < 0)) (h2 : ρ < β ∨ ρ < -β) (h3 : -ρ < β ∨ -ρ < -β) (h4 : -2147483648 ≤ ρ ∧ ρ ≤ 2147483647) (h5 : -2147483648 ≤ β ∧ β ≤ 2147483647) :
    Calls Try.prog 5 #[.int .u32 a, .int .u32 b] w fun e w' => e = .returned (.bool true) ∧ Below w.heap.size w w' := by
  have lq : q < 4294967296 := by have := Nat.div_le_self a b; omega
  have lr : r < 4294967296 := by have := Nat.mod_le a b; omega
  have lm : m < 4294967296 := by have := quot_back a b; rw [hq, hr, hm] at this; omega
  have ls : m + r = a := by have := quot_back a b; rw [hq, hr, hm] at this; exact this
  have lq2 : q2 < 4294967296 := by rw [← hq2]; exact toNat_lt _
  have lr2 : r2 < 4294967296 := by rw [← hr2]; exact toNat_lt _
  have lm2 : m2 < 4294967296 := by rw [← hm2]; exact Nat.mod_lt _ (by decide)
  have lrb : ¬ (b : Int) ≤ (r : Int) := by have := Nat.mod_lt a (Nat.pos_of_ne_zero hz); omega
  have lqa : ¬ (a : Int) < (q : Int) := by have := Nat.div_le_self a b; omega
  have HB : Below w.heap.size w w := Below.refl _ _
  have c0 : Two 43 ((a : Nat) : Int) ((b : Nat) : Int) ((q : Nat) : Int) := two_is 43 (a) (b) (q) (by assumption) (by assumption) (by rw [binV_43, if_neg hz, hq])
  have c1 : Two 45 ((a : Nat) : Int) ((b : Nat) : Int) ((r : Nat) : Int) := two_is 45 (a) (b) (r) (by assumption) (by assumption) (by rw [binV_45, if_neg hz, hr])
  have c2 : Two 41 ((q : Nat) : Int) ((b : Nat) : Int) ((m : Nat) : Int) := two_is 41 (q) (b) (m) (by assumption) (by assumption) (by rw [binV_41, hm, Nat.mod_eq_of_lt lm])
  have c3 : Two 39 ((m : Nat) : Int) ((r : Nat) : Int) ((a : Nat) : Int) := two_is 39 (m) (r) (a) (by assumption) (by assumption) (by rw [binV_39, ls, Nat.mod_eq_of_lt ha])
  have c4 : Two 42 ((a : Nat) : Int) ((b : Nat) : Int) ((q2 : Nat) : Int) := two_is 42 (a) (b) (q2) (by assumption) (by assumption) (by rw [binV_42, if_neg hz, hq2])
  have c5 : Two 44 ((a : Nat) : Int) ((b : Nat) : Int) ((r2 : Nat) : Int) := two_is 44 (a) (b) (r2) (by assumption) (by assumption) (by rw [binV_44, if_neg hz, hr2])
  have c6 : Two 41 ((q2 : Nat) : Int) ((b : Nat) : Int) ((m2 : Nat) : Int) := two_is 41 (q2) (b) (m2) (by assumption) (by assumption) (by rw [binV_41, hm2])
  have c7 : Two 39 ((m2 : Nat) : Int) ((r2 : Nat) : Int) ((a : Nat) : Int) := two_is 39 (m2) (r2) (a) (by assumption) (by assumption) (by rw [binV_39]; exact squot_back a b q2 r2 m2 ha hq2 hr2 hm2)
  have hz' : ¬ (b : Int) = 0 := by omega
  clear hq hr hm hq2 hr2 hm2 ls
  go_enter Try.func5, Try.ntmps5
  go_wp2_with (first
    | (go_at_call 11; with_reducible refine (c0 _).mono ?_; rintro e wq ⟨rfl, hq⟩; replace HB : Below w.heap.size w wq := bt2 hq HB)
    | (go_at_call 11; with_reducible refine (c1 _).mono ?_; rintro e wq ⟨rfl, hq⟩; replace HB : Below w.heap.size w wq := bt2 hq HB)
    | (go_at_call 11; with_reducible refine (c2 _).mono ?_; rintro e wq ⟨rfl, hq⟩; replace HB : Below w.heap.size w wq := bt2 hq HB)
    | (go_at_call 11; with_reducible refine (c3 _).mono ?_; rintro e wq ⟨rfl, hq⟩; replace HB : Below w.heap.size w wq := bt2 hq HB)
    | (go_at_call 11; with_reducible refine (c4 _).mono ?_; rintro e wq ⟨rfl, hq⟩; replace HB : Below w.heap.size w wq := bt2 hq HB)
    | (go_at_call 11; with_reducible refine (c5 _).mono ?_; rintro e wq ⟨rfl, hq⟩; replace HB : Below w.heap.size w wq := bt2 hq HB)
    | (go_at_call 11; with_reducible refine (c6 _).mono ?_; rintro e wq ⟨rfl, hq⟩; replace HB : Below w.heap.size w wq := bt2 hq HB)
    | (go_at_call 11; with_reducible refine (c7 _).mono ?_; rintro e wq ⟨rfl, hq⟩; replace HB : Below w.heap.size w wq := bt2 hq HB)
    | (go_at_call 9; with_reducible refine (awake6 _).mono ?_; rintro e wq ⟨rfl, hq⟩; replace HB : Below w.heap.size w wq := bt2 hq HB))
  all_goals (go_ret; first | exact ⟨rfl, HB⟩ | (exfalso; omega))
set_option maxRecDepth 100000 in
set_option maxHeartbeats 1000000 in
theorem alu_divides (a b : Nat) (w : World) (ha : a < 4294967296) (hb : b < 4294967296) :
    Calls Try.prog 5 #[.int .u32 a, .int .u32 b] w fun e w' => e = .returned (.bool true) ∧ Below w.heap.size w w' := by
  by_cases hz : b = 0
  · subst hz; exact div_nought a w ha
  have ra := sx_range ha
  have rb := sx_range hb
  have z : sx b ≠ 0 := by rw [Ne, sx_zero hb]; exact hz
  have hlt : ((sx a).tmod (sx b)).natAbs < (sx b).natAbs := by
    rw [Int.natAbs_tmod]; exact Nat.mod_lt _ (by omega)
  have hle : ((sx a).tmod (sx b)).natAbs ≤ (sx a).natAbs := by
    rw [Int.natAbs_tmod]; exact Nat.mod_le _ _
  have hp : 0 ≤ sx a → 0 ≤ (sx a).tmod (sx b) := fun h => Int.tmod_nonneg _ h
  have hn : sx a ≤ 0 → (sx a).tmod (sx b) ≤ 0 := fun h => by
    have := Int.tmod_nonneg (sx b) (a := -(sx a)) (by omega)
    rw [Int.neg_tmod] at this
    omega
  have er : sx ((sx a).tmod (sx b) % 4294967296).toNat = (sx a).tmod (sx b) := toNat_sx (by omega) (by omega)
  refine div_some a b _ _ _ _ _ _ ((sx a).tmod (sx b)) (sx b) w ha hb hz rfl rfl rfl rfl rfl rfl ?_ (wrap32_sx hb) ?_ ?_ ?_ (by omega) (by omega)
  · rw [wrap32_sx (toNat_lt _)]; exact er
  · intro h; rw [wrap32_sx ha]; omega
  · omega
  · omega
end Go.Proofs.Ytadjdccjhaejfaa
