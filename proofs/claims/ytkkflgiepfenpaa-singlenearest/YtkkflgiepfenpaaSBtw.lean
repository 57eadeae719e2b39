import Derived.Test.YtkkflgiepfenpaaSHalf
namespace Go.Proofs.Ytkkflgiepfenpaa
open Go.RowKit

/-- value * 2^power lies between lo * 2^at and hi * 2^at -/
structure Btw (value : Nat) (power : Int) (lo hi : Nat) (at_ : Int) (ends : Bool) : Prop where
  up : at_ ≤ power → (lo < value * 2 ^ (power - at_).toNat ∨ lo = value * 2 ^ (power - at_).toNat ∧ ends = true) ∧ (value * 2 ^ (power - at_).toNat < hi ∨ value * 2 ^ (power - at_).toNat = hi ∧ ends = true)
  dn : power < at_ → (lo * 2 ^ (at_ - power).toNat < value ∨ lo * 2 ^ (at_ - power).toNat = value ∧ ends = true) ∧ (value < hi * 2 ^ (at_ - power).toNat ∨ value = hi * 2 ^ (at_ - power).toNat ∧ ends = true)
theorem cast_lt {a b : Nat} (h : a < b) : decide ((a : Int) < (b : Int)) = true := decide_eq_true (by omega)
theorem cast_nlt {a b : Nat} (h : ¬ a < b) : decide ((a : Int) < (b : Int)) = false := decide_eq_false (by omega)
theorem cast_eq {a b : Nat} (h : a = b) : ((a : Int) == (b : Int)) = true := by rw [h]; exact beq_self_eq_true _

set_option maxRecDepth 100000 in
set_option maxHeartbeats 1000000 in
theorem btw_up (value lo hi n : Nat) (power at_ : Int) (ends : Bool) (w : World) (hn : power - at_ = n) (b1 : -100000 ≤ power) (b2 : power ≤ 100000) (b3 : -100000 ≤ at_) (b4 : at_ ≤ 100000) (v0 : 0 < value) (vl' : value < 4611686018427387904) (hl : hi < 4611686018427387904)
    (h1 : lo < value * 2 ^ n ∨ lo = value * 2 ^ n ∧ ends = true) (h2 : value * 2 ^ n < hi ∨ value * 2 ^ n = hi ∧ ends = true) :
    Calls Try.prog 10 #[.int .u64 value, .int .i64 power, .int .u64 lo, .int .u64 hi, .int .i64 at_, .bool ends] w fun e w' => e = .returned (.bool true) ∧ w' = w := by
  have hV : value * 2 ^ n ≤ hi := by omega
  have s1 := fun w => shift_any value n w v0 (by omega) (by omega)
  have g0' : decide (at_ ≤ power) = true := decide_eq_true (by omega)
  generalize value * 2 ^ n = V at *
  rcases h1 with h1 | ⟨h1, he⟩ <;> rcases h2 with h2 | ⟨h2, he2⟩
  · have g1 := cast_lt h1
    have g3 := cast_lt h2
    go_enter Try.func10, Try.ntmps10
    go_wp2_with (go_at_call 23; refine (s1 _).mono ?_; rintro e wq ⟨rfl, hq⟩; subst wq)
    go_ret
    exact ⟨rfl, rfl⟩
  · have g1 := cast_lt h1
    have g3 := cast_nlt (a := V) (b := hi) (by omega)
    subst he2
    have g4 := cast_eq h2
    go_enter Try.func10, Try.ntmps10
    go_wp2_with (go_at_call 23; refine (s1 _).mono ?_; rintro e wq ⟨rfl, hq⟩; subst wq)
    go_ret
    exact ⟨rfl, rfl⟩
  · subst he
    have g1 := cast_nlt (a := lo) (b := V) (by omega)
    have g2 := cast_eq h1
    have g3 := cast_lt h2
    go_enter Try.func10, Try.ntmps10
    go_wp2_with (go_at_call 23; refine (s1 _).mono ?_; rintro e wq ⟨rfl, hq⟩; subst wq)
    go_ret
    exact ⟨rfl, rfl⟩
  · subst he
    have g1 := cast_nlt (a := lo) (b := V) (by omega)
    have g2 := cast_eq h1
    have g3 := cast_nlt (a := V) (b := hi) (by omega)
    clear he2
    have g4 := cast_eq h2
    go_enter Try.func10, Try.ntmps10
    go_wp2_with (go_at_call 23; refine (s1 _).mono ?_; rintro e wq ⟨rfl, hq⟩; subst wq)
    go_ret
    exact ⟨rfl, rfl⟩
set_option maxRecDepth 100000 in
set_option maxHeartbeats 1000000 in
theorem btw_dn (value lo hi n : Nat) (power at_ : Int) (ends : Bool) (w : World) (hn : at_ - power = n) (hn0 : 0 < n) (b1 : -100000 ≤ power) (b2 : power ≤ 100000) (b3 : -100000 ≤ at_) (b4 : at_ ≤ 100000) (vl' : value < 4611686018427387904) (l0 : 0 < lo) (hlo : lo < 4611686018427387904) (h0 : 0 < hi) (hl : hi < 4611686018427387904)
    (h1 : lo * 2 ^ n < value ∨ lo * 2 ^ n = value ∧ ends = true) (h2 : value < hi * 2 ^ n ∨ value = hi * 2 ^ n ∧ ends = true) :
    Calls Try.prog 10 #[.int .u64 value, .int .i64 power, .int .u64 lo, .int .u64 hi, .int .i64 at_, .bool ends] w fun e w' => e = .returned (.bool true) ∧ w' = w := by
  have s1 := fun w => shift_any lo n w l0 (by omega) (by omega)
  have s2 : ∃ H : Nat, (∀ w, Calls Try.prog 23 #[.int .u64 hi, .int .i64 n] w fun e w' => e = .returned (.int .u64 (H : Int)) ∧ w' = w) ∧ (value < H ∨ value = H ∧ ends = true) := by
    by_cases hc : hi * 2 ^ n ≤ 4611686018427387904
    · exact ⟨hi * 2 ^ n, fun w => shift_any hi n w h0 (by omega) hc, h2⟩
    · exact ⟨4611686018427387904, fun w => shift_cap hi n w h0 (by omega) (by omega) (by omega), Or.inl vl'⟩
  clear h2
  obtain ⟨H, s2, h2⟩ := s2
  have g0' : decide (at_ ≤ power) = false := decide_eq_false (by omega)
  generalize lo * 2 ^ n = L at *
  rcases h1 with h1 | ⟨h1, he⟩ <;> rcases h2 with h2 | ⟨h2, he2⟩
  · have g1 := cast_lt h1
    have g3 := cast_lt h2
    go_enter Try.func10, Try.ntmps10
    go_wp2_with (go_at_call 23; (first | with_reducible refine (s1 _).mono ?_ | with_reducible refine (s2 _).mono ?_); rintro e wq ⟨rfl, hq⟩; subst wq)
    go_ret
    exact ⟨rfl, rfl⟩
  · have g1 := cast_lt h1
    have g3 := cast_nlt (a := value) (b := H) (by omega)
    subst he2
    have g4 := cast_eq h2
    go_enter Try.func10, Try.ntmps10
    go_wp2_with (go_at_call 23; (first | with_reducible refine (s1 _).mono ?_ | with_reducible refine (s2 _).mono ?_); rintro e wq ⟨rfl, hq⟩; subst wq)
    go_ret
    exact ⟨rfl, rfl⟩
  · subst he
    have g1 := cast_nlt (a := L) (b := value) (by omega)
    have g2 := cast_eq h1
    have g3 := cast_lt h2
    go_enter Try.func10, Try.ntmps10
    go_wp2_with (go_at_call 23; (first | with_reducible refine (s1 _).mono ?_ | with_reducible refine (s2 _).mono ?_); rintro e wq ⟨rfl, hq⟩; subst wq)
    go_ret
    exact ⟨rfl, rfl⟩
  · subst he
    have g1 := cast_nlt (a := L) (b := value) (by omega)
    have g2 := cast_eq h1
    have g3 := cast_nlt (a := value) (b := H) (by omega)
    clear he2
    have g4 := cast_eq h2
    go_enter Try.func10, Try.ntmps10
    go_wp2_with (go_at_call 23; (first | with_reducible refine (s1 _).mono ?_ | with_reducible refine (s2 _).mono ?_); rintro e wq ⟨rfl, hq⟩; subst wq)
    go_ret
    exact ⟨rfl, rfl⟩
theorem btw_any (value lo hi : Nat) (power at_ : Int) (ends : Bool) (w : World) (b1 : -100000 ≤ power) (b2 : power ≤ 100000) (b3 : -100000 ≤ at_) (b4 : at_ ≤ 100000) (v0 : 0 < value) (v1 : value < 4611686018427387904) (l0 : 0 < lo) (l1 : lo < 4611686018427387904) (h0 : 0 < hi) (h1 : hi < 4611686018427387904) (hb : Btw value power lo hi at_ ends) :
    Calls Try.prog 10 #[.int .u64 value, .int .i64 power, .int .u64 lo, .int .u64 hi, .int .i64 at_, .bool ends] w fun e w' => e = .returned (.bool true) ∧ w' = w := by
  by_cases h : at_ ≤ power
  · obtain ⟨p, q⟩ := hb.up h
    exact btw_up value lo hi (power - at_).toNat power at_ ends w (by omega) b1 b2 b3 b4 v0 v1 h1 p q
  · obtain ⟨p, q⟩ := hb.dn (by omega)
    exact btw_dn value lo hi (at_ - power).toNat power at_ ends w (by omega) (by omega) b1 b2 b3 b4 v1 l0 l1 h0 h1 p q
end Go.Proofs.Ytkkflgiepfenpaa
