import Derived.Test.YtiopabplhneoeaaSRoE
namespace Go.Proofs.Ytiopabplhneoeaa
open Go.RowKit

theorem pround_any (m : Bool) (x : Nat) (P : Int) (mo : Bool) (w : World) (hx : x < 18446744073709551616) (hP : -9223372036854775808 ≤ P) (hP2 : P ≤ 9223372036854775807) :
    Calls Try.prog 8 #[.bool m, .int .u64 x, .int .i64 P, .bool mo] w fun e w' => e = .returned (.int .u32 (wrd m (min (rg Ieee.single (2 * x + mo.toNat) (clp P - 1)) 2139095040) : Nat)) ∧ w' = w := by
  cases h0 : ((x : Int) == 0 && !mo) with
  | false => exact pround_n m x P mo w hx h0 hP hP2
  | true =>
    have h1 : x = 0 ∧ mo = false := by simpa using h0
    obtain ⟨rfl, rfl⟩ := h1
    have e : rg Ieee.single (2 * 0 + false.toNat) (clp P - 1) = 0 := by unfold rg; rw [if_pos (by decide)]
    rw [e]
    exact pround_0 m P w
theorem rnd_b (m : Bool) (v : Value) (x : Nat) (Q : Int) (mo : Bool) (r : Nat) (w : World) (h : NatV w v x) (hx : x < 18446744073709551616) (hP : -1000 ≤ Q) (hP2 : Q ≤ 1000) (hr : rg Ieee.single (2 * x + mo.toNat) (Q - 1) = r) :
    Calls Try.prog 26 #[.agg #[.int .i64 24, .int .i64 (-149), .int .i64 104], .bool m, v, .int .i64 Q, .bool mo] w fun e w' => (∃ n p, e = .returned (hdV m n p) ∧ Fits n p r) ∧ Below w.heap.size w w' := by
  have hp64 : (2 : Nat) ^ 64 = 18446744073709551616 := by decide
  cases mo with
  | false =>
    have := rg_shift Ieee.single (by decide) x 1 Q
    rw [show x * 2 ^ 1 = 2 * x by omega] at this
    have hr' : rg Ieee.single x Q = r := by rw [← this]; exact hr
    have := rnd_nw m v x 2 Q w h (by rw [show 32 * 2 = 64 from rfl]; omega) (by omega) (by omega) (by omega)
    rw [hr'] at this
    exact this
  | true =>
    have hx5 : x < 2 ^ (32 * 6) := Nat.lt_of_lt_of_le (show x < 2 ^ 64 by omega) (Nat.pow_le_pow_right (by decide) (by decide))
    have hnl : nbits (2 * x + 1) ≤ 4000 := by
      obtain ⟨b1, b2, b3⟩ := nb_bounds (2 * x + 1) (by omega)
      have hp65 : (2 : Nat) ^ 65 = 36893488147419103232 := by decide
      have c1 := (Nat.pow_lt_pow_iff_right (a := 2) (by decide)).1 (Nat.lt_of_le_of_lt b1 (show 2 * x + 1 < 2 ^ 65 by omega))
      omega
    have := rndM_any m v x (2 * x + 1) Q (Q - 1) w h hx5 (by omega) rfl hnl (by omega) (by omega)
    rw [show rg Ieee.single (2 * x + 1) (Q - 1) = r from hr] at this
    exact this
set_option maxRecDepth 100000 in
set_option maxHeartbeats 1000000 in
theorem rround_m (m : Bool) (x : Nat) (P : Int) (mo : Bool) (r : Nat) (w : World) (hx : x < 18446744073709551616) (hP : -1000 ≤ P) (hP2 : P ≤ 1000) (hr : rg Ieee.single (2 * x + mo.toNat) (P - 1) = r) :
    Calls Try.prog 9 #[.bool m, .int .u64 x, .int .i64 P, .bool mo] w fun e w' => e = .returned (.int .u32 (wrd m (min r 2139095040) : Nat)) ∧ Below w.heap.size w w' := by
  have HB : Below w.heap.size w w := Below.refl _ _
  have HR : Hid (rg Ieee.single (2 * x + mo.toNat) (P - 1) = r) := hr
  clear hr
  go_enter Try.func9, Try.ntmps9
  go_wp2_with (first
    | (go_at_call 27; refine (form_any _).mono ?_; rintro e wq ⟨rfl, hq⟩; subst wq)
    | (go_at_call 28; with_reducible refine (nat_any x _ (by omega)).mono ?_; rintro e w1 ⟨⟨v1, rfl, hv1⟩, h1⟩; replace HB : Below w.heap.size w w1 := bt2 h1 (by (repeat (first | exact HB | exact Below.refl _ _ | with_reducible refine bel ?_ | with_reducible refine Below.drew ?_ | with_reducible refine bt3 ?_))))
    | (go_at_call 26; with_reducible refine (rnd_b m v1 x P mo r _ hv1 (by omega) (by omega) (by omega) HR.out).mono ?_; rintro e w2 ⟨⟨n9, p9, rfl, hf9⟩, h2⟩; replace HB : Below w.heap.size w w2 := bt2 h2 (by (repeat (first | exact HB | exact Below.refl _ _ | with_reducible refine bel ?_ | with_reducible refine Below.drew ?_ | with_reducible refine bt3 ?_))))
    | (go_at_call 25; with_reducible refine (lay_any m n9 p9 _ _ hf9).mono ?_; rintro e w3 ⟨rfl, h3⟩; replace HB : Below w.heap.size w w3 := bt2 h3 (by (repeat (first | exact HB | exact Below.refl _ _ | with_reducible refine bel ?_ | with_reducible refine Below.drew ?_ | with_reducible refine bt3 ?_)))))
  go_ret
  exact ⟨rfl, HB⟩
set_option maxRecDepth 100000 in
set_option maxHeartbeats 1000000 in
theorem rround_h (m : Bool) (x : Nat) (P : Int) (mo : Bool) (r : Nat) (w : World) (hx : x < 18446744073709551616) (hP : 1000 < P) (hr : rg Ieee.single (2 * x + mo.toNat) (1000 - 1) = r) :
    Calls Try.prog 9 #[.bool m, .int .u64 x, .int .i64 P, .bool mo] w fun e w' => e = .returned (.int .u32 (wrd m (min r 2139095040) : Nat)) ∧ Below w.heap.size w w' := by
  have HB : Below w.heap.size w w := Below.refl _ _
  have HR : Hid (rg Ieee.single (2 * x + mo.toNat) (1000 - 1) = r) := hr
  clear hr
  go_enter Try.func9, Try.ntmps9
  go_wp2_with (first
    | (go_at_call 27; refine (form_any _).mono ?_; rintro e wq ⟨rfl, hq⟩; subst wq)
    | (go_at_call 28; with_reducible refine (nat_any x _ (by omega)).mono ?_; rintro e w1 ⟨⟨v1, rfl, hv1⟩, h1⟩; replace HB : Below w.heap.size w w1 := bt2 h1 (by (repeat (first | exact HB | exact Below.refl _ _ | with_reducible refine bel ?_ | with_reducible refine Below.drew ?_ | with_reducible refine bt3 ?_))))
    | (go_at_call 26; with_reducible refine (rnd_b m v1 x 1000 mo r _ hv1 (by omega) (by omega) (by omega) HR.out).mono ?_; rintro e w2 ⟨⟨n9, p9, rfl, hf9⟩, h2⟩; replace HB : Below w.heap.size w w2 := bt2 h2 (by (repeat (first | exact HB | exact Below.refl _ _ | with_reducible refine bel ?_ | with_reducible refine Below.drew ?_ | with_reducible refine bt3 ?_))))
    | (go_at_call 25; with_reducible refine (lay_any m n9 p9 _ _ hf9).mono ?_; rintro e w3 ⟨rfl, h3⟩; replace HB : Below w.heap.size w w3 := bt2 h3 (by (repeat (first | exact HB | exact Below.refl _ _ | with_reducible refine bel ?_ | with_reducible refine Below.drew ?_ | with_reducible refine bt3 ?_)))))
  go_ret
  exact ⟨rfl, HB⟩
set_option maxRecDepth 100000 in
set_option maxHeartbeats 1000000 in
theorem rround_l (m : Bool) (x : Nat) (P : Int) (mo : Bool) (r : Nat) (w : World) (hx : x < 18446744073709551616) (hP : P < -1000) (hr : rg Ieee.single (2 * x + mo.toNat) (-1000 - 1) = r) :
    Calls Try.prog 9 #[.bool m, .int .u64 x, .int .i64 P, .bool mo] w fun e w' => e = .returned (.int .u32 (wrd m (min r 2139095040) : Nat)) ∧ Below w.heap.size w w' := by
  have HB : Below w.heap.size w w := Below.refl _ _
  have HR : Hid (rg Ieee.single (2 * x + mo.toNat) (-1000 - 1) = r) := hr
  clear hr
  go_enter Try.func9, Try.ntmps9
  go_wp2_with (first
    | (go_at_call 27; refine (form_any _).mono ?_; rintro e wq ⟨rfl, hq⟩; subst wq)
    | (go_at_call 28; with_reducible refine (nat_any x _ (by omega)).mono ?_; rintro e w1 ⟨⟨v1, rfl, hv1⟩, h1⟩; replace HB : Below w.heap.size w w1 := bt2 h1 (by (repeat (first | exact HB | exact Below.refl _ _ | with_reducible refine bel ?_ | with_reducible refine Below.drew ?_ | with_reducible refine bt3 ?_))))
    | (go_at_call 26; with_reducible refine (rnd_b m v1 x (-1000) mo r _ hv1 (by omega) (by omega) (by omega) HR.out).mono ?_; rintro e w2 ⟨⟨n9, p9, rfl, hf9⟩, h2⟩; replace HB : Below w.heap.size w w2 := bt2 h2 (by (repeat (first | exact HB | exact Below.refl _ _ | with_reducible refine bel ?_ | with_reducible refine Below.drew ?_ | with_reducible refine bt3 ?_))))
    | (go_at_call 25; with_reducible refine (lay_any m n9 p9 _ _ hf9).mono ?_; rintro e w3 ⟨rfl, h3⟩; replace HB : Below w.heap.size w w3 := bt2 h3 (by (repeat (first | exact HB | exact Below.refl _ _ | with_reducible refine bel ?_ | with_reducible refine Below.drew ?_ | with_reducible refine bt3 ?_)))))
  go_ret
  exact ⟨rfl, HB⟩
theorem rround_any (m : Bool) (x : Nat) (P : Int) (mo : Bool) (w : World) (hx : x < 18446744073709551616) :
    Calls Try.prog 9 #[.bool m, .int .u64 x, .int .i64 P, .bool mo] w fun e w' => e = .returned (.int .u32 (wrd m (min (rg Ieee.single (2 * x + mo.toNat) (clp P - 1)) 2139095040) : Nat)) ∧ Below w.heap.size w w' := by
  by_cases h1 : 1000 < P
  · rw [show clp P = 1000 by unfold clp; omega]
    exact rround_h m x P mo _ w hx h1 rfl
  by_cases h2 : P < -1000
  · rw [show clp P = -1000 by unfold clp; omega]
    exact rround_l m x P mo _ w hx h2 rfl
  rw [show clp P = P by unfold clp; omega]
  exact rround_m m x P mo _ w hx (by omega) (by omega) rfl
end Go.Proofs.Ytiopabplhneoeaa
