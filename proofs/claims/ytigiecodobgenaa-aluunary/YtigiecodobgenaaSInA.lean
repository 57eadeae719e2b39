import Derived.Test.YtigiecodobgenaaSStB
namespace Go.Proofs.Ytigiecodobgenaa
open Go.RowKit

theorem rnd_nw (m : Bool) (v : Value) (x k : Nat) (P : Int) (w : World) (h : NatV w v x) (hx : x < 2 ^ (32 * k)) (hk : k ≤ 100) (hP : -5000 ≤ P) (hP2 : P ≤ 5000) :
    Calls Try.prog 31 #[.agg #[.int .i64 24, .int .i64 (-149), .int .i64 104], .bool m, v, .int .i64 P, .bool false] w fun e w' => (∃ n p, e = .returned (hdV m n p) ∧ Fits n p (rg Ieee.single x P)) ∧ Below w.heap.size w w' := by
  obtain ⟨ao, cap, zs, rfl, hc, hn', hval, hN, hW, hr⟩ := h
  have := rnd_any m ao cap zs P w (by have := len_pow hN hval k hx; omega) hr hW hN hP hP2
  rw [hval] at this
  exact this
set_option maxRecDepth 100000 in
set_option maxHeartbeats 1000000 in
theorem ofs_pos (x : Nat) (w : World) (hx : x < 2147483648) :
    Calls Try.prog 20 #[.int .i32 x] w fun e w' => e = .returned (.int .u32 (wrd false (min (rg Ieee.single x 0) 2139095040) : Nat)) ∧ Below w.heap.size w w' := by
  have HB : Below w.heap.size w w := Below.refl _ _
  have hxI : (0 : Int) ≤ (x : Int) := by omega
  have HX : Hid (x < 2 ^ (32 * 2)) := Nat.lt_of_lt_of_le hx (by decide)
  go_enter Try.func20, Try.ntmps20
  go_wp2_with (first
    | (go_at_call 32; refine (form_any _).mono ?_; rintro e wq ⟨rfl, hq⟩; subst wq)
    | (go_at_call 33; with_reducible refine (nat_any x _ (by omega)).mono ?_; rintro e w1 ⟨⟨v1, rfl, hv1⟩, h1⟩; replace HB : Below w.heap.size w w1 := bt2 h1 (by (repeat (first | exact HB | exact Below.refl _ _ | with_reducible refine bel ?_ | with_reducible refine Below.drew ?_ | with_reducible refine bt3 ?_))))
    | (go_at_call 31; with_reducible refine (rnd_nw false v1 x 2 0 _ hv1 HX.out (by omega) (by omega) (by omega)).mono ?_; rintro e w2 ⟨⟨n9, p9, rfl, hf9⟩, h2⟩; replace HB : Below w.heap.size w w2 := bt2 h2 (by (repeat (first | exact HB | exact Below.refl _ _ | with_reducible refine bel ?_ | with_reducible refine Below.drew ?_ | with_reducible refine bt3 ?_))))
    | (go_at_call 30; with_reducible refine (lay_any false n9 p9 _ _ hf9).mono ?_; rintro e w3 ⟨rfl, h3⟩; replace HB : Below w.heap.size w w3 := bt2 h3 (by (repeat (first | exact HB | exact Below.refl _ _ | with_reducible refine bel ?_ | with_reducible refine Below.drew ?_ | with_reducible refine bt3 ?_)))))
  go_ret
  exact ⟨rfl, HB⟩
set_option maxRecDepth 100000 in
set_option maxHeartbeats 1000000 in
theorem ofs_neg (x : Nat) (y : Int) (w : World) (hx : x ≤ 2147483648) (h0 : 0 < x) (hy : y = -(x : Int)) :
    Calls Try.prog 20 #[.int .i32 y] w fun e w' => e = .returned (.int .u32 (wrd true (min (rg Ieee.single x 0) 2139095040) : Nat)) ∧ Below w.heap.size w w' := by
  have HB : Below w.heap.size w w := Below.refl _ _
  have hyn : y < 0 := by omega
  have hym : -y = (x : Int) := by omega
  have hyl : -2147483648 ≤ y := by omega
  have HX : Hid (x < 2 ^ (32 * 2)) := Nat.lt_of_le_of_lt hx (by decide)
  clear hy
  go_enter Try.func20, Try.ntmps20
  go_wp2_with (first
    | (go_at_call 32; refine (form_any _).mono ?_; rintro e wq ⟨rfl, hq⟩; subst wq)
    | (go_at_call 33; with_reducible refine (nat_any x _ (by omega)).mono ?_; rintro e w1 ⟨⟨v1, rfl, hv1⟩, h1⟩; replace HB : Below w.heap.size w w1 := bt2 h1 (by (repeat (first | exact HB | exact Below.refl _ _ | with_reducible refine bel ?_ | with_reducible refine Below.drew ?_ | with_reducible refine bt3 ?_))))
    | (go_at_call 31; with_reducible refine (rnd_nw true v1 x 2 0 _ hv1 HX.out (by omega) (by omega) (by omega)).mono ?_; rintro e w2 ⟨⟨n9, p9, rfl, hf9⟩, h2⟩; replace HB : Below w.heap.size w w2 := bt2 h2 (by (repeat (first | exact HB | exact Below.refl _ _ | with_reducible refine bel ?_ | with_reducible refine Below.drew ?_ | with_reducible refine bt3 ?_))))
    | (go_at_call 30; with_reducible refine (lay_any true n9 p9 _ _ hf9).mono ?_; rintro e w3 ⟨rfl, h3⟩; replace HB : Below w.heap.size w w3 := bt2 h3 (by (repeat (first | exact HB | exact Below.refl _ _ | with_reducible refine bel ?_ | with_reducible refine Below.drew ?_ | with_reducible refine bt3 ?_)))))
  go_ret
  exact ⟨rfl, HB⟩
theorem fof_wrd (n : Int) : fof n = wrd (decide (n < 0)) (min (rg Ieee.single n.natAbs 0) 2139095040) := by
  unfold fof
  rw [nearest_word, word_wrd _ _ (by omega)]
theorem ofs_any (n : Int) (w : World) (h1 : -2147483648 ≤ n) (h2 : n ≤ 2147483647) :
    Calls Try.prog 20 #[.int .i32 n] w fun e w' => e = .returned (.int .u32 (fof n)) ∧ Below w.heap.size w w' := by
  rw [fof_wrd]
  by_cases h : n < 0
  · rw [decide_eq_true h]
    exact ofs_neg n.natAbs n w (by omega) (by omega) (by omega)
  · obtain ⟨x, rfl⟩ : ∃ x : Nat, n = x := ⟨n.toNat, by omega⟩
    rw [decide_eq_false h]
    exact ofs_pos x w (by omega)
end Go.Proofs.Ytigiecodobgenaa
