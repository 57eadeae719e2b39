import Derived.Test.YtjggbdlmghembaaGreatCSStA
namespace Go.Proofs.YtjggbdlmghembaaGreat
open Go.RowKit
set_option maxRecDepth 100000

theorem down_nv (v : Value) (x n : Nat) (w : World) (h : NatV w v x) (hx : x < 18446744073709551616) (hn : n ≤ 100000) :
    Calls Tryz.prog 72 #[v, .int .i64 n] w fun e w' => (∃ v', e = .returned v' ∧ NatV w' v' (x / 2 ^ n)) ∧ Below w.heap.size w w' := by
  obtain ⟨ao, cap, zs, rfl, hc, hn', hval, hN, hW, hr⟩ := h
  have := down_any ao cap zs n w (by have := small_len hN hval hx; omega) hn hr hW
  rw [hval] at this
  exact this
theorem nat_0 (w : World) : Calls Tryz.prog 70 #[.int .u64 0] w fun e w' => (∃ v, e = .returned v ∧ NatV w' v 0) ∧ Below w.heap.size w w' := nat_any 0 w (by decide)
theorem low_nv (v : Value) (x : Nat) (w : World) (h : NatV w v x) (hx : x < 18446744073709551616) :
    Calls Tryz.prog 71 #[v] w fun e w' => e = .returned (.int .u64 (x : Nat)) ∧ w' = w := by
  obtain ⟨ao, cap, zs, rfl, hc, hn', hval, hN, hW, hr⟩ := h
  have := low_any ao cap zs w (by have := small_len hN hval hx; omega) hr hW
  rw [hval, Nat.mod_eq_of_lt hx] at this
  exact this
set_option maxRecDepth 100000 in
set_option maxHeartbeats 4000000 in
theorem tw_none (a : Nat) (w : World) (ht : ∀ w, Calls Tryz.prog 56 #[.int .u32 a] w fun e w' => e = .returned (.agg #[.int .u8 1, .bool false, .int .u64 0, .int .i64 0]) ∧ Below w.heap.size w w') :
    Calls Tryz.prog 49 #[.int .u32 a] w fun e w' => e = .returned (.int .i32 (0)) ∧ Below w.heap.size w w' := by
  go_enter Tryz.func49, Tryz.ntmps49
  go_wp2_with (go_at_call 56; with_reducible refine (ht _).mono ?_; rintro e w1 ⟨rfl, h1⟩)
  go_ret
  exact ⟨rfl, bt2 h1 (Below.refl _ _) |> bel⟩
set_option maxRecDepth 100000 in
set_option maxHeartbeats 4000000 in
theorem tw_ef (a : Nat) (w : World) (ht : ∀ w, Calls Tryz.prog 56 #[.int .u32 a] w fun e w' => e = .returned (.agg #[.int .u8 2, .bool false, .int .u64 0, .int .i64 0]) ∧ Below w.heap.size w w') :
    Calls Tryz.prog 49 #[.int .u32 a] w fun e w' => e = .returned (.int .i32 (2147483647)) ∧ Below w.heap.size w w' := by
  go_enter Tryz.func49, Tryz.ntmps49
  go_wp2_with (go_at_call 56; with_reducible refine (ht _).mono ?_; rintro e w1 ⟨rfl, h1⟩)
  go_ret
  exact ⟨rfl, bt2 h1 (Below.refl _ _) |> bel⟩
set_option maxRecDepth 100000 in
set_option maxHeartbeats 4000000 in
theorem tw_et (a : Nat) (w : World) (ht : ∀ w, Calls Tryz.prog 56 #[.int .u32 a] w fun e w' => e = .returned (.agg #[.int .u8 2, .bool true, .int .u64 0, .int .i64 0]) ∧ Below w.heap.size w w') :
    Calls Tryz.prog 49 #[.int .u32 a] w fun e w' => e = .returned (.int .i32 (-2147483648)) ∧ Below w.heap.size w w' := by
  go_enter Tryz.func49, Tryz.ntmps49
  go_wp2_with (go_at_call 56; with_reducible refine (ht _).mono ?_; rintro e w1 ⟨rfl, h1⟩)
  go_ret
  exact ⟨rfl, bt2 h1 (Below.refl _ _) |> bel⟩
set_option maxRecDepth 100000 in
set_option maxHeartbeats 4000000 in
theorem tw_bf (a : Nat) (n : Nat) (p : Int) (hn : ((n : Int) == 0) = false) (hp : 8 < p) (w : World) (ht : ∀ w, Calls Tryz.prog 56 #[.int .u32 a] w fun e w' => e = .returned (.agg #[.int .u8 3, .bool false, .int .u64 n, .int .i64 p]) ∧ Below w.heap.size w w') :
    Calls Tryz.prog 49 #[.int .u32 a] w fun e w' => e = .returned (.int .i32 (2147483647)) ∧ Below w.heap.size w w' := by
  have hp' : decide (p ≤ 8) = false := decide_eq_false (by omega)
  go_enter Tryz.func49, Tryz.ntmps49
  go_wp2_with (go_at_call 56; with_reducible refine (ht _).mono ?_; rintro e w1 ⟨rfl, h1⟩)
  go_ret
  exact ⟨rfl, bt2 h1 (Below.refl _ _) |> bel⟩
set_option maxRecDepth 100000 in
set_option maxHeartbeats 4000000 in
theorem tw_bt (a : Nat) (n : Nat) (p : Int) (hn : ((n : Int) == 0) = false) (hp : 8 < p) (w : World) (ht : ∀ w, Calls Tryz.prog 56 #[.int .u32 a] w fun e w' => e = .returned (.agg #[.int .u8 3, .bool true, .int .u64 n, .int .i64 p]) ∧ Below w.heap.size w w') :
    Calls Tryz.prog 49 #[.int .u32 a] w fun e w' => e = .returned (.int .i32 (-2147483648)) ∧ Below w.heap.size w w' := by
  have hp' : decide (p ≤ 8) = false := decide_eq_false (by omega)
  go_enter Tryz.func49, Tryz.ntmps49
  go_wp2_with (go_at_call 56; with_reducible refine (ht _).mono ?_; rintro e w1 ⟨rfl, h1⟩)
  go_ret
  exact ⟨rfl, bt2 h1 (Below.refl _ _) |> bel⟩
set_option maxRecDepth 100000 in
set_option maxHeartbeats 4000000 in
theorem tw_pfa (a : Nat) (n k T : Nat) (hn : ((n : Int) == 0) = false) (hn2 : n < 16777216) (hk : k ≤ 8) (hT : n * 2 ^ k = T) (hTm : T ≤ 4294967296) (hc : T < 2147483648) (w : World) (ht : ∀ w, Calls Tryz.prog 56 #[.int .u32 a] w fun e w' => e = .returned (.agg #[.int .u8 3, .bool false, .int .u64 n, .int .i64 (k : Int)]) ∧ Below w.heap.size w w') :
    Calls Tryz.prog 49 #[.int .u32 a] w fun e w' => e = .returned (.int .i32 (T)) ∧ Below w.heap.size w w' := by
  have hk0 : (0 : Int) ≤ (k : Int) := by omega
  have hk8 : (k : Int) ≤ 8 := by omega
  have hTI : (n : Int) * 2 ^ k = (T : Int) := by rw [← hT]; simp
  have hTl : T < 9223372036854775808 := by omega
  clear hT
  have hc' : decide ((2147483647 : Int) < (T : Int)) = false := decide_eq_false (by omega)
  have hc2 : decide ((T : Int) < -2147483648) = false := decide_eq_false (by omega)
  go_enter Tryz.func49, Tryz.ntmps49
  go_wp2_with (go_at_call 56; with_reducible refine (ht _).mono ?_; rintro e w1 ⟨rfl, h1⟩)
  go_ret
  exact ⟨rfl, bt2 h1 (Below.refl _ _) |> bel⟩
set_option maxRecDepth 100000 in
set_option maxHeartbeats 4000000 in
theorem tw_pfb (a : Nat) (n k T : Nat) (hn : ((n : Int) == 0) = false) (hn2 : n < 16777216) (hk : k ≤ 8) (hT : n * 2 ^ k = T) (hTm : T ≤ 4294967296) (hc : 2147483648 ≤ T) (w : World) (ht : ∀ w, Calls Tryz.prog 56 #[.int .u32 a] w fun e w' => e = .returned (.agg #[.int .u8 3, .bool false, .int .u64 n, .int .i64 (k : Int)]) ∧ Below w.heap.size w w') :
    Calls Tryz.prog 49 #[.int .u32 a] w fun e w' => e = .returned (.int .i32 (2147483647)) ∧ Below w.heap.size w w' := by
  have hk0 : (0 : Int) ≤ (k : Int) := by omega
  have hk8 : (k : Int) ≤ 8 := by omega
  have hTI : (n : Int) * 2 ^ k = (T : Int) := by rw [← hT]; simp
  have hTl : T < 9223372036854775808 := by omega
  clear hT
  have hc' : (2147483647 : Int) < (T : Int) := by omega
  go_enter Tryz.func49, Tryz.ntmps49
  go_wp2_with (go_at_call 56; with_reducible refine (ht _).mono ?_; rintro e w1 ⟨rfl, h1⟩)
  go_ret
  exact ⟨rfl, bt2 h1 (Below.refl _ _) |> bel⟩
set_option maxRecDepth 100000 in
set_option maxHeartbeats 4000000 in
theorem tw_pta (a : Nat) (n k T : Nat) (hn : ((n : Int) == 0) = false) (hn2 : n < 16777216) (hk : k ≤ 8) (hT : n * 2 ^ k = T) (hTm : T ≤ 4294967296) (hc : T ≤ 2147483648) (w : World) (ht : ∀ w, Calls Tryz.prog 56 #[.int .u32 a] w fun e w' => e = .returned (.agg #[.int .u8 3, .bool true, .int .u64 n, .int .i64 (k : Int)]) ∧ Below w.heap.size w w') :
    Calls Tryz.prog 49 #[.int .u32 a] w fun e w' => e = .returned (.int .i32 (-(T : Int))) ∧ Below w.heap.size w w' := by
  have hk0 : (0 : Int) ≤ (k : Int) := by omega
  have hk8 : (k : Int) ≤ 8 := by omega
  have hTI : (n : Int) * 2 ^ k = (T : Int) := by rw [← hT]; simp
  have hTl : T < 9223372036854775808 := by omega
  clear hT
  have hc' : decide ((2147483647 : Int) < -(T : Int)) = false := decide_eq_false (by omega)
  have hc2 : decide (-(T : Int) < -2147483648) = false := decide_eq_false (by omega)
  go_enter Tryz.func49, Tryz.ntmps49
  go_wp2_with (go_at_call 56; with_reducible refine (ht _).mono ?_; rintro e w1 ⟨rfl, h1⟩)
  go_ret
  exact ⟨rfl, bt2 h1 (Below.refl _ _) |> bel⟩
set_option maxRecDepth 100000 in
set_option maxHeartbeats 4000000 in
theorem tw_ptb (a : Nat) (n k T : Nat) (hn : ((n : Int) == 0) = false) (hn2 : n < 16777216) (hk : k ≤ 8) (hT : n * 2 ^ k = T) (hTm : T ≤ 4294967296) (hc : 2147483648 < T) (w : World) (ht : ∀ w, Calls Tryz.prog 56 #[.int .u32 a] w fun e w' => e = .returned (.agg #[.int .u8 3, .bool true, .int .u64 n, .int .i64 (k : Int)]) ∧ Below w.heap.size w w') :
    Calls Tryz.prog 49 #[.int .u32 a] w fun e w' => e = .returned (.int .i32 (-2147483648)) ∧ Below w.heap.size w w' := by
  have hk0 : (0 : Int) ≤ (k : Int) := by omega
  have hk8 : (k : Int) ≤ 8 := by omega
  have hTI : (n : Int) * 2 ^ k = (T : Int) := by rw [← hT]; simp
  have hTl : T < 9223372036854775808 := by omega
  clear hT
  have hc' : decide ((2147483647 : Int) < -(T : Int)) = false := decide_eq_false (by omega)
  have hc2 : -(T : Int) < -2147483648 := by omega
  go_enter Tryz.func49, Tryz.ntmps49
  go_wp2_with (go_at_call 56; with_reducible refine (ht _).mono ?_; rintro e w1 ⟨rfl, h1⟩)
  go_ret
  exact ⟨rfl, bt2 h1 (Below.refl _ _) |> bel⟩
set_option maxRecDepth 100000 in
set_option maxHeartbeats 4000000 in
theorem tw_nfn (a : Nat) (n D T : Nat) (p : Int) (hn : ((n : Int) == 0) = false) (hn2 : n < 16777216) (hp : p < 0) (hD : -p = D) (hDl : D ≤ 1000) (hT : n / 2 ^ D = T) (w : World) (ht : ∀ w, Calls Tryz.prog 56 #[.int .u32 a] w fun e w' => e = .returned (.agg #[.int .u8 3, .bool false, .int .u64 n, .int .i64 p]) ∧ Below w.heap.size w w') :
    Calls Tryz.prog 49 #[.int .u32 a] w fun e w' => e = .returned (.int .i32 ((T : Int))) ∧ Below w.heap.size w w' := by
  have hTl : T < 16777216 := by rw [← hT]; exact Nat.lt_of_le_of_lt (Nat.div_le_self _ _) hn2
  have HT : Hid (n / 2 ^ D = T) := hT

  have HTw : Hid (IntKind.i64.wrap (T : Int) = T) := by rw [Hid, IntKind.wrap_i64]; omega
  have HDw : Hid (IntKind.i64.wrap (D : Int) = D) := by rw [Hid, IntKind.wrap_i64]; omega
  have HDw2 : Hid (IntKind.i64.wrap (-p) = D) := by rw [Hid, IntKind.wrap_i64]; omega
  have hp8 : p ≤ 8 := by omega
  have hp0 : decide (p ≥ 0) = false := decide_eq_false (by omega)
  have hp0' : decide (0 ≤ p) = false := decide_eq_false (by omega)
  have hc' : decide ((2147483647 : Int) < (T : Int)) = false := decide_eq_false (by omega)
  have hc2 : decide ((T : Int) < -2147483648) = false := decide_eq_false (by omega)
  have hTI : (T : Int) < 16777216 := by omega
  clear hT
  go_enter Tryz.func49, Tryz.ntmps49
  go_wp2_with (go_at_call 56; with_reducible refine (ht _).mono ?_; rintro e w1 ⟨rfl, h1⟩)
  have HB : Below (w1.alloc (oV 3 false n p)).heap.size (w1.alloc (oV 3 false n p)) (w1.alloc (oV 3 false n p)) := Below.refl _ _
  have HA := nv_nil (w1.alloc (oV 3 false n p))
  go_region_held3 (fun w' => w'.cell? ⟨w1.heap.size, 0, none⟩ = some (.int .u8 3) ∧ w'.cell? ⟨w1.heap.size, 1, none⟩ = some (.bool false) ∧ w'.cell? ⟨w1.heap.size, 2, none⟩ = some (.int .u64 (n : Nat)) ∧ w'.cell? ⟨w1.heap.size, 3, none⟩ = some (.int .i64 p)) ((refine g1 ?_; (repeat (first | exact HB | exact Below.refl _ _ | with_reducible refine bel ?_ | with_reducible refine Below.drew ?_ | with_reducible refine bt3 ?_)); done)) (first
    | (go_at_call 70; with_reducible refine (nat_any n _ (by omega)).mono ?_; rintro e w3 ⟨⟨v3, rfl, hv3⟩, hb3⟩; replace HB : Below (w1.alloc (oV 3 false n p)).heap.size (w1.alloc (oV 3 false n p)) w3 := bt2 hb3 (by (repeat (first | exact HB | exact Below.refl _ _ | with_reducible refine bel ?_ | with_reducible refine Below.drew ?_ | with_reducible refine bt3 ?_))); replace HA := hv3; clear hb3 hv3)
    | (go_at_call 72; (first | rw [HDw.out] | rw [HDw2.out]); with_reducible refine (down_nv v3 n D _ (HA.on (by (repeat (first | exact Below.refl _ _ | with_reducible refine bel ?_ | with_reducible refine Below.drew ?_ | with_reducible refine bt3 ?_)))) (by omega) (by omega)).mono ?_; rintro e w5 ⟨⟨v5, rfl, hv5⟩, hb5⟩; replace HB : Below (w1.alloc (oV 3 false n p)).heap.size (w1.alloc (oV 3 false n p)) w5 := bt2 hb5 (by (repeat (first | exact HB | exact Below.refl _ _ | with_reducible refine bel ?_ | with_reducible refine Below.drew ?_ | with_reducible refine bt3 ?_))); replace HA := hv5; clear hb5 hv5)
    | (go_at_call 71; with_reducible refine (low_nv v5 _ _ (HA.on (by (repeat (first | exact Below.refl _ _ | with_reducible refine bel ?_ | with_reducible refine Below.drew ?_ | with_reducible refine bt3 ?_)))) (by rw [HT.out]; omega)).mono ?_; rintro e wq ⟨rfl, hq⟩; subst wq; rw [HT.out]))
  obtain ⟨c0, c1, c2, c3⟩ := g1 HB
  clear hD hp hp0 hp0' hp8 ht HA
  rw [HTw.out]
  go_wp2
  go_ret
  exact ⟨rfl, bt2 (show Below (w1.alloc (oV 3 false n p)).heap.size (w1.alloc (oV 3 false n p)) _ from by (repeat (first | exact HB | exact Below.refl _ _ | with_reducible refine bel ?_ | with_reducible refine Below.drew ?_ | with_reducible refine bt3 ?_))) (bel (bt2 h1 (Below.refl _ _)))⟩
set_option maxRecDepth 100000 in
set_option maxHeartbeats 4000000 in
theorem tw_nfz (a : Nat) (D T : Nat) (p : Int) (hp : p < 0) (hD : -p = D) (hDl : D ≤ 1000) (hT : 0 / 2 ^ D = T) (w : World) (ht : ∀ w, Calls Tryz.prog 56 #[.int .u32 a] w fun e w' => e = .returned (.agg #[.int .u8 3, .bool false, .int .u64 0, .int .i64 p]) ∧ Below w.heap.size w w') :
    Calls Tryz.prog 49 #[.int .u32 a] w fun e w' => e = .returned (.int .i32 (0)) ∧ Below w.heap.size w w' := by
  have hTl : T < 16777216 := by rw [← hT]; exact Nat.lt_of_le_of_lt (Nat.div_le_self _ _) (by omega)
  have HT : Hid (0 / 2 ^ D = T) := hT

  have HTw : Hid (IntKind.i64.wrap (T : Int) = T) := by rw [Hid, IntKind.wrap_i64]; omega
  have HDw : Hid (IntKind.i64.wrap (D : Int) = D) := by rw [Hid, IntKind.wrap_i64]; omega
  have HDw2 : Hid (IntKind.i64.wrap (-p) = D) := by rw [Hid, IntKind.wrap_i64]; omega
  have hp8 : p ≤ 8 := by omega
  have hp0 : decide (p ≥ 0) = false := decide_eq_false (by omega)
  have hp0' : decide (0 ≤ p) = false := decide_eq_false (by omega)
  have hc' : decide ((2147483647 : Int) < 0) = false := decide_eq_false (by omega)
  have hc2 : decide (0 < -2147483648) = false := decide_eq_false (by omega)
  have hTI : (T : Int) < 16777216 := by omega
  clear hT
  go_enter Tryz.func49, Tryz.ntmps49
  go_wp2_with (go_at_call 56; with_reducible refine (ht _).mono ?_; rintro e w1 ⟨rfl, h1⟩)
  have HB : Below (w1.alloc (oV 3 false 0 p)).heap.size (w1.alloc (oV 3 false 0 p)) (w1.alloc (oV 3 false 0 p)) := Below.refl _ _
  have HA := nv_nil (w1.alloc (oV 3 false 0 p))
  go_region_held3 (fun w' => w'.cell? ⟨w1.heap.size, 0, none⟩ = some (.int .u8 3) ∧ w'.cell? ⟨w1.heap.size, 1, none⟩ = some (.bool false) ∧ w'.cell? ⟨w1.heap.size, 2, none⟩ = some (.int .u64 0) ∧ w'.cell? ⟨w1.heap.size, 3, none⟩ = some (.int .i64 p)) ((refine g1 ?_; (repeat (first | exact HB | exact Below.refl _ _ | with_reducible refine bel ?_ | with_reducible refine Below.drew ?_ | with_reducible refine bt3 ?_)); done)) (first
    | (go_at_call 70; with_reducible refine (nat_0 _).mono ?_; rintro e w3 ⟨⟨v3, rfl, hv3⟩, hb3⟩; replace HB : Below (w1.alloc (oV 3 false 0 p)).heap.size (w1.alloc (oV 3 false 0 p)) w3 := bt2 hb3 (by (repeat (first | exact HB | exact Below.refl _ _ | with_reducible refine bel ?_ | with_reducible refine Below.drew ?_ | with_reducible refine bt3 ?_))); replace HA := hv3; clear hb3 hv3)
    | (go_at_call 72; (first | rw [HDw.out] | rw [HDw2.out]); with_reducible refine (down_nv v3 0 D _ (HA.on (by (repeat (first | exact Below.refl _ _ | with_reducible refine bel ?_ | with_reducible refine Below.drew ?_ | with_reducible refine bt3 ?_)))) (by omega) (by omega)).mono ?_; rintro e w5 ⟨⟨v5, rfl, hv5⟩, hb5⟩; replace HB : Below (w1.alloc (oV 3 false 0 p)).heap.size (w1.alloc (oV 3 false 0 p)) w5 := bt2 hb5 (by (repeat (first | exact HB | exact Below.refl _ _ | with_reducible refine bel ?_ | with_reducible refine Below.drew ?_ | with_reducible refine bt3 ?_))); replace HA := hv5; clear hb5 hv5)
    | (go_at_call 71; with_reducible refine (low_nv v5 _ _ (HA.on (by (repeat (first | exact Below.refl _ _ | with_reducible refine bel ?_ | with_reducible refine Below.drew ?_ | with_reducible refine bt3 ?_)))) (by rw [HT.out]; omega)).mono ?_; rintro e wq ⟨rfl, hq⟩; subst wq; rw [HT.out]))
  obtain ⟨c0, c1, c2, c3⟩ := g1 HB
  clear hD hp hp0 hp0' hp8 ht HA
  skip
  go_wp2
  go_ret
  exact ⟨rfl, bt2 (show Below (w1.alloc (oV 3 false 0 p)).heap.size (w1.alloc (oV 3 false 0 p)) _ from by (repeat (first | exact HB | exact Below.refl _ _ | with_reducible refine bel ?_ | with_reducible refine Below.drew ?_ | with_reducible refine bt3 ?_))) (bel (bt2 h1 (Below.refl _ _)))⟩
set_option maxRecDepth 100000 in
set_option maxHeartbeats 4000000 in
theorem tw_ntn (a : Nat) (n D T : Nat) (p : Int) (hn : ((n : Int) == 0) = false) (hn2 : n < 16777216) (hp : p < 0) (hD : -p = D) (hDl : D ≤ 1000) (hT : n / 2 ^ D = T) (U : Int) (hU : -(T : Int) = U) (w : World) (ht : ∀ w, Calls Tryz.prog 56 #[.int .u32 a] w fun e w' => e = .returned (.agg #[.int .u8 3, .bool true, .int .u64 n, .int .i64 p]) ∧ Below w.heap.size w w') :
    Calls Tryz.prog 49 #[.int .u32 a] w fun e w' => e = .returned (.int .i32 (U)) ∧ Below w.heap.size w w' := by
  have hTl : T < 16777216 := by rw [← hT]; exact Nat.lt_of_le_of_lt (Nat.div_le_self _ _) hn2
  have HT : Hid (n / 2 ^ D = T) := hT

  have HTw : Hid (IntKind.i64.wrap (T : Int) = T) := by rw [Hid, IntKind.wrap_i64]; omega
  have HDw : Hid (IntKind.i64.wrap (D : Int) = D) := by rw [Hid, IntKind.wrap_i64]; omega
  have HDw2 : Hid (IntKind.i64.wrap (-p) = D) := by rw [Hid, IntKind.wrap_i64]; omega
  have hp8 : p ≤ 8 := by omega
  have hp0 : decide (p ≥ 0) = false := decide_eq_false (by omega)
  have hp0' : decide (0 ≤ p) = false := decide_eq_false (by omega)
  have hc' : decide ((2147483647 : Int) < U) = false := decide_eq_false (by omega)
  have hc2 : decide (U < -2147483648) = false := decide_eq_false (by omega)
  have hUl : -16777216 < U := by omega
  have hUh : U < 16777216 := by omega
  clear hT
  go_enter Tryz.func49, Tryz.ntmps49
  go_wp2_with (go_at_call 56; with_reducible refine (ht _).mono ?_; rintro e w1 ⟨rfl, h1⟩)
  have HB : Below (w1.alloc (oV 3 true n p)).heap.size (w1.alloc (oV 3 true n p)) (w1.alloc (oV 3 true n p)) := Below.refl _ _
  have HA := nv_nil (w1.alloc (oV 3 true n p))
  go_region_held3 (fun w' => w'.cell? ⟨w1.heap.size, 0, none⟩ = some (.int .u8 3) ∧ w'.cell? ⟨w1.heap.size, 1, none⟩ = some (.bool true) ∧ w'.cell? ⟨w1.heap.size, 2, none⟩ = some (.int .u64 (n : Nat)) ∧ w'.cell? ⟨w1.heap.size, 3, none⟩ = some (.int .i64 p)) ((refine g1 ?_; (repeat (first | exact HB | exact Below.refl _ _ | with_reducible refine bel ?_ | with_reducible refine Below.drew ?_ | with_reducible refine bt3 ?_)); done)) (first
    | (go_at_call 70; with_reducible refine (nat_any n _ (by omega)).mono ?_; rintro e w3 ⟨⟨v3, rfl, hv3⟩, hb3⟩; replace HB : Below (w1.alloc (oV 3 true n p)).heap.size (w1.alloc (oV 3 true n p)) w3 := bt2 hb3 (by (repeat (first | exact HB | exact Below.refl _ _ | with_reducible refine bel ?_ | with_reducible refine Below.drew ?_ | with_reducible refine bt3 ?_))); replace HA := hv3; clear hb3 hv3)
    | (go_at_call 72; (first | rw [HDw.out] | rw [HDw2.out]); with_reducible refine (down_nv v3 n D _ (HA.on (by (repeat (first | exact Below.refl _ _ | with_reducible refine bel ?_ | with_reducible refine Below.drew ?_ | with_reducible refine bt3 ?_)))) (by omega) (by omega)).mono ?_; rintro e w5 ⟨⟨v5, rfl, hv5⟩, hb5⟩; replace HB : Below (w1.alloc (oV 3 true n p)).heap.size (w1.alloc (oV 3 true n p)) w5 := bt2 hb5 (by (repeat (first | exact HB | exact Below.refl _ _ | with_reducible refine bel ?_ | with_reducible refine Below.drew ?_ | with_reducible refine bt3 ?_))); replace HA := hv5; clear hb5 hv5)
    | (go_at_call 71; with_reducible refine (low_nv v5 _ _ (HA.on (by (repeat (first | exact Below.refl _ _ | with_reducible refine bel ?_ | with_reducible refine Below.drew ?_ | with_reducible refine bt3 ?_)))) (by rw [HT.out]; omega)).mono ?_; rintro e wq ⟨rfl, hq⟩; subst wq; rw [HT.out]))
  obtain ⟨c0, c1, c2, c3⟩ := g1 HB
  clear hD hp hp0 hp0' hp8 ht HA
  rw [HTw.out]
  go_wp2
  go_ret
  exact ⟨rfl, bt2 (show Below (w1.alloc (oV 3 true n p)).heap.size (w1.alloc (oV 3 true n p)) _ from by (repeat (first | exact HB | exact Below.refl _ _ | with_reducible refine bel ?_ | with_reducible refine Below.drew ?_ | with_reducible refine bt3 ?_))) (bel (bt2 h1 (Below.refl _ _)))⟩
set_option maxRecDepth 100000 in
set_option maxHeartbeats 4000000 in
theorem tw_ntz (a : Nat) (D T : Nat) (p : Int) (hp : p < 0) (hD : -p = D) (hDl : D ≤ 1000) (hT : 0 / 2 ^ D = T) (w : World) (ht : ∀ w, Calls Tryz.prog 56 #[.int .u32 a] w fun e w' => e = .returned (.agg #[.int .u8 3, .bool true, .int .u64 0, .int .i64 p]) ∧ Below w.heap.size w w') :
    Calls Tryz.prog 49 #[.int .u32 a] w fun e w' => e = .returned (.int .i32 (0)) ∧ Below w.heap.size w w' := by
  have hTl : T < 16777216 := by rw [← hT]; exact Nat.lt_of_le_of_lt (Nat.div_le_self _ _) (by omega)
  have HT : Hid (0 / 2 ^ D = T) := hT

  have HTw : Hid (IntKind.i64.wrap (T : Int) = T) := by rw [Hid, IntKind.wrap_i64]; omega
  have HDw : Hid (IntKind.i64.wrap (D : Int) = D) := by rw [Hid, IntKind.wrap_i64]; omega
  have HDw2 : Hid (IntKind.i64.wrap (-p) = D) := by rw [Hid, IntKind.wrap_i64]; omega
  have hp8 : p ≤ 8 := by omega
  have hp0 : decide (p ≥ 0) = false := decide_eq_false (by omega)
  have hp0' : decide (0 ≤ p) = false := decide_eq_false (by omega)
  have hc' : decide ((2147483647 : Int) < 0) = false := decide_eq_false (by omega)
  have hc2 : decide (0 < -2147483648) = false := decide_eq_false (by omega)
  have hTI : (T : Int) < 16777216 := by omega
  clear hT
  go_enter Tryz.func49, Tryz.ntmps49
  go_wp2_with (go_at_call 56; with_reducible refine (ht _).mono ?_; rintro e w1 ⟨rfl, h1⟩)
  have HB : Below (w1.alloc (oV 3 true 0 p)).heap.size (w1.alloc (oV 3 true 0 p)) (w1.alloc (oV 3 true 0 p)) := Below.refl _ _
  have HA := nv_nil (w1.alloc (oV 3 true 0 p))
  go_region_held3 (fun w' => w'.cell? ⟨w1.heap.size, 0, none⟩ = some (.int .u8 3) ∧ w'.cell? ⟨w1.heap.size, 1, none⟩ = some (.bool true) ∧ w'.cell? ⟨w1.heap.size, 2, none⟩ = some (.int .u64 0) ∧ w'.cell? ⟨w1.heap.size, 3, none⟩ = some (.int .i64 p)) ((refine g1 ?_; (repeat (first | exact HB | exact Below.refl _ _ | with_reducible refine bel ?_ | with_reducible refine Below.drew ?_ | with_reducible refine bt3 ?_)); done)) (first
    | (go_at_call 70; with_reducible refine (nat_0 _).mono ?_; rintro e w3 ⟨⟨v3, rfl, hv3⟩, hb3⟩; replace HB : Below (w1.alloc (oV 3 true 0 p)).heap.size (w1.alloc (oV 3 true 0 p)) w3 := bt2 hb3 (by (repeat (first | exact HB | exact Below.refl _ _ | with_reducible refine bel ?_ | with_reducible refine Below.drew ?_ | with_reducible refine bt3 ?_))); replace HA := hv3; clear hb3 hv3)
    | (go_at_call 72; (first | rw [HDw.out] | rw [HDw2.out]); with_reducible refine (down_nv v3 0 D _ (HA.on (by (repeat (first | exact Below.refl _ _ | with_reducible refine bel ?_ | with_reducible refine Below.drew ?_ | with_reducible refine bt3 ?_)))) (by omega) (by omega)).mono ?_; rintro e w5 ⟨⟨v5, rfl, hv5⟩, hb5⟩; replace HB : Below (w1.alloc (oV 3 true 0 p)).heap.size (w1.alloc (oV 3 true 0 p)) w5 := bt2 hb5 (by (repeat (first | exact HB | exact Below.refl _ _ | with_reducible refine bel ?_ | with_reducible refine Below.drew ?_ | with_reducible refine bt3 ?_))); replace HA := hv5; clear hb5 hv5)
    | (go_at_call 71; with_reducible refine (low_nv v5 _ _ (HA.on (by (repeat (first | exact Below.refl _ _ | with_reducible refine bel ?_ | with_reducible refine Below.drew ?_ | with_reducible refine bt3 ?_)))) (by rw [HT.out]; omega)).mono ?_; rintro e wq ⟨rfl, hq⟩; subst wq; rw [HT.out]))
  obtain ⟨c0, c1, c2, c3⟩ := g1 HB
  clear hD hp hp0 hp0' hp8 ht HA
  skip
  go_wp2
  go_ret
  exact ⟨rfl, bt2 (show Below (w1.alloc (oV 3 true 0 p)).heap.size (w1.alloc (oV 3 true 0 p)) _ from by (repeat (first | exact HB | exact Below.refl _ _ | with_reducible refine bel ?_ | with_reducible refine Below.drew ?_ | with_reducible refine bt3 ?_))) (bel (bt2 h1 (Below.refl _ _)))⟩
end Go.Proofs.YtjggbdlmghembaaGreat
