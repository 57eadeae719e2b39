import Derived.Test.YtdkmbbnidhkdcaaSRmA
namespace Go.Proofs.Ytdkmbbnidhkdcaa
open Go.RowKit

set_option maxRecDepth 100000 in
set_option maxHeartbeats 4000000 in
theorem rM1a (m : Bool) (v0 : Value) (x0 NN : Nat) (P0 P : Int) (nb X M : Nat) (w : World) (hv0 : NatV w v0 x0) (hx0 : x0 < 2 ^ (32 * 6)) (hNN : x0 * 2 + 1 = NN) (hP1 : P0 - 1 = P) (hnb : nbits (NN) = nb) (hnl : nb ≤ 4000) (hP : -5000 ≤ P) (hP2 : P ≤ 5000) (hA : P + nb - 24 < -149) (hX : P - -149 = X) (hM : NN * 2 ^ X = M) (hMl : M < 18446744073709551616) :
    Calls Try.prog 35 #[.agg #[.int .i64 24, .int .i64 (-149), .int .i64 104], .bool m, v0, .int .i64 P0, .bool true] w fun e w' => e = .returned (hdV m M (-149)) ∧ Below w.heap.size w w' := by
  have HM : Hid (NN * 2 ^ X = M) := hM
  have hX5 : X ≤ 10000 := by omega
  have hPX : P + 149 = X := by omega
  have hPl : (-149 : Int) ≤ P := by omega
  have HXw : Hid (IntKind.i64.wrap (X : Int) = X) := by rw [Hid, IntKind.wrap_i64]; omega
  have HD : Hid (hdV m M (-149) = .agg #[.int .u8 3, .bool m, .int .u64 M, .int .i64 (-149)]) := by rw [Hid, hdV, if_neg (by omega)]
  clear hM hX
  have HB : Below ((w.alloc ob).alloc oz).heap.size ((w.alloc ob).alloc oz) ((w.alloc ob).alloc oz) := Below.refl _ _
  have HV0 : Hid (NatV ((w.alloc ob).alloc oz) v0 x0) := hv0.on (bel (bel (Below.refl _ _)))
  have HX0 : Hid (x0 < 2 ^ (32 * 6)) := hx0
  have HX1 : Hid (x0 * 2 < 2 ^ (32 * (6 + 1))) := dbl_lt (k := 6) hx0
  have HNN : Hid (x0 * 2 + 1 = NN) := hNN
  have HNZ : Hid (NN ≠ 0) := by rw [Hid]; omega
  have HNL : Hid (NN < 2 ^ (32 * (6 + 1))) := nn_lt (k := 6) hNN hx0
  clear hx0 hv0 hNN
  go_enter Try.func35, Try.ntmps35
  go_wp2_with (first
    | (go_at_call 33; with_reducible refine (up_1 v0 x0 6 _ (HV0.out.on (by (repeat (first | exact Below.refl _ _ | with_reducible refine bel ?_ | with_reducible refine Below.drew ?_ | with_reducible refine bt3 ?_)))) HX0.out (by omega)).mono ?_; rintro e wa ⟨⟨va, rfl, hva⟩, hba⟩; replace HB : Below ((w.alloc ob).alloc oz).heap.size ((w.alloc ob).alloc oz) wa := bt2 hba (by (repeat (first | exact HB | exact Below.refl _ _ | with_reducible refine bel ?_ | with_reducible refine Below.drew ?_ | with_reducible refine bt3 ?_))))
    | (go_at_call 34; with_reducible refine (nat_1 _).mono ?_; rintro e wb ⟨⟨vb, rfl, hvb⟩, hbb⟩; replace HB : Below ((w.alloc ob).alloc oz).heap.size ((w.alloc ob).alloc oz) wb := bt2 hbb (by (repeat (first | exact HB | exact Below.refl _ _ | with_reducible refine bel ?_ | with_reducible refine Below.drew ?_ | with_reducible refine bt3 ?_))); replace hva := hva.step (by (repeat (first | exact Below.refl _ _ | with_reducible refine bel ?_ | with_reducible refine Below.drew ?_ | with_reducible refine bt3 ?_))) hbb)
    | (go_at_call 36; with_reducible refine (plus_nv va vb _ _ (6 + 1) _ (hva.on (by (repeat (first | exact Below.refl _ _ | with_reducible refine bel ?_ | with_reducible refine Below.drew ?_ | with_reducible refine bt3 ?_)))) (hvb.on (by (repeat (first | exact Below.refl _ _ | with_reducible refine bel ?_ | with_reducible refine Below.drew ?_ | with_reducible refine bt3 ?_)))) HX1.out (one_lt (6 + 1) (by decide)) (by omega)).mono ?_; rintro e wn ⟨⟨vn, rfl, hvn⟩, hbn⟩; replace HB : Below ((w.alloc ob).alloc oz).heap.size ((w.alloc ob).alloc oz) wn := bt2 hbn (by (repeat (first | exact HB | exact Below.refl _ _ | with_reducible refine bel ?_ | with_reducible refine Below.drew ?_ | with_reducible refine bt3 ?_))); obtain ⟨ao, cap, zs, rfl, hc0, hn0, hval0, hN, hW, hr2⟩ := hvn.dest; rw [HNN.out] at hval0; subst hval0; have hz' := lenz hN HNZ.out; obtain ⟨f0, f1, f2⟩ := kF HB; clear hva hvb hvn hba hbb hbn))
  have hl : zs.length ≤ 100 := by have := len_pow hN rfl (6 + 1) HNL.out; omega
  have sz := fun W hrW => size_any ao cap zs W (by omega) hrW hW hN
  rw [hnb] at sz
  have HN : Below wn.heap.size wn wn := Below.refl _ _
  go_quiet (((go_at_call 50); exact Calls.quiet_of_same (sz _ hr2)))
  go_wp2
  go_region_held3 (fun w' => w'.cell? ⟨w.heap.size, 0, none⟩ = some (.int .i64 24) ∧ w'.cell? ⟨w.heap.size, 1, none⟩ = some (.int .i64 (-149)) ∧ w'.cell? ⟨w.heap.size, 2, none⟩ = some (.int .i64 104)) ((first | ((try dsimp only); with_reducible refine kS ?_; (repeat (first | exact HB | exact Below.refl _ _ | with_reducible refine bel ?_ | with_reducible refine Below.drew ?_ | with_reducible refine bt3 ?_ | with_reducible refine bt2 hb1 ?_ | with_reducible refine bt2 hb2 ?_)); done) | (refine kF ?_; (repeat (first | exact HB | exact Below.refl _ _ | with_reducible refine bel ?_ | with_reducible refine Below.drew ?_ | with_reducible refine bt3 ?_ | with_reducible refine bt2 hb1 ?_ | with_reducible refine bt2 hb2 ?_)); done))) (first
    | (go_at_call 33; rw [HXw.out]; with_reducible refine (up_any ao cap zs X _ (by omega) (by omega) (RU hr2 (by (repeat (first | exact HB | exact Below.refl _ _ | with_reducible refine bel ?_ | with_reducible refine Below.drew ?_ | with_reducible refine bt3 ?_)))) hW).mono ?_; rintro e w1 ⟨⟨v1, rfl, hv1⟩, hb1⟩; obtain ⟨ao1, cap1, zs1, rfl, hc1, hn1, hval1, hN1, hW1, hr1⟩ := hv1.dest)
    | (go_at_call 52; with_reducible refine (low_any ao1 cap1 zs1 _ (by have := small_len hN1 (hval1.trans HM.out) hMl; omega) (RU hr1 (by (repeat (first | exact HB | exact Below.refl _ _ | with_reducible refine bel ?_ | with_reducible refine Below.drew ?_ | with_reducible refine bt3 ?_)))) hW1).mono ?_; rintro e wq ⟨rfl, hq⟩; rw [hval1, HM.out, Nat.mod_eq_of_lt hMl]; subst wq)
    | (go_at_call 51; with_reducible refine (held_any m M (-149) _).mono ?_; rintro e w2 ⟨rfl, hb2⟩; rw [HD.out]; obtain ⟨r0, r1, r2, r3, q0, q1, q2, q3⟩ := kA (w := w) (W := w2) (by repeat (first | exact HB | exact Below.refl _ _ | with_reducible refine bel ?_ | with_reducible refine Below.drew ?_ | with_reducible refine bt3 ?_ | with_reducible refine bt2 hb1 ?_ | with_reducible refine bt2 hb2 ?_))))
  go_wp2
  refine bodyPost_ret (v := .agg #[.int .u8 3, .bool m, .int .u64 M, .int .i64 (-149)]) (by simp [results, Try.f35, go_sem, r0, r1, r2, r3]) rfl ?_
  exact ⟨by rw [HD.out], kB (by repeat (first | exact HB | exact Below.refl _ _ | with_reducible refine bel ?_ | with_reducible refine Below.drew ?_ | with_reducible refine bt3 ?_ | with_reducible refine bt2 hb1 ?_ | with_reducible refine bt2 hb2 ?_))⟩
set_option maxRecDepth 100000 in
set_option maxHeartbeats 4000000 in
theorem rM1b (m : Bool) (v0 : Value) (x0 NN : Nat) (P0 P : Int) (nb X M : Nat) (K : Int) (w : World) (hv0 : NatV w v0 x0) (hx0 : x0 < 2 ^ (32 * 6)) (hNN : x0 * 2 + 1 = NN) (hP1 : P0 - 1 = P) (hnb : nbits (NN) = nb) (hnl : nb ≤ 4000) (hP : -5000 ≤ P) (hP2 : P ≤ 5000) (hA : ¬ P + nb - 24 < -149) (hK : P + nb - 24 = K) (hKP : K ≤ P) (hX : P - K = X) (hM : NN * 2 ^ X = M) (hMl : M < 18446744073709551616) :
    Calls Try.prog 35 #[.agg #[.int .i64 24, .int .i64 (-149), .int .i64 104], .bool m, v0, .int .i64 P0, .bool true] w fun e w' => e = .returned (hdV m M K) ∧ Below w.heap.size w w' := by
  have HM : Hid (NN * 2 ^ X = M) := hM
  have hX5 : X ≤ 10000 := by omega
  have hA' : (-149 : Int) ≤ K := by omega
  have HXw : Hid (IntKind.i64.wrap (P - K) = X) := by rw [Hid, IntKind.wrap_i64]; omega
  have HXw' : Hid (IntKind.i64.wrap (X : Int) = X) := by rw [Hid, IntKind.wrap_i64]; omega
  have HD : Hid (hdV m M K = .agg #[.int .u8 (vS K), .bool m, .int .u64 (vM M K), .int .i64 (vP K)]) := hdV_agg m M K
  clear hM
  have HB : Below ((w.alloc ob).alloc oz).heap.size ((w.alloc ob).alloc oz) ((w.alloc ob).alloc oz) := Below.refl _ _
  have HV0 : Hid (NatV ((w.alloc ob).alloc oz) v0 x0) := hv0.on (bel (bel (Below.refl _ _)))
  have HX0 : Hid (x0 < 2 ^ (32 * 6)) := hx0
  have HX1 : Hid (x0 * 2 < 2 ^ (32 * (6 + 1))) := dbl_lt (k := 6) hx0
  have HNN : Hid (x0 * 2 + 1 = NN) := hNN
  have HNZ : Hid (NN ≠ 0) := by rw [Hid]; omega
  have HNL : Hid (NN < 2 ^ (32 * (6 + 1))) := nn_lt (k := 6) hNN hx0
  clear hx0 hv0 hNN
  go_enter Try.func35, Try.ntmps35
  go_wp2_with (first
    | (go_at_call 33; with_reducible refine (up_1 v0 x0 6 _ (HV0.out.on (by (repeat (first | exact Below.refl _ _ | with_reducible refine bel ?_ | with_reducible refine Below.drew ?_ | with_reducible refine bt3 ?_)))) HX0.out (by omega)).mono ?_; rintro e wa ⟨⟨va, rfl, hva⟩, hba⟩; replace HB : Below ((w.alloc ob).alloc oz).heap.size ((w.alloc ob).alloc oz) wa := bt2 hba (by (repeat (first | exact HB | exact Below.refl _ _ | with_reducible refine bel ?_ | with_reducible refine Below.drew ?_ | with_reducible refine bt3 ?_))))
    | (go_at_call 34; with_reducible refine (nat_1 _).mono ?_; rintro e wb ⟨⟨vb, rfl, hvb⟩, hbb⟩; replace HB : Below ((w.alloc ob).alloc oz).heap.size ((w.alloc ob).alloc oz) wb := bt2 hbb (by (repeat (first | exact HB | exact Below.refl _ _ | with_reducible refine bel ?_ | with_reducible refine Below.drew ?_ | with_reducible refine bt3 ?_))); replace hva := hva.step (by (repeat (first | exact Below.refl _ _ | with_reducible refine bel ?_ | with_reducible refine Below.drew ?_ | with_reducible refine bt3 ?_))) hbb)
    | (go_at_call 36; with_reducible refine (plus_nv va vb _ _ (6 + 1) _ (hva.on (by (repeat (first | exact Below.refl _ _ | with_reducible refine bel ?_ | with_reducible refine Below.drew ?_ | with_reducible refine bt3 ?_)))) (hvb.on (by (repeat (first | exact Below.refl _ _ | with_reducible refine bel ?_ | with_reducible refine Below.drew ?_ | with_reducible refine bt3 ?_)))) HX1.out (one_lt (6 + 1) (by decide)) (by omega)).mono ?_; rintro e wn ⟨⟨vn, rfl, hvn⟩, hbn⟩; replace HB : Below ((w.alloc ob).alloc oz).heap.size ((w.alloc ob).alloc oz) wn := bt2 hbn (by (repeat (first | exact HB | exact Below.refl _ _ | with_reducible refine bel ?_ | with_reducible refine Below.drew ?_ | with_reducible refine bt3 ?_))); obtain ⟨ao, cap, zs, rfl, hc0, hn0, hval0, hN, hW, hr2⟩ := hvn.dest; rw [HNN.out] at hval0; subst hval0; have hz' := lenz hN HNZ.out; obtain ⟨f0, f1, f2⟩ := kF HB; clear hva hvb hvn hba hbb hbn))
  have hl : zs.length ≤ 100 := by have := len_pow hN rfl (6 + 1) HNL.out; omega
  have sz := fun W hrW => size_any ao cap zs W (by omega) hrW hW hN
  rw [hnb] at sz
  have HN : Below wn.heap.size wn wn := Below.refl _ _
  go_quiet (((go_at_call 50); exact Calls.quiet_of_same (sz _ hr2)))
  go_wp2
  go_region_held3 (fun w' => w'.cell? ⟨w.heap.size, 0, none⟩ = some (.int .i64 24) ∧ w'.cell? ⟨w.heap.size, 1, none⟩ = some (.int .i64 (-149)) ∧ w'.cell? ⟨w.heap.size, 2, none⟩ = some (.int .i64 104)) ((first | ((try dsimp only); with_reducible refine kS ?_; (repeat (first | exact HB | exact Below.refl _ _ | with_reducible refine bel ?_ | with_reducible refine Below.drew ?_ | with_reducible refine bt3 ?_ | with_reducible refine bt2 hb1 ?_ | with_reducible refine bt2 hb2 ?_)); done) | (refine kF ?_; (repeat (first | exact HB | exact Below.refl _ _ | with_reducible refine bel ?_ | with_reducible refine Below.drew ?_ | with_reducible refine bt3 ?_ | with_reducible refine bt2 hb1 ?_ | with_reducible refine bt2 hb2 ?_)); done))) (first
    | (go_at_call 33; (first | rw [HXw.out] | rw [HXw'.out]); with_reducible refine (up_any ao cap zs X _ (by omega) (by omega) (RU hr2 (by (repeat (first | exact HB | exact Below.refl _ _ | with_reducible refine bel ?_ | with_reducible refine Below.drew ?_ | with_reducible refine bt3 ?_ | with_reducible refine bt2 hb1 ?_ | with_reducible refine bt2 hb2 ?_)))) hW).mono ?_; rintro e w1 ⟨⟨v1, rfl, hv1⟩, hb1⟩; obtain ⟨ao1, cap1, zs1, rfl, hc1, hn1, hval1, hN1, hW1, hr1⟩ := hv1.dest)
    | (go_at_call 52; with_reducible refine (low_any ao1 cap1 zs1 _ (by have := small_len hN1 (hval1.trans HM.out) hMl; omega) (RU hr1 (by (repeat (first | exact HB | exact Below.refl _ _ | with_reducible refine bel ?_ | with_reducible refine Below.drew ?_ | with_reducible refine bt3 ?_ | with_reducible refine bt2 hb1 ?_ | with_reducible refine bt2 hb2 ?_)))) hW1).mono ?_; rintro e wq ⟨rfl, hq⟩; rw [hval1, HM.out, Nat.mod_eq_of_lt hMl]; subst wq)
    | (go_at_call 51; with_reducible refine (held_any m M K _).mono ?_; rintro e w2 ⟨rfl, hb2⟩; rw [HD.out]; obtain ⟨r0, r1, r2, r3, q0, q1, q2, q3⟩ := kA (w := w) (W := w2) (by (repeat (first | exact HB | exact Below.refl _ _ | with_reducible refine bel ?_ | with_reducible refine Below.drew ?_ | with_reducible refine bt3 ?_ | with_reducible refine bt2 hb1 ?_ | with_reducible refine bt2 hb2 ?_)))))
  go_wp2
  refine bodyPost_ret (v := .agg #[.int .u8 (vS K), .bool m, .int .u64 (vM M K), .int .i64 (vP K)]) (by simp [results, Try.f35, go_sem, r0, r1, r2, r3]) rfl ?_
  exact ⟨by rw [HD.out], kB (by (repeat (first | exact HB | exact Below.refl _ _ | with_reducible refine bel ?_ | with_reducible refine Below.drew ?_ | with_reducible refine bt3 ?_ | with_reducible refine bt2 hb1 ?_ | with_reducible refine bt2 hb2 ?_)))⟩
set_option maxRecDepth 100000 in
set_option maxHeartbeats 4000000 in
theorem rM2 (m : Bool) (v0 : Value) (x0 NN : Nat) (P0 P : Int) (nb : Nat) (w : World) (hv0 : NatV w v0 x0) (hx0 : x0 < 2 ^ (32 * 6)) (hNN : x0 * 2 + 1 = NN) (hP1 : P0 - 1 = P) (hnb : nbits (NN) = nb) (hnl : nb ≤ 4000) (hP : -5000 ≤ P) (hP2 : P ≤ 5000) (hA : P + nb - 24 < -149) (hkP : P < -149) (hD : (nb : Int) + 1 < -149 - P) :
    Calls Try.prog 35 #[.agg #[.int .i64 24, .int .i64 (-149), .int .i64 104], .bool m, v0, .int .i64 P0, .bool true] w fun e w' => e = .returned (hdV m 0 (-149)) ∧ Below w.heap.size w w' := by
  have HD : Hid (hdV m 0 (-149) = .agg #[.int .u8 3, .bool m, .int .u64 0, .int .i64 (-149)]) := by rw [Hid, hdV, if_neg (by omega)]; rfl
  have HB : Below ((w.alloc ob).alloc oz).heap.size ((w.alloc ob).alloc oz) ((w.alloc ob).alloc oz) := Below.refl _ _
  have HV0 : Hid (NatV ((w.alloc ob).alloc oz) v0 x0) := hv0.on (bel (bel (Below.refl _ _)))
  have HX0 : Hid (x0 < 2 ^ (32 * 6)) := hx0
  have HX1 : Hid (x0 * 2 < 2 ^ (32 * (6 + 1))) := dbl_lt (k := 6) hx0
  have HNN : Hid (x0 * 2 + 1 = NN) := hNN
  have HNZ : Hid (NN ≠ 0) := by rw [Hid]; omega
  have HNL : Hid (NN < 2 ^ (32 * (6 + 1))) := nn_lt (k := 6) hNN hx0
  clear hx0 hv0 hNN
  go_enter Try.func35, Try.ntmps35
  go_wp2_with (first
    | (go_at_call 33; with_reducible refine (up_1 v0 x0 6 _ (HV0.out.on (by (repeat (first | exact Below.refl _ _ | with_reducible refine bel ?_ | with_reducible refine Below.drew ?_ | with_reducible refine bt3 ?_)))) HX0.out (by omega)).mono ?_; rintro e wa ⟨⟨va, rfl, hva⟩, hba⟩; replace HB : Below ((w.alloc ob).alloc oz).heap.size ((w.alloc ob).alloc oz) wa := bt2 hba (by (repeat (first | exact HB | exact Below.refl _ _ | with_reducible refine bel ?_ | with_reducible refine Below.drew ?_ | with_reducible refine bt3 ?_))))
    | (go_at_call 34; with_reducible refine (nat_1 _).mono ?_; rintro e wb ⟨⟨vb, rfl, hvb⟩, hbb⟩; replace HB : Below ((w.alloc ob).alloc oz).heap.size ((w.alloc ob).alloc oz) wb := bt2 hbb (by (repeat (first | exact HB | exact Below.refl _ _ | with_reducible refine bel ?_ | with_reducible refine Below.drew ?_ | with_reducible refine bt3 ?_))); replace hva := hva.step (by (repeat (first | exact Below.refl _ _ | with_reducible refine bel ?_ | with_reducible refine Below.drew ?_ | with_reducible refine bt3 ?_))) hbb)
    | (go_at_call 36; with_reducible refine (plus_nv va vb _ _ (6 + 1) _ (hva.on (by (repeat (first | exact Below.refl _ _ | with_reducible refine bel ?_ | with_reducible refine Below.drew ?_ | with_reducible refine bt3 ?_)))) (hvb.on (by (repeat (first | exact Below.refl _ _ | with_reducible refine bel ?_ | with_reducible refine Below.drew ?_ | with_reducible refine bt3 ?_)))) HX1.out (one_lt (6 + 1) (by decide)) (by omega)).mono ?_; rintro e wn ⟨⟨vn, rfl, hvn⟩, hbn⟩; replace HB : Below ((w.alloc ob).alloc oz).heap.size ((w.alloc ob).alloc oz) wn := bt2 hbn (by (repeat (first | exact HB | exact Below.refl _ _ | with_reducible refine bel ?_ | with_reducible refine Below.drew ?_ | with_reducible refine bt3 ?_))); obtain ⟨ao, cap, zs, rfl, hc0, hn0, hval0, hN, hW, hr2⟩ := hvn.dest; rw [HNN.out] at hval0; subst hval0; have hz' := lenz hN HNZ.out; obtain ⟨f0, f1, f2⟩ := kF HB; clear hva hvb hvn hba hbb hbn))
  have hl : zs.length ≤ 100 := by have := len_pow hN rfl (6 + 1) HNL.out; omega
  have sz := fun W hrW => size_any ao cap zs W (by omega) hrW hW hN
  rw [hnb] at sz
  have HN : Below wn.heap.size wn wn := Below.refl _ _
  go_quiet (((go_at_call 50); exact Calls.quiet_of_same (sz _ hr2)))
  go_wp2_with (first
    | (go_at_call 50; with_reducible refine (sz _ (RU hr2 (by (repeat (first | exact Below.refl _ _ | with_reducible refine bel ?_ | with_reducible refine Below.drew ?_ | with_reducible refine bt3 ?_))))).mono ?_; rintro e wq ⟨rfl, hq⟩; subst wq)
    | (go_at_call 38; with_reducible refine (nought_any m _).mono ?_; rintro e w2 ⟨rfl, hb2⟩; replace HB : Below ((w.alloc ob).alloc oz).heap.size ((w.alloc ob).alloc oz) w2 := bt2 hb2 (by (repeat (first | exact HB | exact Below.refl _ _ | with_reducible refine bel ?_ | with_reducible refine Below.drew ?_ | with_reducible refine bt3 ?_))); obtain ⟨r0, r1, r2, r3, q0, q1, q2, q3⟩ := kA HB))
  refine bodyPost_ret (v := .agg #[.int .u8 3, .bool m, .int .u64 0, .int .i64 (-149)]) (by simp [results, Try.f35, go_sem, r0, r1, r2, r3]) rfl ?_
  exact ⟨by rw [HD.out], kB HB⟩
end Go.Proofs.Ytdkmbbnidhkdcaa
