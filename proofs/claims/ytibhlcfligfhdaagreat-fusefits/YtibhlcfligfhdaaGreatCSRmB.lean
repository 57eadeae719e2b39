import Derived.Test.YtibhlcfligfhdaaGreatCSPrA
namespace Go.Proofs.YtibhlcfligfhdaaGreat
open Go.RowKit
set_option maxRecDepth 100000
set_option maxRecDepth 100000 in
set_option maxHeartbeats 40000000 in
theorem rM1A :
   (∀ (m : Bool) (v0 : Value) (x0 NN : Nat) (P0 P : Int) (nb X M : Nat) (w : World), (NatV w v0 x0) → (x0 < 2 ^ (32 * 6)) → (x0 * 2 + 1 = NN) → (P0 - 1 = P) → (nbits (NN) = nb) → (nb ≤ 4000) → (-5000 ≤ P) → (P ≤ 5000) → (P + nb - 24 < -149) → (P - -149 = X) → (NN * 2 ^ X = M) → (M < 18446744073709551616) → Calls Tryz.prog 105 #[.agg #[.int .i64 24, .int .i64 (-149), .int .i64 104], .bool m, v0, .int .i64 P0, .bool true] w fun e w' => e = .returned (hdV m M (-149)) ∧ Below w.heap.size w w') ∧
   (∀ (m : Bool) (v0 : Value) (x0 NN : Nat) (P0 P : Int) (nb X M : Nat) (K : Int) (w : World), (NatV w v0 x0) → (x0 < 2 ^ (32 * 6)) → (x0 * 2 + 1 = NN) → (P0 - 1 = P) → (nbits (NN) = nb) → (nb ≤ 4000) → (-5000 ≤ P) → (P ≤ 5000) → (¬ P + nb - 24 < -149) → (P + nb - 24 = K) → (K ≤ P) → (P - K = X) → (NN * 2 ^ X = M) → (M < 18446744073709551616) → Calls Tryz.prog 105 #[.agg #[.int .i64 24, .int .i64 (-149), .int .i64 104], .bool m, v0, .int .i64 P0, .bool true] w fun e w' => e = .returned (hdV m M K) ∧ Below w.heap.size w w') ∧
   (∀ (m : Bool) (v0 : Value) (x0 NN : Nat) (P0 P : Int) (nb : Nat) (w : World), (NatV w v0 x0) → (x0 < 2 ^ (32 * 6)) → (x0 * 2 + 1 = NN) → (P0 - 1 = P) → (nbits (NN) = nb) → (nb ≤ 4000) → (-5000 ≤ P) → (P ≤ 5000) → (P + nb - 24 < -149) → (P < -149) → ((nb : Int) + 1 < -149 - P) → Calls Tryz.prog 105 #[.agg #[.int .i64 24, .int .i64 (-149), .int .i64 104], .bool m, v0, .int .i64 P0, .bool true] w fun e w' => e = .returned (hdV m 0 (-149)) ∧ Below w.heap.size w w') := by
 refine ⟨?_, ?_, ?_⟩
 intro m v0 x0 NN P0 P nb X M w hv0 hx0 hNN hP1 hnb hnl hP hP2 hA hX hM hMl
 rotate_left
 intro m v0 x0 NN P0 P nb X M K w hv0 hx0 hNN hP1 hnb hnl hP hP2 hA hK hKP hX hM hMl
 rotate_left
 intro m v0 x0 NN P0 P nb w hv0 hx0 hNN hP1 hnb hnl hP hP2 hA hkP hD
 rotate_left
 have HM : Hid (NN * 2 ^ X = M) := hM
 have hX5 : X ≤ 10000 := by omega
 have hPX : P + 149 = X := by omega
 have hPl : (-149 : Int) ≤ P := by omega
 have HXw : Hid (IntKind.i64.wrap (X : Int) = X) := by rw [Hid, IntKind.wrap_i64]; omega
 have HD : Hid (hdV m M (-149) = .agg #[.int .u8 3, .bool m, .int .u64 M, .int .i64 (-149)]) := by rw [Hid, hdV, if_neg (by omega)]
 clear hM hX
 rotate_left
 have HM : Hid (NN * 2 ^ X = M) := hM
 have hX5 : X ≤ 10000 := by omega
 have hA' : (-149 : Int) ≤ K := by omega
 have HXw : Hid (IntKind.i64.wrap (P - K) = X) := by rw [Hid, IntKind.wrap_i64]; omega
 have HXw' : Hid (IntKind.i64.wrap (X : Int) = X) := by rw [Hid, IntKind.wrap_i64]; omega
 have HD : Hid (hdV m M K = .agg #[.int .u8 (vS K), .bool m, .int .u64 (vM M K), .int .i64 (vP K)]) := hdV_agg m M K
 clear hM
 rotate_left
 have HD : Hid (hdV m 0 (-149) = .agg #[.int .u8 3, .bool m, .int .u64 0, .int .i64 (-149)]) := by rw [Hid, hdV, if_neg (by omega)]; rfl
 rotate_left
 all_goals (have HB : Below ((w.alloc ob).alloc oz).heap.size ((w.alloc ob).alloc oz) ((w.alloc ob).alloc oz) := Below.refl _ _)
 all_goals (have HV0 : Hid (NatV ((w.alloc ob).alloc oz) v0 x0) := hv0.on (bel (bel (Below.refl _ _))))
 all_goals (have HX0 : Hid (x0 < 2 ^ (32 * 6)) := hx0)
 all_goals (have HX1 : Hid (x0 * 2 < 2 ^ (32 * (6 + 1))) := dbl_lt (k := 6) hx0)
 all_goals (have HNN : Hid (x0 * 2 + 1 = NN) := hNN)
 all_goals (have HNZ : Hid (NN ≠ 0) := by rw [Hid]; omega)
 all_goals (have HNL : Hid (NN < 2 ^ (32 * (6 + 1))) := nn_lt (k := 6) hNN hx0)
 all_goals (clear hx0 hv0 hNN)
 all_goals (go_enter Tryz.func105, Tryz.ntmps105)
 all_goals (
   go_wp2_with (first
     | (go_at_call 130; with_reducible refine (up_1 v0 x0 6 _ (HV0.out.on (by apply_rules [Below.refl, bel, Below.drew, bt3])) HX0.out (by omega)).mono ?_; rintro e wa ⟨⟨va, rfl, hva⟩, hba⟩; replace HB : Below ((w.alloc ob).alloc oz).heap.size ((w.alloc ob).alloc oz) wa := bt2 hba (by apply_rules [HB, Below.refl, bel, Below.drew, bt3]))
     | (go_at_call 107; with_reducible refine (nat_1 _).mono ?_; rintro e wb ⟨⟨vb, rfl, hvb⟩, hbb⟩; replace HB : Below ((w.alloc ob).alloc oz).heap.size ((w.alloc ob).alloc oz) wb := bt2 hbb (by apply_rules [HB, Below.refl, bel, Below.drew, bt3]); replace hva := hva.step (by apply_rules [Below.refl, bel, Below.drew, bt3]) hbb)
     | (go_at_call 129; with_reducible refine (plus_nv va vb _ _ (6 + 1) _ (hva.on (by apply_rules [Below.refl, bel, Below.drew, bt3])) (hvb.on (by apply_rules [Below.refl, bel, Below.drew, bt3])) HX1.out (one_lt (6 + 1) (by decide)) (by omega)).mono ?_; rintro e wn ⟨⟨vn, rfl, hvn⟩, hbn⟩; replace HB : Below ((w.alloc ob).alloc oz).heap.size ((w.alloc ob).alloc oz) wn := bt2 hbn (by apply_rules [HB, Below.refl, bel, Below.drew, bt3]); obtain ⟨ao, cap, zs, rfl, hc0, hn0, hval0, hN, hW, hr2⟩ := hvn.dest; rw [HNN.out] at hval0; subst hval0; have hz' := lenz hN HNZ.out; obtain ⟨f0, f1, f2⟩ := kF HB; clear hva hvb hvn hba hbb hbn)))
 all_goals (have hl : zs.length ≤ 100 := by have := len_pow hN rfl (6 + 1) HNL.out; omega)
 all_goals (have sz := fun W hrW => size_any ao cap zs W (by omega) hrW hW hN)
 all_goals (rw [hnb] at sz)
 all_goals (have HN : Below wn.heap.size wn wn := Below.refl _ _)
 all_goals (go_quiet (((go_at_call 132); exact Calls.quiet_of_same (sz _ hr2))))
 focus
   go_wp2
 focus
   go_region_held3 (fun w' => w'.cell? ⟨w.heap.size, 0, none⟩ = some (.int .i64 24) ∧ w'.cell? ⟨w.heap.size, 1, none⟩ = some (.int .i64 (-149)) ∧ w'.cell? ⟨w.heap.size, 2, none⟩ = some (.int .i64 104)) ((first | ((try dsimp only); with_reducible refine kS ?_; (repeat (first | exact HB | exact Below.refl _ _ | with_reducible first | refine bel ?_ | refine Below.drew ?_ | refine bt3 ?_ | with_reducible refine bt2 hb1 ?_ | with_reducible refine bt2 hb2 ?_)); done) | (refine kF ?_; (repeat (first | exact HB | exact Below.refl _ _ | with_reducible first | refine bel ?_ | refine Below.drew ?_ | refine bt3 ?_ | with_reducible refine bt2 hb1 ?_ | with_reducible refine bt2 hb2 ?_)); done))) (first
     | (go_at_call 130; rw [HXw.out]; with_reducible refine (up_any ao cap zs X _ (by omega) (by omega) (RU hr2 (by apply_rules [HB, Below.refl, bel, Below.drew, bt3])) hW).mono ?_; rintro e w1 ⟨⟨v1, rfl, hv1⟩, hb1⟩; obtain ⟨ao1, cap1, zs1, rfl, hc1, hn1, hval1, hN1, hW1, hr1⟩ := hv1.dest)
     | (go_at_call 108; with_reducible refine (low_any ao1 cap1 zs1 _ (by have := small_len hN1 (hval1.trans HM.out) hMl; omega) (RU hr1 (by apply_rules [HB, Below.refl, bel, Below.drew, bt3])) hW1).mono ?_; rintro e wq ⟨rfl, hq⟩; rw [hval1, HM.out, Nat.mod_eq_of_lt hMl]; subst wq)
     | (go_at_call 133; with_reducible refine (held_any m M (-149) _).mono ?_; rintro e w2 ⟨rfl, hb2⟩; rw [HD.out]; obtain ⟨r0, r1, r2, r3, q0, q1, q2, q3⟩ := kA (w := w) (W := w2) (by repeat (first | exact HB | exact Below.refl _ _ | with_reducible first | refine bel ?_ | refine Below.drew ?_ | refine bt3 ?_ | with_reducible refine bt2 hb1 ?_ | with_reducible refine bt2 hb2 ?_))))
 focus
   go_wp2
 refine bodyPost_ret (v := .agg #[.int .u8 3, .bool m, .int .u64 M, .int .i64 (-149)]) (by simp [results, Tryz.f105, go_sem, r0, r1, r2, r3]) rfl ?_
 exact ⟨by rw [HD.out], kB (by repeat (first | exact HB | exact Below.refl _ _ | with_reducible first | refine bel ?_ | refine Below.drew ?_ | refine bt3 ?_ | with_reducible refine bt2 hb1 ?_ | with_reducible refine bt2 hb2 ?_))⟩
 focus
   go_wp2
 focus
   go_region_held3 (fun w' => w'.cell? ⟨w.heap.size, 0, none⟩ = some (.int .i64 24) ∧ w'.cell? ⟨w.heap.size, 1, none⟩ = some (.int .i64 (-149)) ∧ w'.cell? ⟨w.heap.size, 2, none⟩ = some (.int .i64 104)) ((first | ((try dsimp only); with_reducible refine kS ?_; (repeat (first | exact HB | exact Below.refl _ _ | with_reducible first | refine bel ?_ | refine Below.drew ?_ | refine bt3 ?_ | with_reducible refine bt2 hb1 ?_ | with_reducible refine bt2 hb2 ?_)); done) | (refine kF ?_; (repeat (first | exact HB | exact Below.refl _ _ | with_reducible first | refine bel ?_ | refine Below.drew ?_ | refine bt3 ?_ | with_reducible refine bt2 hb1 ?_ | with_reducible refine bt2 hb2 ?_)); done))) (first
     | (go_at_call 130; (first | rw [HXw.out] | rw [HXw'.out]); with_reducible refine (up_any ao cap zs X _ (by omega) (by omega) (RU hr2 (by (repeat (first | exact HB | exact Below.refl _ _ | with_reducible first | refine bel ?_ | refine Below.drew ?_ | refine bt3 ?_ | with_reducible refine bt2 hb1 ?_ | with_reducible refine bt2 hb2 ?_)))) hW).mono ?_; rintro e w1 ⟨⟨v1, rfl, hv1⟩, hb1⟩; obtain ⟨ao1, cap1, zs1, rfl, hc1, hn1, hval1, hN1, hW1, hr1⟩ := hv1.dest)
     | (go_at_call 108; with_reducible refine (low_any ao1 cap1 zs1 _ (by have := small_len hN1 (hval1.trans HM.out) hMl; omega) (RU hr1 (by (repeat (first | exact HB | exact Below.refl _ _ | with_reducible first | refine bel ?_ | refine Below.drew ?_ | refine bt3 ?_ | with_reducible refine bt2 hb1 ?_ | with_reducible refine bt2 hb2 ?_)))) hW1).mono ?_; rintro e wq ⟨rfl, hq⟩; rw [hval1, HM.out, Nat.mod_eq_of_lt hMl]; subst wq)
     | (go_at_call 133; with_reducible refine (held_any m M K _).mono ?_; rintro e w2 ⟨rfl, hb2⟩; rw [HD.out]; obtain ⟨r0, r1, r2, r3, q0, q1, q2, q3⟩ := kA (w := w) (W := w2) (by (repeat (first | exact HB | exact Below.refl _ _ | with_reducible first | refine bel ?_ | refine Below.drew ?_ | refine bt3 ?_ | with_reducible refine bt2 hb1 ?_ | with_reducible refine bt2 hb2 ?_)))))
 focus
   go_wp2
 refine bodyPost_ret (v := .agg #[.int .u8 (vS K), .bool m, .int .u64 (vM M K), .int .i64 (vP K)]) (by simp [results, Tryz.f105, go_sem, r0, r1, r2, r3]) rfl ?_
 exact ⟨by rw [HD.out], kB (by (repeat (first | exact HB | exact Below.refl _ _ | with_reducible first | refine bel ?_ | refine Below.drew ?_ | refine bt3 ?_ | with_reducible refine bt2 hb1 ?_ | with_reducible refine bt2 hb2 ?_)))⟩
 focus
   go_wp2_with (first
     | (go_at_call 132; with_reducible refine (sz _ (RU hr2 (by apply_rules [Below.refl, bel, Below.drew, bt3]))).mono ?_; rintro e wq ⟨rfl, hq⟩; subst wq)
     | (go_at_call 131; with_reducible refine (nought_any m _).mono ?_; rintro e w2 ⟨rfl, hb2⟩; replace HB : Below ((w.alloc ob).alloc oz).heap.size ((w.alloc ob).alloc oz) w2 := bt2 hb2 (by apply_rules [HB, Below.refl, bel, Below.drew, bt3]); obtain ⟨r0, r1, r2, r3, q0, q1, q2, q3⟩ := kA HB))
 refine bodyPost_ret (v := .agg #[.int .u8 3, .bool m, .int .u64 0, .int .i64 (-149)]) (by simp [results, Tryz.f105, go_sem, r0, r1, r2, r3]) rfl ?_
 exact ⟨by rw [HD.out], kB HB⟩
abbrev rM1a := rM1A.1
abbrev rM1b := rM1A.2.1
abbrev rM2 := rM1A.2.2
end Go.Proofs.YtibhlcfligfhdaaGreat
