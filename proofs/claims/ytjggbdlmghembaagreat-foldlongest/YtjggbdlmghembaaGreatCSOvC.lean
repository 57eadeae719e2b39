import Derived.Test.YtjggbdlmghembaaGreatSOvB
import Derived.Test.YtjggbdlmghembaaGreatCSPrB
namespace Go.Proofs.YtjggbdlmghembaaGreat
open Go.RowKit
set_option maxRecDepth 100000

/-- a number and its fine part: what is far below the cut counts only as a mark -/
theorem rne_mark (N d D n l m h : Nat) (hn : N / 2 ^ (d + 1) = n) (hl : N % 2 ^ (d + 1) = l) (hm : (l != 0).toNat = m) (hD : 2 ≤ D) (hh : 2 ^ (D - 2) = h) :
    rne (2 * n + m) (2 ^ D) = rne N (2 ^ (D + d)) := by
  have hH : 2 ^ (D - 1) = 2 * h := by rw [← hh, ← Nat.pow_succ', show (D - 2).succ = D - 1 by omega]
  have hHD : 2 ^ D = 2 * 2 ^ (D - 1) := by rw [← Nat.pow_succ', show (D - 1).succ = D by omega]
  have hg : 2 ^ (D + d) = 2 ^ (d + 1) * 2 ^ (D - 1) := by rw [← Nat.pow_add]; congr 1; omega
  have hgp := Nat.two_pow_pos (d + 1)
  have hll : l < 2 ^ (d + 1) := by rw [← hl]; exact Nat.mod_lt _ hgp
  have hm1 : m ≤ 1 := by rw [← hm]; cases (l != 0) <;> decide
  have hml : l = 0 ↔ m = 0 := by
    rw [← hm]
    by_cases e : l = 0
    · simp [e]
    · simp [e]
  have q1 : (2 * n + m) / 2 ^ D = n / 2 ^ (D - 1) := by rw [hHD, ← Nat.div_div_eq_div_mul, show (2 * n + m) / 2 = n by omega]
  have q2 : N / 2 ^ (D + d) = n / 2 ^ (D - 1) := by rw [hg, ← Nat.div_div_eq_div_mul, hn]
  have r1 : (2 * n + m) % 2 ^ D = 2 * (n % 2 ^ (D - 1)) + m := by
    have a1 := Nat.div_add_mod (2 * n + m) (2 ^ D)
    have a2 := Nat.div_add_mod n (2 ^ (D - 1))
    rw [q1, hHD, Nat.mul_assoc] at a1
    rw [hHD]
    omega
  have r2 : N % 2 ^ (D + d) = 2 ^ (d + 1) * (n % 2 ^ (D - 1)) + l := by
    have a1 := Nat.div_add_mod N (2 ^ (D + d))
    have a2 := Nat.div_add_mod n (2 ^ (D - 1))
    have a3 := Nat.div_add_mod N (2 ^ (d + 1))
    rw [hn, hl] at a3
    rw [q2, hg, Nat.mul_assoc] at a1
    rw [hg]
    have a4 : 2 ^ (d + 1) * n = 2 ^ (d + 1) * (2 ^ (D - 1) * (n / 2 ^ (D - 1))) + 2 ^ (d + 1) * (n % 2 ^ (D - 1)) := by rw [← Nat.mul_add, a2]
    omega
  unfold rne
  rw [q1, q2, r1, r2]
  congr 1
  rw [hg, hHD, hH]
  generalize n % (2 * h) = R
  generalize 2 ^ (d + 1) = g at *
  have hc : g * (2 * h) = 2 * (g * h) := Nat.mul_left_comm _ _ _
  have e1 : (2 * (2 * h) < 2 * (2 * R + m)) ↔ (g * (2 * h) < 2 * (g * R + l)) := by
    rcases Nat.lt_trichotomy h R with c | c | c
    · have : g * (h + 1) ≤ g * R := Nat.mul_le_mul_left _ c
      rw [Nat.mul_add, Nat.mul_one] at this
      rw [hc]
      exact ⟨fun _ => by omega, fun _ => by omega⟩
    · subst c
      rw [hc]
      omega
    · have : g * (R + 1) ≤ g * h := Nat.mul_le_mul_left _ c
      rw [Nat.mul_add, Nat.mul_one] at this
      rw [hc]
      exact ⟨fun _ => by omega, fun _ => by omega⟩
  have e2 : (2 * (2 * h) = 2 * (2 * R + m)) ↔ (g * (2 * h) = 2 * (g * R + l)) := by
    rcases Nat.lt_trichotomy h R with c | c | c
    · have : g * (h + 1) ≤ g * R := Nat.mul_le_mul_left _ c
      rw [Nat.mul_add, Nat.mul_one] at this
      rw [hc]
      exact ⟨fun _ => by omega, fun _ => by omega⟩
    · subst c
      rw [hc]
      omega
    · have : g * (R + 1) ≤ g * h := Nat.mul_le_mul_left _ c
      rw [Nat.mul_add, Nat.mul_one] at this
      rw [hc]
      exact ⟨fun _ => by omega, fun _ => by omega⟩
  simp only [e1, e2]
theorem nbits_eq {N k : Nat} (h1 : 2 ^ k ≤ N) (h2 : N < 2 ^ (k + 1)) : nbits N = k + 1 := by
  have h0 : N ≠ 0 := by have := Nat.two_pow_pos k; omega
  obtain ⟨b1, b2, b3⟩ := nb_bounds N h0
  have c1 := (Nat.pow_lt_pow_iff_right (a := 2) (by decide)).1 (Nat.lt_of_le_of_lt b1 h2)
  have c2 := (Nat.pow_lt_pow_iff_right (a := 2) (by decide)).1 (Nat.lt_of_le_of_lt h1 b2)
  omega
theorem rg_mark (N d n l : Nat) (P : Int) (hn : N / 2 ^ (d + 1) = n) (hl : N % 2 ^ (d + 1) = l) (hb : 16777216 ≤ n) :
    rg Ieee.single (2 * n + (l != 0).toNat) (P + d) = rg Ieee.single N P := by
  obtain ⟨m, hm⟩ : ∃ m, (l != 0).toNat = m := ⟨_, rfl⟩
  have hm1 : m ≤ 1 := by rw [← hm]; cases (l != 0) <;> decide
  rw [hm]
  have hn0 : n ≠ 0 := by omega
  obtain ⟨b1, b2, b3⟩ := nb_bounds n hn0
  obtain ⟨k, hk⟩ : ∃ k, nbits n = k + 1 := ⟨nbits n - 1, by omega⟩
  rw [hk, Nat.add_sub_cancel] at b1
  rw [hk] at b2
  have hk24 : 24 ≤ k := by
    have : 2 ^ 24 < 2 ^ (k + 1) := Nat.lt_of_le_of_lt (show 2 ^ 24 ≤ n by omega) b2
    have := (Nat.pow_lt_pow_iff_right (a := 2) (by decide)).1 this
    omega
  have n1 : nbits (2 * n + m) = k + 2 := nbits_eq (by rw [Nat.pow_succ]; omega) (by rw [Nat.pow_succ]; omega)
  have hgp := Nat.two_pow_pos (d + 1)
  have hdm := Nat.div_add_mod N (2 ^ (d + 1))
  rw [hn, hl] at hdm
  have hll : l < 2 ^ (d + 1) := by rw [← hl]; exact Nat.mod_lt _ hgp
  have n2 : nbits N = k + (d + 1) + 1 := nbits_eq
    (by rw [Nat.pow_add, Nat.mul_comm, ← hdm]; exact Nat.le_trans (Nat.mul_le_mul_left _ b1) (Nat.le_add_right _ _))
    (by
      have h1 : 2 ^ (d + 1) * (n + 1) ≤ 2 ^ (d + 1) * 2 ^ (k + 1) := Nat.mul_le_mul_left _ b2
      rw [← Nat.pow_add, show d + 1 + (k + 1) = k + (d + 1) + 1 by omega, Nat.mul_add, Nat.mul_one] at h1
      omega)
  obtain ⟨K, hK⟩ : ∃ K, max (P + nbits N - 24) (-149) = K := ⟨_, rfl⟩
  obtain ⟨D, hD⟩ : ∃ D : Nat, K - (P + d) = D := ⟨(K - (P + d)).toNat, by rw [n2] at hK; omega⟩
  have hD2 : 2 ≤ D := by rw [n2] at hK; omega
  rw [rg_dn (2 * n + m) (by omega) (P + d) K D (by rw [n1]; rw [n2] at hK; omega) hD, rg_dn N (by intro h; subst h; simp at hn; omega) P K (D + d) hK (by omega)]
  rw [rne_mark N d D n l m _ hn hl hm hD2 rfl]
/-- a quotient with its mark, at two fine units -/
theorem rg_quot (A b s d : Nat) (P : Int) (hb : 0 < b) (hq : 16777216 ≤ A * 2 ^ s / b) :
    rg Ieee.single (2 * (A * 2 ^ s / b) + (A * 2 ^ s % b != 0).toNat) (P + d) = rg Ieee.single (2 * (A * 2 ^ (s + d) / b) + (A * 2 ^ (s + d) % b != 0).toNat) P := by
  obtain ⟨X, hX⟩ : ∃ X, A * 2 ^ s = X := ⟨_, rfl⟩
  have hXd : A * 2 ^ (s + d) = X * 2 ^ d := by rw [← hX, Nat.pow_add, Nat.mul_assoc]
  rw [hXd, hX]
  rw [hX] at hq
  have hdp := Nat.two_pow_pos d
  obtain ⟨m, hm⟩ : ∃ m, (X * 2 ^ d % b != 0).toNat = m := ⟨_, rfl⟩
  have hm1 : m ≤ 1 := by rw [← hm]; cases (X * 2 ^ d % b != 0) <;> decide
  have hmz : X * 2 ^ d % b = 0 ↔ m = 0 := by
    rw [← hm]
    by_cases e : X * 2 ^ d % b = 0
    · simp [e]
    · simp [e]
  rw [hm]
  have hn : (2 * (X * 2 ^ d / b) + m) / 2 ^ (d + 1) = X / b := by
    rw [Nat.pow_succ, Nat.mul_comm (2 ^ d), ← Nat.div_div_eq_div_mul, show (2 * (X * 2 ^ d / b) + m) / 2 = X * 2 ^ d / b by omega, Nat.div_div_eq_div_mul, Nat.mul_div_mul_right _ _ hdp]
  have h1 := rg_mark (2 * (X * 2 ^ d / b) + m) d (X / b) _ P hn rfl hq
  rw [← h1]
  congr 3
  have hl : (2 * (X * 2 ^ d / b) + m) % 2 ^ (d + 1) = 2 * (X * 2 ^ d / b % 2 ^ d) + m := by
    have a1 := Nat.div_add_mod (2 * (X * 2 ^ d / b) + m) (2 ^ (d + 1))
    have a2 := Nat.div_add_mod (X * 2 ^ d / b) (2 ^ d)
    rw [hn, Nat.pow_succ, Nat.mul_comm (2 ^ d), Nat.mul_assoc] at a1
    rw [Nat.div_div_eq_div_mul, Nat.mul_div_mul_right _ _ hdp] at a2
    rw [Nat.pow_succ, Nat.mul_comm (2 ^ d)]
    omega
  rw [hl]
  have hx : X * 2 ^ d % (b * 2 ^ d) = X % b * 2 ^ d := Nat.mul_mod_mul_right _ _ _
  rw [Nat.mod_mul] at hx
  have key : X % b = 0 ↔ 2 * (X * 2 ^ d / b % 2 ^ d) + m = 0 := by
    constructor
    · intro h
      rw [h, Nat.zero_mul] at hx
      have h3 : X * 2 ^ d % b = 0 := by omega
      have h4 : b * (X * 2 ^ d / b % 2 ^ d) = 0 := by omega
      rcases Nat.mul_eq_zero.1 h4 with h5 | h5
      · omega
      · rw [h5]; have := hmz.1 h3; omega
    · intro h
      have h3 : X * 2 ^ d / b % 2 ^ d = 0 := by omega
      have h4 := hmz.2 (by omega)
      rw [h3, h4, Nat.mul_zero] at hx
      rcases Nat.mul_eq_zero.1 hx.symm with h5 | h5
      · exact h5
      · omega
  rw [Bool.eq_iff_iff]
  simp only [bne_iff_ne, ne_eq]
  rw [key]
end Go.Proofs.YtjggbdlmghembaaGreat
namespace Go.Proofs.YtjggbdlmghembaaGreat
open Go.RowKit
set_option maxRecDepth 100000

set_option maxRecDepth 100000 in
set_option maxHeartbeats 4000000 in
theorem rM1a (m : Bool) (v0 : Value) (x0 NN : Nat) (P0 P : Int) (nb X M : Nat) (w : World) (hv0 : NatV w v0 x0) (hx0 : x0 < 2 ^ (32 * 6)) (hNN : x0 * 2 + 1 = NN) (hP1 : P0 - 1 = P) (hnb : nbits (NN) = nb) (hnl : nb ≤ 4000) (hP : -5000 ≤ P) (hP2 : P ≤ 5000) (hA : P + nb - 24 < -149) (hX : P - -149 = X) (hM : NN * 2 ^ X = M) (hMl : M < 18446744073709551616) :
    Calls Tryz.prog 68 #[.agg #[.int .i64 24, .int .i64 (-149), .int .i64 104], .bool m, v0, .int .i64 P0, .bool true] w fun e w' => e = .returned (hdV m M (-149)) ∧ Below w.heap.size w w' := by
  have HM : Hid (NN * 2 ^ X = M) := hM
  have hX5 : X ≤ 10000 := by omega
  have hPX : P + 149 = X := by omega
  have hPl : (-149 : Int) ≤ P := by omega
  have HXw : Hid (IntKind.i64.wrap (X : Int) = X) := by rw [Hid, IntKind.wrap_i64]; omega
  have HD : Hid (hdV m M (-149) = .agg #[.int .u8 3, .bool m, .int .u64 M, .int .i64 (-149)]) := by rw [Hid, hdV, if_neg (by omega)]
  clear hM hX
  have HB : Below ((w.alloc ob).alloc oz).heap.size ((w.alloc ob).alloc oz) ((w.alloc ob).alloc oz) := Below.refl _ _
  have HV0 : Hid (NatV ((w.alloc ob).alloc oz) v0 x0) := hv0.on (bel (bel (Below.refl _ _)))
  have HX0 : Hid (x0 < 2 ^ (32 * 6)) := hx0
  have HX1 : Hid (x0 * 2 < 2 ^ (32 * (6 + 1))) := dbl_lt (k := 6) hx0
  have HNN : Hid (x0 * 2 + 1 = NN) := hNN
  have HNZ : Hid (NN ≠ 0) := by rw [Hid]; omega
  have HNL : Hid (NN < 2 ^ (32 * (6 + 1))) := nn_lt (k := 6) hNN hx0
  clear hx0 hv0 hNN
  go_enter Tryz.func68, Tryz.ntmps68
  go_wp2_with (first
    | (go_at_call 85; with_reducible refine (up_1 v0 x0 6 _ (HV0.out.on (by (repeat (first | exact Below.refl _ _ | with_reducible refine bel ?_ | with_reducible refine Below.drew ?_ | with_reducible refine bt3 ?_)))) HX0.out (by omega)).mono ?_; rintro e wa ⟨⟨va, rfl, hva⟩, hba⟩; replace HB : Below ((w.alloc ob).alloc oz).heap.size ((w.alloc ob).alloc oz) wa := bt2 hba (by (repeat (first | exact HB | exact Below.refl _ _ | with_reducible refine bel ?_ | with_reducible refine Below.drew ?_ | with_reducible refine bt3 ?_))))
    | (go_at_call 70; with_reducible refine (nat_1 _).mono ?_; rintro e wb ⟨⟨vb, rfl, hvb⟩, hbb⟩; replace HB : Below ((w.alloc ob).alloc oz).heap.size ((w.alloc ob).alloc oz) wb := bt2 hbb (by (repeat (first | exact HB | exact Below.refl _ _ | with_reducible refine bel ?_ | with_reducible refine Below.drew ?_ | with_reducible refine bt3 ?_))); replace hva := hva.step (by (repeat (first | exact Below.refl _ _ | with_reducible refine bel ?_ | with_reducible refine Below.drew ?_ | with_reducible refine bt3 ?_))) hbb)
    | (go_at_call 84; with_reducible refine (plus_nv va vb _ _ (6 + 1) _ (hva.on (by (repeat (first | exact Below.refl _ _ | with_reducible refine bel ?_ | with_reducible refine Below.drew ?_ | with_reducible refine bt3 ?_)))) (hvb.on (by (repeat (first | exact Below.refl _ _ | with_reducible refine bel ?_ | with_reducible refine Below.drew ?_ | with_reducible refine bt3 ?_)))) HX1.out (one_lt (6 + 1) (by decide)) (by omega)).mono ?_; rintro e wn ⟨⟨vn, rfl, hvn⟩, hbn⟩; replace HB : Below ((w.alloc ob).alloc oz).heap.size ((w.alloc ob).alloc oz) wn := bt2 hbn (by (repeat (first | exact HB | exact Below.refl _ _ | with_reducible refine bel ?_ | with_reducible refine Below.drew ?_ | with_reducible refine bt3 ?_))); obtain ⟨ao, cap, zs, rfl, hc0, hn0, hval0, hN, hW, hr2⟩ := hvn.dest; rw [HNN.out] at hval0; subst hval0; have hz' := lenz hN HNZ.out; obtain ⟨f0, f1, f2⟩ := kF HB; clear hva hvb hvn hba hbb hbn))
  have hl : zs.length ≤ 100 := by have := len_pow hN rfl (6 + 1) HNL.out; omega
  have sz := fun W hrW => size_any ao cap zs W (by omega) hrW hW hN
  rw [hnb] at sz
  have HN : Below wn.heap.size wn wn := Below.refl _ _
  go_quiet (((go_at_call 87); exact Calls.quiet_of_same (sz _ hr2)))
  go_wp2
  go_region_held3 (fun w' => w'.cell? ⟨w.heap.size, 0, none⟩ = some (.int .i64 24) ∧ w'.cell? ⟨w.heap.size, 1, none⟩ = some (.int .i64 (-149)) ∧ w'.cell? ⟨w.heap.size, 2, none⟩ = some (.int .i64 104)) ((first | ((try dsimp only); with_reducible refine kS ?_; (repeat (first | exact HB | exact Below.refl _ _ | with_reducible refine bel ?_ | with_reducible refine Below.drew ?_ | with_reducible refine bt3 ?_ | with_reducible refine bt2 hb1 ?_ | with_reducible refine bt2 hb2 ?_)); done) | (refine kF ?_; (repeat (first | exact HB | exact Below.refl _ _ | with_reducible refine bel ?_ | with_reducible refine Below.drew ?_ | with_reducible refine bt3 ?_ | with_reducible refine bt2 hb1 ?_ | with_reducible refine bt2 hb2 ?_)); done))) (first
    | (go_at_call 85; rw [HXw.out]; with_reducible refine (up_any ao cap zs X _ (by omega) (by omega) (RU hr2 (by (repeat (first | exact HB | exact Below.refl _ _ | with_reducible refine bel ?_ | with_reducible refine Below.drew ?_ | with_reducible refine bt3 ?_)))) hW).mono ?_; rintro e w1 ⟨⟨v1, rfl, hv1⟩, hb1⟩; obtain ⟨ao1, cap1, zs1, rfl, hc1, hn1, hval1, hN1, hW1, hr1⟩ := hv1.dest)
    | (go_at_call 71; with_reducible refine (low_any ao1 cap1 zs1 _ (by have := small_len hN1 (hval1.trans HM.out) hMl; omega) (RU hr1 (by (repeat (first | exact HB | exact Below.refl _ _ | with_reducible refine bel ?_ | with_reducible refine Below.drew ?_ | with_reducible refine bt3 ?_)))) hW1).mono ?_; rintro e wq ⟨rfl, hq⟩; rw [hval1, HM.out, Nat.mod_eq_of_lt hMl]; subst wq)
    | (go_at_call 88; with_reducible refine (held_any m M (-149) _).mono ?_; rintro e w2 ⟨rfl, hb2⟩; rw [HD.out]; obtain ⟨r0, r1, r2, r3, q0, q1, q2, q3⟩ := kA (w := w) (W := w2) (by repeat (first | exact HB | exact Below.refl _ _ | with_reducible refine bel ?_ | with_reducible refine Below.drew ?_ | with_reducible refine bt3 ?_ | with_reducible refine bt2 hb1 ?_ | with_reducible refine bt2 hb2 ?_))))
  go_wp2
  refine bodyPost_ret (v := .agg #[.int .u8 3, .bool m, .int .u64 M, .int .i64 (-149)]) (by simp [results, Tryz.f68, go_sem, r0, r1, r2, r3]) rfl ?_
  exact ⟨by rw [HD.out], kB (by repeat (first | exact HB | exact Below.refl _ _ | with_reducible refine bel ?_ | with_reducible refine Below.drew ?_ | with_reducible refine bt3 ?_ | with_reducible refine bt2 hb1 ?_ | with_reducible refine bt2 hb2 ?_))⟩
set_option maxRecDepth 100000 in
set_option maxHeartbeats 4000000 in
theorem rM1b (m : Bool) (v0 : Value) (x0 NN : Nat) (P0 P : Int) (nb X M : Nat) (K : Int) (w : World) (hv0 : NatV w v0 x0) (hx0 : x0 < 2 ^ (32 * 6)) (hNN : x0 * 2 + 1 = NN) (hP1 : P0 - 1 = P) (hnb : nbits (NN) = nb) (hnl : nb ≤ 4000) (hP : -5000 ≤ P) (hP2 : P ≤ 5000) (hA : ¬ P + nb - 24 < -149) (hK : P + nb - 24 = K) (hKP : K ≤ P) (hX : P - K = X) (hM : NN * 2 ^ X = M) (hMl : M < 18446744073709551616) :
    Calls Tryz.prog 68 #[.agg #[.int .i64 24, .int .i64 (-149), .int .i64 104], .bool m, v0, .int .i64 P0, .bool true] w fun e w' => e = .returned (hdV m M K) ∧ Below w.heap.size w w' := by
  have HM : Hid (NN * 2 ^ X = M) := hM
  have hX5 : X ≤ 10000 := by omega
  have hA' : (-149 : Int) ≤ K := by omega
  have HXw : Hid (IntKind.i64.wrap (P - K) = X) := by rw [Hid, IntKind.wrap_i64]; omega
  have HXw' : Hid (IntKind.i64.wrap (X : Int) = X) := by rw [Hid, IntKind.wrap_i64]; omega
  have HD : Hid (hdV m M K = .agg #[.int .u8 (vS K), .bool m, .int .u64 (vM M K), .int .i64 (vP K)]) := hdV_agg m M K
  clear hM
  have HB : Below ((w.alloc ob).alloc oz).heap.size ((w.alloc ob).alloc oz) ((w.alloc ob).alloc oz) := Below.refl _ _
  have HV0 : Hid (NatV ((w.alloc ob).alloc oz) v0 x0) := hv0.on (bel (bel (Below.refl _ _)))
  have HX0 : Hid (x0 < 2 ^ (32 * 6)) := hx0
  have HX1 : Hid (x0 * 2 < 2 ^ (32 * (6 + 1))) := dbl_lt (k := 6) hx0
  have HNN : Hid (x0 * 2 + 1 = NN) := hNN
  have HNZ : Hid (NN ≠ 0) := by rw [Hid]; omega
  have HNL : Hid (NN < 2 ^ (32 * (6 + 1))) := nn_lt (k := 6) hNN hx0
  clear hx0 hv0 hNN
  go_enter Tryz.func68, Tryz.ntmps68
  go_wp2_with (first
    | (go_at_call 85; with_reducible refine (up_1 v0 x0 6 _ (HV0.out.on (by (repeat (first | exact Below.refl _ _ | with_reducible refine bel ?_ | with_reducible refine Below.drew ?_ | with_reducible refine bt3 ?_)))) HX0.out (by omega)).mono ?_; rintro e wa ⟨⟨va, rfl, hva⟩, hba⟩; replace HB : Below ((w.alloc ob).alloc oz).heap.size ((w.alloc ob).alloc oz) wa := bt2 hba (by (repeat (first | exact HB | exact Below.refl _ _ | with_reducible refine bel ?_ | with_reducible refine Below.drew ?_ | with_reducible refine bt3 ?_))))
    | (go_at_call 70; with_reducible refine (nat_1 _).mono ?_; rintro e wb ⟨⟨vb, rfl, hvb⟩, hbb⟩; replace HB : Below ((w.alloc ob).alloc oz).heap.size ((w.alloc ob).alloc oz) wb := bt2 hbb (by (repeat (first | exact HB | exact Below.refl _ _ | with_reducible refine bel ?_ | with_reducible refine Below.drew ?_ | with_reducible refine bt3 ?_))); replace hva := hva.step (by (repeat (first | exact Below.refl _ _ | with_reducible refine bel ?_ | with_reducible refine Below.drew ?_ | with_reducible refine bt3 ?_))) hbb)
    | (go_at_call 84; with_reducible refine (plus_nv va vb _ _ (6 + 1) _ (hva.on (by (repeat (first | exact Below.refl _ _ | with_reducible refine bel ?_ | with_reducible refine Below.drew ?_ | with_reducible refine bt3 ?_)))) (hvb.on (by (repeat (first | exact Below.refl _ _ | with_reducible refine bel ?_ | with_reducible refine Below.drew ?_ | with_reducible refine bt3 ?_)))) HX1.out (one_lt (6 + 1) (by decide)) (by omega)).mono ?_; rintro e wn ⟨⟨vn, rfl, hvn⟩, hbn⟩; replace HB : Below ((w.alloc ob).alloc oz).heap.size ((w.alloc ob).alloc oz) wn := bt2 hbn (by (repeat (first | exact HB | exact Below.refl _ _ | with_reducible refine bel ?_ | with_reducible refine Below.drew ?_ | with_reducible refine bt3 ?_))); obtain ⟨ao, cap, zs, rfl, hc0, hn0, hval0, hN, hW, hr2⟩ := hvn.dest; rw [HNN.out] at hval0; subst hval0; have hz' := lenz hN HNZ.out; obtain ⟨f0, f1, f2⟩ := kF HB; clear hva hvb hvn hba hbb hbn))
  have hl : zs.length ≤ 100 := by have := len_pow hN rfl (6 + 1) HNL.out; omega
  have sz := fun W hrW => size_any ao cap zs W (by omega) hrW hW hN
  rw [hnb] at sz
  have HN : Below wn.heap.size wn wn := Below.refl _ _
  go_quiet (((go_at_call 87); exact Calls.quiet_of_same (sz _ hr2)))
  go_wp2
  go_region_held3 (fun w' => w'.cell? ⟨w.heap.size, 0, none⟩ = some (.int .i64 24) ∧ w'.cell? ⟨w.heap.size, 1, none⟩ = some (.int .i64 (-149)) ∧ w'.cell? ⟨w.heap.size, 2, none⟩ = some (.int .i64 104)) ((first | ((try dsimp only); with_reducible refine kS ?_; (repeat (first | exact HB | exact Below.refl _ _ | with_reducible refine bel ?_ | with_reducible refine Below.drew ?_ | with_reducible refine bt3 ?_ | with_reducible refine bt2 hb1 ?_ | with_reducible refine bt2 hb2 ?_)); done) | (refine kF ?_; (repeat (first | exact HB | exact Below.refl _ _ | with_reducible refine bel ?_ | with_reducible refine Below.drew ?_ | with_reducible refine bt3 ?_ | with_reducible refine bt2 hb1 ?_ | with_reducible refine bt2 hb2 ?_)); done))) (first
    | (go_at_call 85; (first | rw [HXw.out] | rw [HXw'.out]); with_reducible refine (up_any ao cap zs X _ (by omega) (by omega) (RU hr2 (by (repeat (first | exact HB | exact Below.refl _ _ | with_reducible refine bel ?_ | with_reducible refine Below.drew ?_ | with_reducible refine bt3 ?_ | with_reducible refine bt2 hb1 ?_ | with_reducible refine bt2 hb2 ?_)))) hW).mono ?_; rintro e w1 ⟨⟨v1, rfl, hv1⟩, hb1⟩; obtain ⟨ao1, cap1, zs1, rfl, hc1, hn1, hval1, hN1, hW1, hr1⟩ := hv1.dest)
    | (go_at_call 71; with_reducible refine (low_any ao1 cap1 zs1 _ (by have := small_len hN1 (hval1.trans HM.out) hMl; omega) (RU hr1 (by (repeat (first | exact HB | exact Below.refl _ _ | with_reducible refine bel ?_ | with_reducible refine Below.drew ?_ | with_reducible refine bt3 ?_ | with_reducible refine bt2 hb1 ?_ | with_reducible refine bt2 hb2 ?_)))) hW1).mono ?_; rintro e wq ⟨rfl, hq⟩; rw [hval1, HM.out, Nat.mod_eq_of_lt hMl]; subst wq)
    | (go_at_call 88; with_reducible refine (held_any m M K _).mono ?_; rintro e w2 ⟨rfl, hb2⟩; rw [HD.out]; obtain ⟨r0, r1, r2, r3, q0, q1, q2, q3⟩ := kA (w := w) (W := w2) (by (repeat (first | exact HB | exact Below.refl _ _ | with_reducible refine bel ?_ | with_reducible refine Below.drew ?_ | with_reducible refine bt3 ?_ | with_reducible refine bt2 hb1 ?_ | with_reducible refine bt2 hb2 ?_)))))
  go_wp2
  refine bodyPost_ret (v := .agg #[.int .u8 (vS K), .bool m, .int .u64 (vM M K), .int .i64 (vP K)]) (by simp [results, Tryz.f68, go_sem, r0, r1, r2, r3]) rfl ?_
  exact ⟨by rw [HD.out], kB (by (repeat (first | exact HB | exact Below.refl _ _ | with_reducible refine bel ?_ | with_reducible refine Below.drew ?_ | with_reducible refine bt3 ?_ | with_reducible refine bt2 hb1 ?_ | with_reducible refine bt2 hb2 ?_)))⟩
set_option maxRecDepth 100000 in
set_option maxHeartbeats 4000000 in
theorem rM2 (m : Bool) (v0 : Value) (x0 NN : Nat) (P0 P : Int) (nb : Nat) (w : World) (hv0 : NatV w v0 x0) (hx0 : x0 < 2 ^ (32 * 6)) (hNN : x0 * 2 + 1 = NN) (hP1 : P0 - 1 = P) (hnb : nbits (NN) = nb) (hnl : nb ≤ 4000) (hP : -5000 ≤ P) (hP2 : P ≤ 5000) (hA : P + nb - 24 < -149) (hkP : P < -149) (hD : (nb : Int) + 1 < -149 - P) :
    Calls Tryz.prog 68 #[.agg #[.int .i64 24, .int .i64 (-149), .int .i64 104], .bool m, v0, .int .i64 P0, .bool true] w fun e w' => e = .returned (hdV m 0 (-149)) ∧ Below w.heap.size w w' := by
  have HD : Hid (hdV m 0 (-149) = .agg #[.int .u8 3, .bool m, .int .u64 0, .int .i64 (-149)]) := by rw [Hid, hdV, if_neg (by omega)]; rfl
  have HB : Below ((w.alloc ob).alloc oz).heap.size ((w.alloc ob).alloc oz) ((w.alloc ob).alloc oz) := Below.refl _ _
  have HV0 : Hid (NatV ((w.alloc ob).alloc oz) v0 x0) := hv0.on (bel (bel (Below.refl _ _)))
  have HX0 : Hid (x0 < 2 ^ (32 * 6)) := hx0
  have HX1 : Hid (x0 * 2 < 2 ^ (32 * (6 + 1))) := dbl_lt (k := 6) hx0
  have HNN : Hid (x0 * 2 + 1 = NN) := hNN
  have HNZ : Hid (NN ≠ 0) := by rw [Hid]; omega
  have HNL : Hid (NN < 2 ^ (32 * (6 + 1))) := nn_lt (k := 6) hNN hx0
  clear hx0 hv0 hNN
  go_enter Tryz.func68, Tryz.ntmps68
  go_wp2_with (first
    | (go_at_call 85; with_reducible refine (up_1 v0 x0 6 _ (HV0.out.on (by (repeat (first | exact Below.refl _ _ | with_reducible refine bel ?_ | with_reducible refine Below.drew ?_ | with_reducible refine bt3 ?_)))) HX0.out (by omega)).mono ?_; rintro e wa ⟨⟨va, rfl, hva⟩, hba⟩; replace HB : Below ((w.alloc ob).alloc oz).heap.size ((w.alloc ob).alloc oz) wa := bt2 hba (by (repeat (first | exact HB | exact Below.refl _ _ | with_reducible refine bel ?_ | with_reducible refine Below.drew ?_ | with_reducible refine bt3 ?_))))
    | (go_at_call 70; with_reducible refine (nat_1 _).mono ?_; rintro e wb ⟨⟨vb, rfl, hvb⟩, hbb⟩; replace HB : Below ((w.alloc ob).alloc oz).heap.size ((w.alloc ob).alloc oz) wb := bt2 hbb (by (repeat (first | exact HB | exact Below.refl _ _ | with_reducible refine bel ?_ | with_reducible refine Below.drew ?_ | with_reducible refine bt3 ?_))); replace hva := hva.step (by (repeat (first | exact Below.refl _ _ | with_reducible refine bel ?_ | with_reducible refine Below.drew ?_ | with_reducible refine bt3 ?_))) hbb)
    | (go_at_call 84; with_reducible refine (plus_nv va vb _ _ (6 + 1) _ (hva.on (by (repeat (first | exact Below.refl _ _ | with_reducible refine bel ?_ | with_reducible refine Below.drew ?_ | with_reducible refine bt3 ?_)))) (hvb.on (by (repeat (first | exact Below.refl _ _ | with_reducible refine bel ?_ | with_reducible refine Below.drew ?_ | with_reducible refine bt3 ?_)))) HX1.out (one_lt (6 + 1) (by decide)) (by omega)).mono ?_; rintro e wn ⟨⟨vn, rfl, hvn⟩, hbn⟩; replace HB : Below ((w.alloc ob).alloc oz).heap.size ((w.alloc ob).alloc oz) wn := bt2 hbn (by (repeat (first | exact HB | exact Below.refl _ _ | with_reducible refine bel ?_ | with_reducible refine Below.drew ?_ | with_reducible refine bt3 ?_))); obtain ⟨ao, cap, zs, rfl, hc0, hn0, hval0, hN, hW, hr2⟩ := hvn.dest; rw [HNN.out] at hval0; subst hval0; have hz' := lenz hN HNZ.out; obtain ⟨f0, f1, f2⟩ := kF HB; clear hva hvb hvn hba hbb hbn))
  have hl : zs.length ≤ 100 := by have := len_pow hN rfl (6 + 1) HNL.out; omega
  have sz := fun W hrW => size_any ao cap zs W (by omega) hrW hW hN
  rw [hnb] at sz
  have HN : Below wn.heap.size wn wn := Below.refl _ _
  go_quiet (((go_at_call 87); exact Calls.quiet_of_same (sz _ hr2)))
  go_wp2_with (first
    | (go_at_call 87; with_reducible refine (sz _ (RU hr2 (by (repeat (first | exact Below.refl _ _ | with_reducible refine bel ?_ | with_reducible refine Below.drew ?_ | with_reducible refine bt3 ?_))))).mono ?_; rintro e wq ⟨rfl, hq⟩; subst wq)
    | (go_at_call 86; with_reducible refine (nought_any m _).mono ?_; rintro e w2 ⟨rfl, hb2⟩; replace HB : Below ((w.alloc ob).alloc oz).heap.size ((w.alloc ob).alloc oz) w2 := bt2 hb2 (by (repeat (first | exact HB | exact Below.refl _ _ | with_reducible refine bel ?_ | with_reducible refine Below.drew ?_ | with_reducible refine bt3 ?_))); obtain ⟨r0, r1, r2, r3, q0, q1, q2, q3⟩ := kA HB))
  refine bodyPost_ret (v := .agg #[.int .u8 3, .bool m, .int .u64 0, .int .i64 (-149)]) (by simp [results, Tryz.f68, go_sem, r0, r1, r2, r3]) rfl ?_
  exact ⟨by rw [HD.out], kB HB⟩
end Go.Proofs.YtjggbdlmghembaaGreat
