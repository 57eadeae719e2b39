import Derived.Test.YtjggbdlmghembaaGreatCSFin
namespace Go.Proofs.YtjggbdlmghembaaGreat
open Go.RowKit
set_option maxRecDepth 100000

def vS (p : Int) : Int := if 104 < p then 2 else 3
def vM (n : Nat) (p : Int) : Int := if 104 < p then 0 else n
def vP (p : Int) : Int := if 104 < p then 0 else p
theorem hdV_agg (m : Bool) (n : Nat) (p : Int) : hdV m n p = .agg #[.int .u8 (vS p), .bool m, .int .u64 (vM n p), .int .i64 (vP p)] := by
  unfold hdV vS vM vP; split <;> rfl
theorem RU {a W : World} {ao : Option Addr} {zs : List Nat} (h : ReadsU a ao zs a.heap.size) (hb : Below a.heap.size a W) : ReadsU W ao zs W.heap.size := (h.below hb).mono hb.size
theorem ag_lt {x y : Nat} (h : x < y) : ag x y = -1 := by unfold ag; rw [if_pos h]
theorem ag_eq (x : Nat) : ag x x = 0 := by unfold ag; rw [if_neg (Nat.lt_irrefl _), if_pos rfl]
theorem ag_gt {x y : Nat} (h : y < x) : ag x y = 1 := by unfold ag; rw [if_neg (by omega), if_neg (by omega)]
set_option maxRecDepth 100000 in
set_option maxHeartbeats 4000000 in
theorem rnd0 (m : Bool) (ao : Option Addr) (cap : Nat) (zs : List Nat) (P : Int) (w : World) (hz : zs.length = 0) :
    Calls Tryz.prog 68 #[.agg #[.int .i64 24, .int .i64 (-149), .int .i64 104], .bool m, .slice ao zs.length cap, .int .i64 P, .bool false] w fun e w' => e = .returned (hdV m 0 (-149)) ∧ Below w.heap.size w w' := by
  have hz' : (zs.length : Int) = 0 := by omega
  have HD : Hid (hdV m 0 (-149) = .agg #[.int .u8 3, .bool m, .int .u64 0, .int .i64 (-149)]) := by rw [Hid, hdV, if_neg (by omega)]; rfl
  go_enter Tryz.func68, Tryz.ntmps68
  go_wp2_with (go_at_call 86; with_reducible refine (nought_any m _).mono ?_; rintro e w2 ⟨rfl, hb2⟩; have HB : Below ((w.alloc ob).alloc oz).heap.size ((w.alloc ob).alloc oz) w2 := bt2 hb2 (by (repeat (first | exact Below.refl _ _ | with_reducible refine bel ?_ | with_reducible refine Below.drew ?_ | with_reducible refine bt3 ?_))); obtain ⟨r0, r1, r2, r3, q0, q1, q2, q3⟩ := kA HB)
  refine bodyPost_ret (v := .agg #[.int .u8 3, .bool m, .int .u64 0, .int .i64 (-149)]) (by simp [results, Tryz.f68, go_sem, r0, r1, r2, r3]) rfl ?_
  exact ⟨by rw [HD.out], kB HB⟩
set_option maxRecDepth 100000 in
set_option maxHeartbeats 4000000 in
theorem rnd2 (m : Bool) (ao : Option Addr) (cap : Nat) (zs : List Nat) (P : Int) (nb : Nat) (w : World) (hl : zs.length ≤ 100) (hr : ReadsU w ao zs w.heap.size) (hW : Words zs) (hN : Norm zs) (hz : zs.length ≠ 0) (hnb : nbits (nv zs) = nb) (hnl : nb ≤ 4000) (hP : -5000 ≤ P) (hP2 : P ≤ 5000) (hA : P + nb - 24 < -149) (hkP : P < -149) (hD : (nb : Int) + 1 < -149 - P) :
    Calls Tryz.prog 68 #[.agg #[.int .i64 24, .int .i64 (-149), .int .i64 104], .bool m, .slice ao zs.length cap, .int .i64 P, .bool false] w fun e w' => e = .returned (hdV m 0 (-149)) ∧ Below w.heap.size w w' := by
  have hz' : ((zs.length : Int) == 0) = false := by rw [beq_eq_false_iff_ne]; omega
  have sz := fun W hrW => size_any ao cap zs W (by omega) hrW hW hN
  rw [hnb] at sz
  have HD : Hid (hdV m 0 (-149) = .agg #[.int .u8 3, .bool m, .int .u64 0, .int .i64 (-149)]) := by rw [Hid, hdV, if_neg (by omega)]; rfl
  have hr2 : ReadsU ((w.alloc ob).alloc oz) ao zs ((w.alloc ob).alloc oz).heap.size := RU hr (bel (bel (Below.refl _ _)))
  go_enter Tryz.func68, Tryz.ntmps68
  go_wp2
  go_quiet (((go_at_call 87); exact Calls.quiet_of_same (sz _ hr2)))
  go_wp2_with (first
    | (go_at_call 87; with_reducible refine (sz _ (RU hr2 (by (repeat (first | exact Below.refl _ _ | with_reducible refine bel ?_ | with_reducible refine Below.drew ?_ | with_reducible refine bt3 ?_))))).mono ?_; rintro e wq ⟨rfl, hq⟩; subst wq)
    | (go_at_call 86; with_reducible refine (nought_any m _).mono ?_; rintro e w2 ⟨rfl, hb2⟩; have HB : Below ((w.alloc ob).alloc oz).heap.size ((w.alloc ob).alloc oz) w2 := bt2 hb2 (by (repeat (first | exact Below.refl _ _ | with_reducible refine bel ?_ | with_reducible refine Below.drew ?_ | with_reducible refine bt3 ?_))); obtain ⟨r0, r1, r2, r3, q0, q1, q2, q3⟩ := kA HB))
  refine bodyPost_ret (v := .agg #[.int .u8 3, .bool m, .int .u64 0, .int .i64 (-149)]) (by simp [results, Tryz.f68, go_sem, r0, r1, r2, r3]) rfl ?_
  exact ⟨by rw [HD.out], kB HB⟩
set_option maxRecDepth 100000 in
set_option maxHeartbeats 4000000 in
theorem rnd1b (m : Bool) (ao : Option Addr) (cap : Nat) (zs : List Nat) (P : Int) (nb X M : Nat) (K : Int) (w : World) (hl : zs.length ≤ 100) (hr : ReadsU w ao zs w.heap.size) (hW : Words zs) (hN : Norm zs) (hz : zs.length ≠ 0) (hnb : nbits (nv zs) = nb) (hnl : nb ≤ 4000) (hP : -5000 ≤ P) (hP2 : P ≤ 5000) (hA : ¬ P + nb - 24 < -149) (hK : P + nb - 24 = K) (hKP : K ≤ P) (hX : P - K = X) (hM : nv zs * 2 ^ X = M) (hMl : M < 18446744073709551616) :
    Calls Tryz.prog 68 #[.agg #[.int .i64 24, .int .i64 (-149), .int .i64 104], .bool m, .slice ao zs.length cap, .int .i64 P, .bool false] w fun e w' => e = .returned (hdV m M K) ∧ Below w.heap.size w w' := by
  have hz' : ((zs.length : Int) == 0) = false := by rw [beq_eq_false_iff_ne]; omega
  have sz := fun W hrW => size_any ao cap zs W (by omega) hrW hW hN
  rw [hnb] at sz
  have HM : Hid (nv zs * 2 ^ X = M) := hM
  have hX5 : X ≤ 10000 := by omega
  have hA' : (-149 : Int) ≤ K := by omega
  have HXw : Hid (IntKind.i64.wrap (P - K) = X) := by rw [Hid, IntKind.wrap_i64]; omega
  have HXw' : Hid (IntKind.i64.wrap (X : Int) = X) := by rw [Hid, IntKind.wrap_i64]; omega
  have HD : Hid (hdV m M K = .agg #[.int .u8 (vS K), .bool m, .int .u64 (vM M K), .int .i64 (vP K)]) := hdV_agg m M K
  have hr2 : ReadsU ((w.alloc ob).alloc oz) ao zs ((w.alloc ob).alloc oz).heap.size := RU hr (bel (bel (Below.refl _ _)))
  clear hM
  go_enter Tryz.func68, Tryz.ntmps68
  go_wp2
  go_quiet (((go_at_call 87); exact Calls.quiet_of_same (sz _ hr2)))
  go_wp2
  go_region_held3 (fun w' => w'.cell? ⟨w.heap.size, 0, none⟩ = some (.int .i64 24) ∧ w'.cell? ⟨w.heap.size, 1, none⟩ = some (.int .i64 (-149)) ∧ w'.cell? ⟨w.heap.size, 2, none⟩ = some (.int .i64 104)) ((first | ((try dsimp only); with_reducible refine kS ?_; (repeat (first | exact Below.refl _ _ | with_reducible refine bel ?_ | with_reducible refine Below.drew ?_ | with_reducible refine bt3 ?_ | with_reducible refine bt2 hb1 ?_ | with_reducible refine bt2 hb2 ?_)); done) | (refine kF ?_; (repeat (first | exact Below.refl _ _ | with_reducible refine bel ?_ | with_reducible refine Below.drew ?_ | with_reducible refine bt3 ?_ | with_reducible refine bt2 hb1 ?_ | with_reducible refine bt2 hb2 ?_)); done))) (first
    | (go_at_call 85; (first | rw [HXw.out] | rw [HXw'.out]); with_reducible refine (up_any ao cap zs X _ (by omega) (by omega) (RU hr2 (by (repeat (first | exact Below.refl _ _ | with_reducible refine bel ?_ | with_reducible refine Below.drew ?_ | with_reducible refine bt3 ?_ | with_reducible refine bt2 hb1 ?_ | with_reducible refine bt2 hb2 ?_)))) hW).mono ?_; rintro e w1 ⟨⟨v1, rfl, hv1⟩, hb1⟩; obtain ⟨ao1, cap1, zs1, rfl, hc1, hn1, hval1, hN1, hW1, hr1⟩ := hv1.dest)
    | (go_at_call 71; with_reducible refine (low_any ao1 cap1 zs1 _ (by have := small_len hN1 (hval1.trans HM.out) hMl; omega) (RU hr1 (by (repeat (first | exact Below.refl _ _ | with_reducible refine bel ?_ | with_reducible refine Below.drew ?_ | with_reducible refine bt3 ?_ | with_reducible refine bt2 hb1 ?_ | with_reducible refine bt2 hb2 ?_)))) hW1).mono ?_; rintro e wq ⟨rfl, hq⟩; rw [hval1, HM.out, Nat.mod_eq_of_lt hMl]; subst wq)
    | (go_at_call 88; with_reducible refine (held_any m M K _).mono ?_; rintro e w2 ⟨rfl, hb2⟩; rw [HD.out]; obtain ⟨r0, r1, r2, r3, q0, q1, q2, q3⟩ := kA (w := w) (W := w2) (by (repeat (first | exact Below.refl _ _ | with_reducible refine bel ?_ | with_reducible refine Below.drew ?_ | with_reducible refine bt3 ?_ | with_reducible refine bt2 hb1 ?_ | with_reducible refine bt2 hb2 ?_)))))
  go_wp2
  refine bodyPost_ret (v := .agg #[.int .u8 (vS K), .bool m, .int .u64 (vM M K), .int .i64 (vP K)]) (by simp [results, Tryz.f68, go_sem, r0, r1, r2, r3]) rfl ?_
  exact ⟨by rw [HD.out], kB (by (repeat (first | exact Below.refl _ _ | with_reducible refine bel ?_ | with_reducible refine Below.drew ?_ | with_reducible refine bt3 ?_ | with_reducible refine bt2 hb1 ?_ | with_reducible refine bt2 hb2 ?_)))⟩
end Go.Proofs.YtjggbdlmghembaaGreat
namespace Go.Proofs.YtjggbdlmghembaaGreat
open Go.RowKit
set_option maxRecDepth 100000

theorem len5 {zs5 zs : List Nat} (hN : Norm zs5) {R q2 : Nat} (h : nv zs5 = R) (hR : nv zs - q2 = R) (_ : q2 ≤ nv zs) (hW : Words zs) (hl : zs.length ≤ 100) : zs5.length ≤ 1000000 := by
  have := norm_len hN zs.length (by have := nv_lt hW; omega)
  omega
theorem held_lit (m : Bool) (p : Int) (w : World) : Calls Tryz.prog 88 #[.agg #[.int .i64 24, .int .i64 (-149), .int .i64 104], .bool m, .int .u64 8388608, .int .i64 p] w fun e w' => e = .returned (hdV m 8388608 p) ∧ Below w.heap.size w w' := held_any m 8388608 p w
theorem nat_1 (w : World) : Calls Tryz.prog 70 #[.int .u64 1] w fun e w' => (∃ v, e = .returned v ∧ NatV w' v 1) ∧ Below w.heap.size w w' := nat_any 1 w (by decide)
theorem len7 {zs7 : List Nat} (hN : Norm zs7) {half D : Nat} (h : nv zs7 = half) (hh : 2 ^ (D - 1) = half) (hD : D ≤ 4001) : zs7.length ≤ 1000000 := by
  have h1 : ∀ k, D - 1 < 32 * k → zs7.length ≤ k := fun k hk => norm_len hN k (by
    rw [h, ← hh, show (4294967296 : Nat) = 2 ^ 32 from rfl, ← Nat.pow_mul]
    exact Nat.pow_lt_pow_right (by decide) hk)
  have := h1 200 (by omega)
  omega
end Go.Proofs.YtjggbdlmghembaaGreat
namespace Go.Proofs.YtjggbdlmghembaaGreat
open Go.RowKit
set_option maxRecDepth 100000

set_option maxRecDepth 100000 in
set_option maxHeartbeats 4000000 in
theorem rnd3Ll (m : Bool) (ao : Option Addr) (cap : Nat) (zs : List Nat) (P : Int) (nb D q R half : Nat) (K : Int) (w : World) (hl : zs.length ≤ 100) (hr : ReadsU w ao zs w.heap.size) (hW : Words zs) (hN : Norm zs) (hz : zs.length ≠ 0) (hnb : nbits (nv zs) = nb) (hnl : nb ≤ 4000) (hP : -5000 ≤ P) (hP2 : P ≤ 5000) (hA : P + nb - 24 < -149) (hK : -149 = K) (hKP : P < K) (hX : K - P = D) (hD : D ≤ nb + 1) (hq : nv zs / 2 ^ D = q) (hql : q < 16777216) (hR : nv zs - q * 2 ^ D = R) (hh : 2 ^ (D - 1) = half) (hs : R < half)  :
    Calls Tryz.prog 68 #[.agg #[.int .i64 24, .int .i64 (-149), .int .i64 104], .bool m, .slice ao zs.length cap, .int .i64 P, .bool false] w fun e w' => e = .returned (hdV m q K) ∧ Below w.heap.size w w' := by
  have hz' : ((zs.length : Int) == 0) = false := by rw [beq_eq_false_iff_ne]; omega
  have sz := fun W hrW => size_any ao cap zs W (by omega) hrW hW hN
  rw [hnb] at sz
  have hql64 : q < 18446744073709551616 := by have := hql; omega
  have hD1 : 1 ≤ D := by omega
  have hDl : D ≤ 4001 := by omega
  have hqD : q * 2 ^ D ≤ nv zs := by rw [← hq]; exact Nat.div_mul_le_self _ _
  have hDI : (D : Int) ≤ (nb : Int) + 1 := by have := hD; omega
  have HQ : Hid (nv zs / 2 ^ D = q) := hq
  have HR : Hid (nv zs - q * 2 ^ D = R) := hR
  have HH : Hid (2 ^ (D - 1) = half) := hh
  have HQD : Hid (q * 2 ^ D ≤ nv zs) := hqD
  have HDw : Hid (IntKind.i64.wrap (D : Int) = D) := by rw [Hid, IntKind.wrap_i64]; omega
  have HAG : Hid (ag R half = -1) := by rw [Hid]; exact ag_lt hs
  have hD1' : (D : Int) - 1 = ((D - 1 : Nat) : Int) := by omega
  subst hK
  have hX' : -149 - P = (D : Int) := hX
  have ho' : ((q : Int) == 16777216) = false := by rw [beq_eq_false_iff_ne]; omega
  have HD : Hid (hdV m q (-149) = .agg #[.int .u8 (vS (-149)), .bool m, .int .u64 (vM q (-149)), .int .i64 (vP (-149))]) := hdV_agg m q (-149)
  have hr2 : ReadsU ((w.alloc ob).alloc oz) ao zs ((w.alloc ob).alloc oz).heap.size := RU hr (bel (bel (Below.refl _ _)))
  clear hq hR hh hqD hr
  go_enter Tryz.func68, Tryz.ntmps68
  go_wp2
  go_quiet (((go_at_call 87); exact Calls.quiet_of_same (sz _ hr2)))
  have HB : Below ((w.alloc ob).alloc oz).heap.size ((w.alloc ob).alloc oz) ((w.alloc ob).alloc oz) := Below.refl _ _
  have HB5 : True := trivial
  go_wp2_with (first
    | (go_at_call 87; with_reducible refine (sz _ (RU hr2 (by (repeat (first | exact HB | exact Below.refl _ _ | with_reducible refine bel ?_ | with_reducible refine Below.drew ?_ | with_reducible refine bt3 ?_))))).mono ?_; rintro e wq ⟨rfl, hq⟩; subst wq)
    | (go_at_call 72; with_reducible refine (down_any ao cap zs D _ (by omega) (by omega) (RU hr2 (by (repeat (first | exact HB | exact Below.refl _ _ | with_reducible refine bel ?_ | with_reducible refine Below.drew ?_ | with_reducible refine bt3 ?_)))) hW).mono ?_; rintro e w1 ⟨⟨v1, rfl, hv1⟩, hb1⟩; obtain ⟨ao1, cap1, zs1, rfl, hc1, hn1, hval1, hN1, hW1, hr1⟩ := hv1.dest; replace HB : Below ((w.alloc ob).alloc oz).heap.size ((w.alloc ob).alloc oz) w1 := bt2 hb1 (by (repeat (first | exact HB | exact Below.refl _ _ | with_reducible refine bel ?_ | with_reducible refine Below.drew ?_ | with_reducible refine bt3 ?_))); clear hb1 hv1; rw [HQ.out] at hval1)
    | (go_at_call 71; with_reducible refine (low_any ao1 cap1 zs1 _ (by have := small_len hN1 hval1 hql64; omega) (RU hr1 (by (repeat (first | exact Below.refl _ _ | with_reducible refine bel ?_ | with_reducible refine Below.drew ?_ | with_reducible refine bt3 ?_)))) hW1).mono ?_; rintro e wq ⟨rfl, hq⟩; rw [hval1, Nat.mod_eq_of_lt hql64]; subst wq; clear hval1 hN1 hW1 hr1 hc1 hn1)
    | (go_at_call 85; with_reducible refine (up_any ao1 cap1 zs1 D _ (by have := small_len hN1 hval1 hql64; omega) (by omega) (RU hr1 (by (repeat (first | exact Below.refl _ _ | with_reducible refine bel ?_ | with_reducible refine Below.drew ?_ | with_reducible refine bt3 ?_)))) hW1).mono ?_; rintro e w4 ⟨⟨v4, rfl, hv4⟩, hb4⟩; obtain ⟨ao4, cap4, zs4, rfl, hc4, hn4, hval4, hN4, hW4, hr4⟩ := hv4.dest; replace HB : Below ((w.alloc ob).alloc oz).heap.size ((w.alloc ob).alloc oz) w4 := bt2 hb4 (by (repeat (first | exact HB | exact Below.refl _ _ | with_reducible refine bel ?_ | with_reducible refine Below.drew ?_ | with_reducible refine bt3 ?_))); clear hb4 hv4; rw [hval1] at hval4)
    | (go_at_call 89; with_reducible refine (less_any ao ao4 cap cap4 zs zs4 _ (by omega) (norm_len hN4 _ (Nat.lt_of_le_of_lt (Nat.le_trans (Nat.le_of_eq hval4) HQD.out) (nv_lt hW))) (Nat.le_trans (Nat.le_of_eq hval4) HQD.out) (RU hr2 (by (repeat (first | exact HB | exact Below.refl _ _ | with_reducible refine bel ?_ | with_reducible refine Below.drew ?_ | with_reducible refine bt3 ?_)))) (RU hr4 (by (repeat (first | exact Below.refl _ _ | with_reducible refine bel ?_ | with_reducible refine Below.drew ?_ | with_reducible refine bt3 ?_)))) hW hW4).mono ?_; rintro e w5 ⟨⟨v5, rfl, hv5⟩, hb5⟩; obtain ⟨ao5, cap5, zs5, rfl, hc5, hn5, hval5, hN5, hW5, hr5⟩ := hv5.dest; replace HB : Below ((w.alloc ob).alloc oz).heap.size ((w.alloc ob).alloc oz) w5 := bt2 hb5 (by (repeat (first | exact HB | exact Below.refl _ _ | with_reducible refine bel ?_ | with_reducible refine Below.drew ?_ | with_reducible refine bt3 ?_))); clear hb5 hv5; rw [hval4, HR.out] at hval5; replace HB5 : Below w5.heap.size w5 w5 := Below.refl _ _)
    | (go_at_call 70; with_reducible refine (nat_1 _).mono ?_; rintro e w6 ⟨⟨v6, rfl, hv6⟩, hb6⟩; obtain ⟨ao6, cap6, zs6, rfl, hc6, hn6, hval6, hN6, hW6, hr6⟩ := hv6.dest; replace HB : Below ((w.alloc ob).alloc oz).heap.size ((w.alloc ob).alloc oz) w6 := bt2 hb6 (by (repeat (first | exact HB | exact Below.refl _ _ | with_reducible refine bel ?_ | with_reducible refine Below.drew ?_ | with_reducible refine bt3 ?_))); replace HB5 : Below w5.heap.size w5 w6 := bt2 hb6 (by (repeat (first | exact HB5 | exact Below.refl _ _ | with_reducible refine bel ?_ | with_reducible refine Below.drew ?_ | with_reducible refine bt3 ?_))); clear hb6 hv6)
    | (go_at_call 85; with_reducible refine (up_any ao6 cap6 zs6 (D - 1) _ (by have := small_len hN6 hval6 (by omega); omega) (by omega) (RU hr6 (by (repeat (first | exact Below.refl _ _ | with_reducible refine bel ?_ | with_reducible refine Below.drew ?_ | with_reducible refine bt3 ?_)))) hW6).mono ?_; rintro e w7 ⟨⟨v7, rfl, hv7⟩, hb7⟩; obtain ⟨ao7, cap7, zs7, rfl, hc7, hn7, hval7, hN7, hW7, hr7⟩ := hv7.dest; replace HB : Below ((w.alloc ob).alloc oz).heap.size ((w.alloc ob).alloc oz) w7 := bt2 hb7 (by (repeat (first | exact HB | exact Below.refl _ _ | with_reducible refine bel ?_ | with_reducible refine Below.drew ?_ | with_reducible refine bt3 ?_))); replace HB5 : Below w5.heap.size w5 w7 := bt2 hb7 (by (repeat (first | exact HB5 | exact Below.refl _ _ | with_reducible refine bel ?_ | with_reducible refine Below.drew ?_ | with_reducible refine bt3 ?_))); clear hb7 hv7; rw [hval6, Nat.one_mul, HH.out] at hval7)
    | (go_at_call 90; with_reducible refine (against_any ao5 ao7 cap5 cap7 zs5 zs7 _ (len5 hN5 hval5 HR.out HQD.out hW hl) (len7 hN7 hval7 HH.out hDl) (RU hr5 (by (repeat (first | exact HB5 | exact Below.refl _ _ | with_reducible refine bel ?_ | with_reducible refine Below.drew ?_ | with_reducible refine bt3 ?_)))) (RU hr7 (by (repeat (first | exact Below.refl _ _ | with_reducible refine bel ?_ | with_reducible refine Below.drew ?_ | with_reducible refine bt3 ?_)))) hW5 hW7 hN5 hN7).mono ?_; rintro e wq ⟨rfl, kq, hq⟩; subst wq; rw [hval5, hval7, HAG.out]; obtain ⟨f0, f1, f2⟩ := kF HB)
    | (go_at_call 88; with_reducible refine (held_any m q (-149) _).mono ?_; rintro e w9 ⟨rfl, hb9⟩; rw [HD.out]; replace HB : Below ((w.alloc ob).alloc oz).heap.size ((w.alloc ob).alloc oz) w9 := bt2 hb9 (by (repeat (first | exact HB | exact Below.refl _ _ | with_reducible refine bel ?_ | with_reducible refine Below.drew ?_ | with_reducible refine bt3 ?_))); obtain ⟨r0, r1, r2, r3, q0, q1, q2, q3⟩ := kA HB))
  refine bodyPost_ret (v := .agg #[.int .u8 (vS (-149)), .bool m, .int .u64 (vM q (-149)), .int .i64 (vP (-149))]) (by simp [results, Tryz.f68, go_sem, r0, r1, r2, r3]) rfl ?_
  exact ⟨by rw [HD.out], kB HB⟩
set_option maxRecDepth 100000 in
set_option maxHeartbeats 4000000 in
theorem rnd3Le (m : Bool) (ao : Option Addr) (cap : Nat) (zs : List Nat) (P : Int) (nb D q R half : Nat) (K : Int) (w : World) (hl : zs.length ≤ 100) (hr : ReadsU w ao zs w.heap.size) (hW : Words zs) (hN : Norm zs) (hz : zs.length ≠ 0) (hnb : nbits (nv zs) = nb) (hnl : nb ≤ 4000) (hP : -5000 ≤ P) (hP2 : P ≤ 5000) (hA : P + nb - 24 < -149) (hK : -149 = K) (hKP : P < K) (hX : K - P = D) (hD : D ≤ nb + 1) (hq : nv zs / 2 ^ D = q) (hql : q < 16777216) (hR : nv zs - q * 2 ^ D = R) (hh : 2 ^ (D - 1) = half) (hs : R = half) (hq2 : q % 2 = 0)  :
    Calls Tryz.prog 68 #[.agg #[.int .i64 24, .int .i64 (-149), .int .i64 104], .bool m, .slice ao zs.length cap, .int .i64 P, .bool false] w fun e w' => e = .returned (hdV m q K) ∧ Below w.heap.size w w' := by
  have hz' : ((zs.length : Int) == 0) = false := by rw [beq_eq_false_iff_ne]; omega
  have sz := fun W hrW => size_any ao cap zs W (by omega) hrW hW hN
  rw [hnb] at sz
  have hql64 : q < 18446744073709551616 := by have := hql; omega
  have hD1 : 1 ≤ D := by omega
  have hDl : D ≤ 4001 := by omega
  have hqD : q * 2 ^ D ≤ nv zs := by rw [← hq]; exact Nat.div_mul_le_self _ _
  have hDI : (D : Int) ≤ (nb : Int) + 1 := by have := hD; omega
  have HQ : Hid (nv zs / 2 ^ D = q) := hq
  have HR : Hid (nv zs - q * 2 ^ D = R) := hR
  have HH : Hid (2 ^ (D - 1) = half) := hh
  have HQD : Hid (q * 2 ^ D ≤ nv zs) := hqD
  have HDw : Hid (IntKind.i64.wrap (D : Int) = D) := by rw [Hid, IntKind.wrap_i64]; omega
  have HAG : Hid (ag R half = 0) := by rw [Hid]; rw [hs]; exact ag_eq _
  have hD1' : (D : Int) - 1 = ((D - 1 : Nat) : Int) := by omega
  subst hK
  have hX' : -149 - P = (D : Int) := hX
  have hq3 : ((q : Int) % 2 == 1) = false := by rw [beq_eq_false_iff_ne]; omega
  have ho' : ((q : Int) == 16777216) = false := by rw [beq_eq_false_iff_ne]; omega
  have HD : Hid (hdV m q (-149) = .agg #[.int .u8 (vS (-149)), .bool m, .int .u64 (vM q (-149)), .int .i64 (vP (-149))]) := hdV_agg m q (-149)
  have hr2 : ReadsU ((w.alloc ob).alloc oz) ao zs ((w.alloc ob).alloc oz).heap.size := RU hr (bel (bel (Below.refl _ _)))
  clear hq hR hh hqD hr
  go_enter Tryz.func68, Tryz.ntmps68
  go_wp2
  go_quiet (((go_at_call 87); exact Calls.quiet_of_same (sz _ hr2)))
  have HB : Below ((w.alloc ob).alloc oz).heap.size ((w.alloc ob).alloc oz) ((w.alloc ob).alloc oz) := Below.refl _ _
  have HB5 : True := trivial
  go_wp2_with (first
    | (go_at_call 87; with_reducible refine (sz _ (RU hr2 (by (repeat (first | exact HB | exact Below.refl _ _ | with_reducible refine bel ?_ | with_reducible refine Below.drew ?_ | with_reducible refine bt3 ?_))))).mono ?_; rintro e wq ⟨rfl, hq⟩; subst wq)
    | (go_at_call 72; with_reducible refine (down_any ao cap zs D _ (by omega) (by omega) (RU hr2 (by (repeat (first | exact HB | exact Below.refl _ _ | with_reducible refine bel ?_ | with_reducible refine Below.drew ?_ | with_reducible refine bt3 ?_)))) hW).mono ?_; rintro e w1 ⟨⟨v1, rfl, hv1⟩, hb1⟩; obtain ⟨ao1, cap1, zs1, rfl, hc1, hn1, hval1, hN1, hW1, hr1⟩ := hv1.dest; replace HB : Below ((w.alloc ob).alloc oz).heap.size ((w.alloc ob).alloc oz) w1 := bt2 hb1 (by (repeat (first | exact HB | exact Below.refl _ _ | with_reducible refine bel ?_ | with_reducible refine Below.drew ?_ | with_reducible refine bt3 ?_))); clear hb1 hv1; rw [HQ.out] at hval1)
    | (go_at_call 71; with_reducible refine (low_any ao1 cap1 zs1 _ (by have := small_len hN1 hval1 hql64; omega) (RU hr1 (by (repeat (first | exact Below.refl _ _ | with_reducible refine bel ?_ | with_reducible refine Below.drew ?_ | with_reducible refine bt3 ?_)))) hW1).mono ?_; rintro e wq ⟨rfl, hq⟩; rw [hval1, Nat.mod_eq_of_lt hql64]; subst wq; clear hval1 hN1 hW1 hr1 hc1 hn1)
    | (go_at_call 85; with_reducible refine (up_any ao1 cap1 zs1 D _ (by have := small_len hN1 hval1 hql64; omega) (by omega) (RU hr1 (by (repeat (first | exact Below.refl _ _ | with_reducible refine bel ?_ | with_reducible refine Below.drew ?_ | with_reducible refine bt3 ?_)))) hW1).mono ?_; rintro e w4 ⟨⟨v4, rfl, hv4⟩, hb4⟩; obtain ⟨ao4, cap4, zs4, rfl, hc4, hn4, hval4, hN4, hW4, hr4⟩ := hv4.dest; replace HB : Below ((w.alloc ob).alloc oz).heap.size ((w.alloc ob).alloc oz) w4 := bt2 hb4 (by (repeat (first | exact HB | exact Below.refl _ _ | with_reducible refine bel ?_ | with_reducible refine Below.drew ?_ | with_reducible refine bt3 ?_))); clear hb4 hv4; rw [hval1] at hval4)
    | (go_at_call 89; with_reducible refine (less_any ao ao4 cap cap4 zs zs4 _ (by omega) (norm_len hN4 _ (Nat.lt_of_le_of_lt (Nat.le_trans (Nat.le_of_eq hval4) HQD.out) (nv_lt hW))) (Nat.le_trans (Nat.le_of_eq hval4) HQD.out) (RU hr2 (by (repeat (first | exact HB | exact Below.refl _ _ | with_reducible refine bel ?_ | with_reducible refine Below.drew ?_ | with_reducible refine bt3 ?_)))) (RU hr4 (by (repeat (first | exact Below.refl _ _ | with_reducible refine bel ?_ | with_reducible refine Below.drew ?_ | with_reducible refine bt3 ?_)))) hW hW4).mono ?_; rintro e w5 ⟨⟨v5, rfl, hv5⟩, hb5⟩; obtain ⟨ao5, cap5, zs5, rfl, hc5, hn5, hval5, hN5, hW5, hr5⟩ := hv5.dest; replace HB : Below ((w.alloc ob).alloc oz).heap.size ((w.alloc ob).alloc oz) w5 := bt2 hb5 (by (repeat (first | exact HB | exact Below.refl _ _ | with_reducible refine bel ?_ | with_reducible refine Below.drew ?_ | with_reducible refine bt3 ?_))); clear hb5 hv5; rw [hval4, HR.out] at hval5; replace HB5 : Below w5.heap.size w5 w5 := Below.refl _ _)
    | (go_at_call 70; with_reducible refine (nat_1 _).mono ?_; rintro e w6 ⟨⟨v6, rfl, hv6⟩, hb6⟩; obtain ⟨ao6, cap6, zs6, rfl, hc6, hn6, hval6, hN6, hW6, hr6⟩ := hv6.dest; replace HB : Below ((w.alloc ob).alloc oz).heap.size ((w.alloc ob).alloc oz) w6 := bt2 hb6 (by (repeat (first | exact HB | exact Below.refl _ _ | with_reducible refine bel ?_ | with_reducible refine Below.drew ?_ | with_reducible refine bt3 ?_))); replace HB5 : Below w5.heap.size w5 w6 := bt2 hb6 (by (repeat (first | exact HB5 | exact Below.refl _ _ | with_reducible refine bel ?_ | with_reducible refine Below.drew ?_ | with_reducible refine bt3 ?_))); clear hb6 hv6)
    | (go_at_call 85; with_reducible refine (up_any ao6 cap6 zs6 (D - 1) _ (by have := small_len hN6 hval6 (by omega); omega) (by omega) (RU hr6 (by (repeat (first | exact Below.refl _ _ | with_reducible refine bel ?_ | with_reducible refine Below.drew ?_ | with_reducible refine bt3 ?_)))) hW6).mono ?_; rintro e w7 ⟨⟨v7, rfl, hv7⟩, hb7⟩; obtain ⟨ao7, cap7, zs7, rfl, hc7, hn7, hval7, hN7, hW7, hr7⟩ := hv7.dest; replace HB : Below ((w.alloc ob).alloc oz).heap.size ((w.alloc ob).alloc oz) w7 := bt2 hb7 (by (repeat (first | exact HB | exact Below.refl _ _ | with_reducible refine bel ?_ | with_reducible refine Below.drew ?_ | with_reducible refine bt3 ?_))); replace HB5 : Below w5.heap.size w5 w7 := bt2 hb7 (by (repeat (first | exact HB5 | exact Below.refl _ _ | with_reducible refine bel ?_ | with_reducible refine Below.drew ?_ | with_reducible refine bt3 ?_))); clear hb7 hv7; rw [hval6, Nat.one_mul, HH.out] at hval7)
    | (go_at_call 90; with_reducible refine (against_any ao5 ao7 cap5 cap7 zs5 zs7 _ (len5 hN5 hval5 HR.out HQD.out hW hl) (len7 hN7 hval7 HH.out hDl) (RU hr5 (by (repeat (first | exact HB5 | exact Below.refl _ _ | with_reducible refine bel ?_ | with_reducible refine Below.drew ?_ | with_reducible refine bt3 ?_)))) (RU hr7 (by (repeat (first | exact Below.refl _ _ | with_reducible refine bel ?_ | with_reducible refine Below.drew ?_ | with_reducible refine bt3 ?_)))) hW5 hW7 hN5 hN7).mono ?_; rintro e wq ⟨rfl, kq, hq⟩; subst wq; rw [hval5, hval7, HAG.out]; obtain ⟨f0, f1, f2⟩ := kF HB)
    | (go_at_call 88; with_reducible refine (held_any m q (-149) _).mono ?_; rintro e w9 ⟨rfl, hb9⟩; rw [HD.out]; replace HB : Below ((w.alloc ob).alloc oz).heap.size ((w.alloc ob).alloc oz) w9 := bt2 hb9 (by (repeat (first | exact HB | exact Below.refl _ _ | with_reducible refine bel ?_ | with_reducible refine Below.drew ?_ | with_reducible refine bt3 ?_))); obtain ⟨r0, r1, r2, r3, q0, q1, q2, q3⟩ := kA HB))
  refine bodyPost_ret (v := .agg #[.int .u8 (vS (-149)), .bool m, .int .u64 (vM q (-149)), .int .i64 (vP (-149))]) (by simp [results, Tryz.f68, go_sem, r0, r1, r2, r3]) rfl ?_
  exact ⟨by rw [HD.out], kB HB⟩
set_option maxRecDepth 100000 in
set_option maxHeartbeats 4000000 in
theorem rnd3Lg (m : Bool) (ao : Option Addr) (cap : Nat) (zs : List Nat) (P : Int) (nb D q R half : Nat) (K : Int) (w : World) (hl : zs.length ≤ 100) (hr : ReadsU w ao zs w.heap.size) (hW : Words zs) (hN : Norm zs) (hz : zs.length ≠ 0) (hnb : nbits (nv zs) = nb) (hnl : nb ≤ 4000) (hP : -5000 ≤ P) (hP2 : P ≤ 5000) (hA : P + nb - 24 < -149) (hK : -149 = K) (hKP : P < K) (hX : K - P = D) (hD : D ≤ nb + 1) (hq : nv zs / 2 ^ D = q) (hql : q < 16777216) (hR : nv zs - q * 2 ^ D = R) (hh : 2 ^ (D - 1) = half) (hs : half < R) (k1 : Nat) (hk1 : q + 1 = k1) (ho : k1 ≠ 16777216) :
    Calls Tryz.prog 68 #[.agg #[.int .i64 24, .int .i64 (-149), .int .i64 104], .bool m, .slice ao zs.length cap, .int .i64 P, .bool false] w fun e w' => e = .returned (hdV m k1 K) ∧ Below w.heap.size w w' := by
  have hz' : ((zs.length : Int) == 0) = false := by rw [beq_eq_false_iff_ne]; omega
  have sz := fun W hrW => size_any ao cap zs W (by omega) hrW hW hN
  rw [hnb] at sz
  have hql64 : q < 18446744073709551616 := by have := hql; omega
  have hD1 : 1 ≤ D := by omega
  have hDl : D ≤ 4001 := by omega
  have hqD : q * 2 ^ D ≤ nv zs := by rw [← hq]; exact Nat.div_mul_le_self _ _
  have hDI : (D : Int) ≤ (nb : Int) + 1 := by have := hD; omega
  have HQ : Hid (nv zs / 2 ^ D = q) := hq
  have HR : Hid (nv zs - q * 2 ^ D = R) := hR
  have HH : Hid (2 ^ (D - 1) = half) := hh
  have HQD : Hid (q * 2 ^ D ≤ nv zs) := hqD
  have HDw : Hid (IntKind.i64.wrap (D : Int) = D) := by rw [Hid, IntKind.wrap_i64]; omega
  have HAG : Hid (ag R half = 1) := by rw [Hid]; exact ag_gt hs
  have hD1' : (D : Int) - 1 = ((D - 1 : Nat) : Int) := by omega
  subst hK
  have hX' : -149 - P = (D : Int) := hX
  have hk1' : (q : Int) + 1 = (k1 : Int) := by omega
  have ho' : ((k1 : Int) == 16777216) = false := by rw [beq_eq_false_iff_ne]; omega
  have HD : Hid (hdV m k1 (-149) = .agg #[.int .u8 (vS (-149)), .bool m, .int .u64 (vM k1 (-149)), .int .i64 (vP (-149))]) := hdV_agg m k1 (-149)
  have hr2 : ReadsU ((w.alloc ob).alloc oz) ao zs ((w.alloc ob).alloc oz).heap.size := RU hr (bel (bel (Below.refl _ _)))
  clear hq hR hh hqD hr
  go_enter Tryz.func68, Tryz.ntmps68
  go_wp2
  go_quiet (((go_at_call 87); exact Calls.quiet_of_same (sz _ hr2)))
  have HB : Below ((w.alloc ob).alloc oz).heap.size ((w.alloc ob).alloc oz) ((w.alloc ob).alloc oz) := Below.refl _ _
  have HB5 : True := trivial
  go_wp2_with (first
    | (go_at_call 87; with_reducible refine (sz _ (RU hr2 (by (repeat (first | exact HB | exact Below.refl _ _ | with_reducible refine bel ?_ | with_reducible refine Below.drew ?_ | with_reducible refine bt3 ?_))))).mono ?_; rintro e wq ⟨rfl, hq⟩; subst wq)
    | (go_at_call 72; with_reducible refine (down_any ao cap zs D _ (by omega) (by omega) (RU hr2 (by (repeat (first | exact HB | exact Below.refl _ _ | with_reducible refine bel ?_ | with_reducible refine Below.drew ?_ | with_reducible refine bt3 ?_)))) hW).mono ?_; rintro e w1 ⟨⟨v1, rfl, hv1⟩, hb1⟩; obtain ⟨ao1, cap1, zs1, rfl, hc1, hn1, hval1, hN1, hW1, hr1⟩ := hv1.dest; replace HB : Below ((w.alloc ob).alloc oz).heap.size ((w.alloc ob).alloc oz) w1 := bt2 hb1 (by (repeat (first | exact HB | exact Below.refl _ _ | with_reducible refine bel ?_ | with_reducible refine Below.drew ?_ | with_reducible refine bt3 ?_))); clear hb1 hv1; rw [HQ.out] at hval1)
    | (go_at_call 71; with_reducible refine (low_any ao1 cap1 zs1 _ (by have := small_len hN1 hval1 hql64; omega) (RU hr1 (by (repeat (first | exact Below.refl _ _ | with_reducible refine bel ?_ | with_reducible refine Below.drew ?_ | with_reducible refine bt3 ?_)))) hW1).mono ?_; rintro e wq ⟨rfl, hq⟩; rw [hval1, Nat.mod_eq_of_lt hql64]; subst wq; clear hval1 hN1 hW1 hr1 hc1 hn1)
    | (go_at_call 85; with_reducible refine (up_any ao1 cap1 zs1 D _ (by have := small_len hN1 hval1 hql64; omega) (by omega) (RU hr1 (by (repeat (first | exact Below.refl _ _ | with_reducible refine bel ?_ | with_reducible refine Below.drew ?_ | with_reducible refine bt3 ?_)))) hW1).mono ?_; rintro e w4 ⟨⟨v4, rfl, hv4⟩, hb4⟩; obtain ⟨ao4, cap4, zs4, rfl, hc4, hn4, hval4, hN4, hW4, hr4⟩ := hv4.dest; replace HB : Below ((w.alloc ob).alloc oz).heap.size ((w.alloc ob).alloc oz) w4 := bt2 hb4 (by (repeat (first | exact HB | exact Below.refl _ _ | with_reducible refine bel ?_ | with_reducible refine Below.drew ?_ | with_reducible refine bt3 ?_))); clear hb4 hv4; rw [hval1] at hval4)
    | (go_at_call 89; with_reducible refine (less_any ao ao4 cap cap4 zs zs4 _ (by omega) (norm_len hN4 _ (Nat.lt_of_le_of_lt (Nat.le_trans (Nat.le_of_eq hval4) HQD.out) (nv_lt hW))) (Nat.le_trans (Nat.le_of_eq hval4) HQD.out) (RU hr2 (by (repeat (first | exact HB | exact Below.refl _ _ | with_reducible refine bel ?_ | with_reducible refine Below.drew ?_ | with_reducible refine bt3 ?_)))) (RU hr4 (by (repeat (first | exact Below.refl _ _ | with_reducible refine bel ?_ | with_reducible refine Below.drew ?_ | with_reducible refine bt3 ?_)))) hW hW4).mono ?_; rintro e w5 ⟨⟨v5, rfl, hv5⟩, hb5⟩; obtain ⟨ao5, cap5, zs5, rfl, hc5, hn5, hval5, hN5, hW5, hr5⟩ := hv5.dest; replace HB : Below ((w.alloc ob).alloc oz).heap.size ((w.alloc ob).alloc oz) w5 := bt2 hb5 (by (repeat (first | exact HB | exact Below.refl _ _ | with_reducible refine bel ?_ | with_reducible refine Below.drew ?_ | with_reducible refine bt3 ?_))); clear hb5 hv5; rw [hval4, HR.out] at hval5; replace HB5 : Below w5.heap.size w5 w5 := Below.refl _ _)
    | (go_at_call 70; with_reducible refine (nat_1 _).mono ?_; rintro e w6 ⟨⟨v6, rfl, hv6⟩, hb6⟩; obtain ⟨ao6, cap6, zs6, rfl, hc6, hn6, hval6, hN6, hW6, hr6⟩ := hv6.dest; replace HB : Below ((w.alloc ob).alloc oz).heap.size ((w.alloc ob).alloc oz) w6 := bt2 hb6 (by (repeat (first | exact HB | exact Below.refl _ _ | with_reducible refine bel ?_ | with_reducible refine Below.drew ?_ | with_reducible refine bt3 ?_))); replace HB5 : Below w5.heap.size w5 w6 := bt2 hb6 (by (repeat (first | exact HB5 | exact Below.refl _ _ | with_reducible refine bel ?_ | with_reducible refine Below.drew ?_ | with_reducible refine bt3 ?_))); clear hb6 hv6)
    | (go_at_call 85; with_reducible refine (up_any ao6 cap6 zs6 (D - 1) _ (by have := small_len hN6 hval6 (by omega); omega) (by omega) (RU hr6 (by (repeat (first | exact Below.refl _ _ | with_reducible refine bel ?_ | with_reducible refine Below.drew ?_ | with_reducible refine bt3 ?_)))) hW6).mono ?_; rintro e w7 ⟨⟨v7, rfl, hv7⟩, hb7⟩; obtain ⟨ao7, cap7, zs7, rfl, hc7, hn7, hval7, hN7, hW7, hr7⟩ := hv7.dest; replace HB : Below ((w.alloc ob).alloc oz).heap.size ((w.alloc ob).alloc oz) w7 := bt2 hb7 (by (repeat (first | exact HB | exact Below.refl _ _ | with_reducible refine bel ?_ | with_reducible refine Below.drew ?_ | with_reducible refine bt3 ?_))); replace HB5 : Below w5.heap.size w5 w7 := bt2 hb7 (by (repeat (first | exact HB5 | exact Below.refl _ _ | with_reducible refine bel ?_ | with_reducible refine Below.drew ?_ | with_reducible refine bt3 ?_))); clear hb7 hv7; rw [hval6, Nat.one_mul, HH.out] at hval7)
    | (go_at_call 90; with_reducible refine (against_any ao5 ao7 cap5 cap7 zs5 zs7 _ (len5 hN5 hval5 HR.out HQD.out hW hl) (len7 hN7 hval7 HH.out hDl) (RU hr5 (by (repeat (first | exact HB5 | exact Below.refl _ _ | with_reducible refine bel ?_ | with_reducible refine Below.drew ?_ | with_reducible refine bt3 ?_)))) (RU hr7 (by (repeat (first | exact Below.refl _ _ | with_reducible refine bel ?_ | with_reducible refine Below.drew ?_ | with_reducible refine bt3 ?_)))) hW5 hW7 hN5 hN7).mono ?_; rintro e wq ⟨rfl, kq, hq⟩; subst wq; rw [hval5, hval7, HAG.out]; obtain ⟨f0, f1, f2⟩ := kF HB)
    | (go_at_call 88; with_reducible refine (held_any m k1 (-149) _).mono ?_; rintro e w9 ⟨rfl, hb9⟩; rw [HD.out]; replace HB : Below ((w.alloc ob).alloc oz).heap.size ((w.alloc ob).alloc oz) w9 := bt2 hb9 (by (repeat (first | exact HB | exact Below.refl _ _ | with_reducible refine bel ?_ | with_reducible refine Below.drew ?_ | with_reducible refine bt3 ?_))); obtain ⟨r0, r1, r2, r3, q0, q1, q2, q3⟩ := kA HB))
  refine bodyPost_ret (v := .agg #[.int .u8 (vS (-149)), .bool m, .int .u64 (vM k1 (-149)), .int .i64 (vP (-149))]) (by simp [results, Tryz.f68, go_sem, r0, r1, r2, r3]) rfl ?_
  exact ⟨by rw [HD.out], kB HB⟩
end Go.Proofs.YtjggbdlmghembaaGreat
