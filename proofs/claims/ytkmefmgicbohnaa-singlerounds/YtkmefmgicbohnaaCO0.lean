import Derived.Test.YtkmefmgicbohnaaCA4
import Derived.Test.YtkmefmgicbohnaaCA5
import Derived.Test.YtkmefmgicbohnaaCA3
import Derived.Shelf.Small.Bits
import Derived.Shelf.Strconv.Itoa0
import Derived.Test.YtkmefmgicbohnaaProg
import Derived.OwnWalk
namespace Go.Proofs.Ytkmefmgicbohnaa
open Go.RowKit

set_option maxHeartbeats 1000000 in
theorem rndM_any (m : Bool) (v0 : Value) (x0 NN : Nat) (P0 P : Int) (w : World) (hv0 : NatV w v0 x0) (hx0 : x0 < 2 ^ (32 * 6)) (hNN : x0 * 2 + 1 = NN) (hP1 : P0 - 1 = P) (hnl : nbits NN ≤ 4000) (hP : -5000 ≤ P) (hP2 : P ≤ 5000) :
    Calls Try.prog 16 #[.agg #[.int .i64 24, .int .i64 (-149), .int .i64 104], .bool m, v0, .int .i64 P0, .bool true] w fun e w' => (∃ n p, e = .returned (hdV m n p) ∧ Fits n p (rg Ieee.single NN P)) ∧ Below w.heap.size w w' := by
  have h0 : NN ≠ 0 := by omega
  obtain ⟨b1, b2, b3⟩ := nb_bounds NN h0
  obtain ⟨nb, hnb⟩ : ∃ nb, nbits NN = nb := ⟨_, rfl⟩
  obtain ⟨K, hK⟩ : ∃ K, max (P + nbits NN - 24) (-149) = K := ⟨_, rfl⟩
  by_cases hKP : K ≤ P
  · obtain ⟨X, hX⟩ : ∃ X : Nat, P - K = X := ⟨(P - K).toNat, by omega⟩
    have hrg := rg_up NN h0 P K X hK hX
    rw [hnb] at hK b1 b2 b3 hnl
    have hMX : NN * 2 ^ X < 16777216 := by
      have h1 : NN * 2 ^ X < 2 ^ nb * 2 ^ X := Nat.mul_lt_mul_of_pos_right b2 (Nat.two_pow_pos _)
      rw [← Nat.pow_add] at h1
      have h2 : 2 ^ (nb + X) ≤ 2 ^ 24 := Nat.pow_le_pow_right (by decide) (by omega)
      rw [p24] at h2
      omega
    by_cases hA : P + nb - 24 < -149
    · obtain rfl : K = -149 := by omega
      refine (rM1a m v0 x0 NN P0 P nb X _ w hv0 hx0 hNN hP1 hnb hnl hP hP2 hA hX rfl (by omega)).mono fun e w' ⟨he, hb⟩ => ⟨⟨_, _, he, 0, by omega, hMX, Or.inl rfl, ?_⟩, hb⟩
      rw [hrg, show ((-149 : Int) + 149).toNat = 0 from rfl]
    · have hK2 : P + nb - 24 = K := by omega
      refine (rM1b m v0 x0 NN P0 P nb X _ K w hv0 hx0 hNN hP1 hnb hnl hP hP2 hA hK2 hKP hX rfl (by omega)).mono fun e w' ⟨he, hb⟩ => ⟨⟨_, _, he, (K + 149).toNat, by omega, hMX, Or.inr ?_, hrg⟩, hb⟩
      have h1 : 2 ^ (nb - 1) * 2 ^ X ≤ NN * 2 ^ X := Nat.mul_le_mul_right _ b1
      rw [← Nat.pow_add, show nb - 1 + X = 23 by omega, p23] at h1
      exact h1
  · obtain ⟨D, hD⟩ : ∃ D : Nat, K - P = D := ⟨(K - P).toNat, by omega⟩
    have hrg := rg_dn NN h0 P K D hK hD
    rw [hnb] at hK b1 b2 b3 hnl
    by_cases hDn : D ≤ nb + 1
    · have hql : NN / 2 ^ D < 16777216 := by
        rw [Nat.div_lt_iff_lt_mul (Nat.two_pow_pos D), ← p24, ← Nat.pow_add]
        exact Nat.lt_of_lt_of_le b2 (Nat.pow_le_pow_right (by decide) (by omega))
      have hqg : ¬ P + nb - 24 < -149 → 8388608 ≤ NN / 2 ^ D := by
        intro h
        rw [Nat.le_div_iff_mul_le (Nat.two_pow_pos D), ← p23, ← Nat.pow_add]
        exact Nat.le_trans (Nat.pow_le_pow_right (by decide) (by omega)) b1
      obtain ⟨q, hq⟩ : ∃ q, NN / 2 ^ D = q := ⟨_, rfl⟩
      obtain ⟨R, hR⟩ : ∃ R, NN % 2 ^ D = R := ⟨_, rfl⟩
      obtain ⟨half, hh⟩ : ∃ half, 2 ^ (D - 1) = half := ⟨_, rfl⟩
      have h2h : 2 ^ D = 2 * half := by rw [← hh, ← Nat.pow_succ']; congr 1; omega
      have hR2 : NN - q * 2 ^ D = R := by
        have := Nat.div_add_mod NN (2 ^ D)
        rw [hq, hR, Nat.mul_comm] at this
        omega
      have hrn : rne NN (2 ^ D) = q + (if half < R ∨ (R = half ∧ q % 2 = 1) then 1 else 0) := by
        unfold rne
        rw [hq, hR, h2h]
        congr 1
        have hc : (2 * half < 2 * R ∨ 2 * half = 2 * R ∧ q % 2 = 1) ↔ (half < R ∨ (R = half ∧ q % 2 = 1)) := by omega
        by_cases c : half < R ∨ (R = half ∧ q % 2 = 1)
        · rw [if_pos c, if_pos (hc.2 c)]
        · rw [if_neg c, if_neg (fun x => c (hc.1 x))]
      rw [hrn] at hrg
      rw [hq] at hql hqg
      have hfit : ∀ n : Nat, n < 16777216 → (¬ P + nb - 24 < -149 → 8388608 ≤ n) → rg Ieee.single NN P = (K + 149).toNat * 8388608 + n → Fits n K (rg Ieee.single NN P) := by
        intro n h1 h2 h3
        refine ⟨(K + 149).toNat, by omega, h1, ?_, h3⟩
        by_cases hA : P + nb - 24 < -149
        · left; omega
        · exact Or.inr (h2 hA)
      have hfit2 : q + 1 = 16777216 → rg Ieee.single NN P = (K + 149).toNat * 8388608 + (q + 1) → Fits 8388608 (K + 1) (rg Ieee.single NN P) := by
        intro h1 h3
        exact fits_over K q _ (by omega) h1 h3
      by_cases hA : P + nb - 24 < -149
      · have hK2 : -149 = K := by omega
        by_cases c1 : half < R
        · rw [if_pos (Or.inl c1)] at hrg
          by_cases ho : q + 1 = 16777216
          · exact (rM3Lgo m v0 x0 NN P0 P nb D q R half K w hv0 hx0 hNN hP1 hnb hnl hP hP2 hA hK2 (by omega) hD hDn hq hql hR2 hh c1 ho).mono fun e w' ⟨he, hb⟩ => ⟨⟨_, _, he, hfit2 ho hrg⟩, hb⟩
          · exact (rM3Lg m v0 x0 NN P0 P nb D q R half K w hv0 hx0 hNN hP1 hnb hnl hP hP2 hA hK2 (by omega) hD hDn hq hql hR2 hh c1 _ rfl ho).mono fun e w' ⟨he, hb⟩ => ⟨⟨_, _, he, hfit (q + 1) (by omega) (fun h => absurd hA h) hrg⟩, hb⟩
        by_cases c2 : R = half
        · by_cases c3 : q % 2 = 1
          · rw [if_pos (Or.inr ⟨c2, c3⟩)] at hrg
            by_cases ho : q + 1 = 16777216
            · exact (rM3Lxo m v0 x0 NN P0 P nb D q R half K w hv0 hx0 hNN hP1 hnb hnl hP hP2 hA hK2 (by omega) hD hDn hq hql hR2 hh c2 c3 ho).mono fun e w' ⟨he, hb⟩ => ⟨⟨_, _, he, hfit2 ho hrg⟩, hb⟩
            · exact (rM3Lx m v0 x0 NN P0 P nb D q R half K w hv0 hx0 hNN hP1 hnb hnl hP hP2 hA hK2 (by omega) hD hDn hq hql hR2 hh c2 c3 _ rfl ho).mono fun e w' ⟨he, hb⟩ => ⟨⟨_, _, he, hfit (q + 1) (by omega) (fun h => absurd hA h) hrg⟩, hb⟩
          · rw [if_neg (by omega), Nat.add_zero] at hrg
            exact (rM3Le m v0 x0 NN P0 P nb D q R half K w hv0 hx0 hNN hP1 hnb hnl hP hP2 hA hK2 (by omega) hD hDn hq hql hR2 hh c2 (by omega)).mono fun e w' ⟨he, hb⟩ => ⟨⟨_, _, he, hfit q hql hqg hrg⟩, hb⟩
        · rw [if_neg (by omega), Nat.add_zero] at hrg
          exact (rM3Ll m v0 x0 NN P0 P nb D q R half K w hv0 hx0 hNN hP1 hnb hnl hP hP2 hA hK2 (by omega) hD hDn hq hql hR2 hh (by omega)).mono fun e w' ⟨he, hb⟩ => ⟨⟨_, _, he, hfit q hql hqg hrg⟩, hb⟩
      · have hK2 : P + nb - 24 = K := by omega
        have hg := hqg hA
        by_cases c1 : half < R
        · rw [if_pos (Or.inl c1)] at hrg
          by_cases ho : q + 1 = 16777216
          · exact (rM3Hgo m v0 x0 NN P0 P nb D q R half K w hv0 hx0 hNN hP1 hnb hnl hP hP2 hA hK2 (by omega) hD hDn hq hql hR2 hh c1 ho).mono fun e w' ⟨he, hb⟩ => ⟨⟨_, _, he, hfit2 ho hrg⟩, hb⟩
          · exact (rM3Hg m v0 x0 NN P0 P nb D q R half K w hv0 hx0 hNN hP1 hnb hnl hP hP2 hA hK2 (by omega) hD hDn hq hql hR2 hh c1 _ rfl ho).mono fun e w' ⟨he, hb⟩ => ⟨⟨_, _, he, hfit (q + 1) (by omega) (fun _ => by omega) hrg⟩, hb⟩
        by_cases c2 : R = half
        · by_cases c3 : q % 2 = 1
          · rw [if_pos (Or.inr ⟨c2, c3⟩)] at hrg
            by_cases ho : q + 1 = 16777216
            · exact (rM3Hxo m v0 x0 NN P0 P nb D q R half K w hv0 hx0 hNN hP1 hnb hnl hP hP2 hA hK2 (by omega) hD hDn hq hql hR2 hh c2 c3 ho).mono fun e w' ⟨he, hb⟩ => ⟨⟨_, _, he, hfit2 ho hrg⟩, hb⟩
            · exact (rM3Hx m v0 x0 NN P0 P nb D q R half K w hv0 hx0 hNN hP1 hnb hnl hP hP2 hA hK2 (by omega) hD hDn hq hql hR2 hh c2 c3 _ rfl ho).mono fun e w' ⟨he, hb⟩ => ⟨⟨_, _, he, hfit (q + 1) (by omega) (fun _ => by omega) hrg⟩, hb⟩
          · rw [if_neg (by omega), Nat.add_zero] at hrg
            exact (rM3He m v0 x0 NN P0 P nb D q R half K w hv0 hx0 hNN hP1 hnb hnl hP hP2 hA hK2 (by omega) hD hDn hq hql hR2 hh c2 (by omega)).mono fun e w' ⟨he, hb⟩ => ⟨⟨_, _, he, hfit q hql hqg hrg⟩, hb⟩
        · rw [if_neg (by omega), Nat.add_zero] at hrg
          exact (rM3Hl m v0 x0 NN P0 P nb D q R half K w hv0 hx0 hNN hP1 hnb hnl hP hP2 hA hK2 (by omega) hD hDn hq hql hR2 hh (by omega)).mono fun e w' ⟨he, hb⟩ => ⟨⟨_, _, he, hfit q hql hqg hrg⟩, hb⟩
    · have hA : P + nb - 24 < -149 := by omega
      have hK2 : K = -149 := by omega
      subst hK2
      refine (rM2 m v0 x0 NN P0 P nb w hv0 hx0 hNN hP1 hnb hnl hP hP2 hA (by omega) (by omega)).mono fun e w' ⟨he, hb⟩ => ⟨⟨_, _, he, 0, by omega, by omega, Or.inl rfl, ?_⟩, hb⟩
      have h1 : NN < 2 ^ D := Nat.lt_of_lt_of_le b2 (Nat.pow_le_pow_right (by decide) (by omega))
      have h2 : 2 * NN < 2 ^ D := by
        have h3 : 2 ^ (nb + 1) ≤ 2 ^ D := Nat.pow_le_pow_right (by decide) (by omega)
        rw [Nat.pow_succ] at h3
        omega
      rw [hrg]
      unfold rne
      rw [Nat.div_eq_of_lt h1, Nat.mod_eq_of_lt h1, if_neg (by omega), show ((-149 : Int) + 149).toNat = 0 from rfl]
end Go.Proofs.Ytkmefmgicbohnaa
namespace Go.Proofs.Ytkmefmgicbohnaa
open Go.RowKit

set_option maxRecDepth 100000 in
set_option maxHeartbeats 1000000 in
theorem isn2 (m : Bool) (w : World)  :
    Calls Try.prog 42 #[.agg #[.int .u8 2, .bool m, .int .u64 0, .int .i64 0]] w fun e w' => e = .returned (.bool false) ∧ Below w.heap.size w w' := by
  go_enter Try.func42, Try.ntmps42
  go_wp2
  go_ret
  exact ⟨rfl, bel (Below.refl _ _)⟩
set_option maxRecDepth 100000 in
set_option maxHeartbeats 1000000 in
theorem isn3z (m : Bool) (p : Int) (w : World)  :
    Calls Try.prog 42 #[.agg #[.int .u8 3, .bool m, .int .u64 0, .int .i64 p]] w fun e w' => e = .returned (.bool true) ∧ Below w.heap.size w w' := by
  go_enter Try.func42, Try.ntmps42
  go_wp2
  go_ret
  exact ⟨rfl, bel (Below.refl _ _)⟩
set_option maxRecDepth 100000 in
set_option maxHeartbeats 1000000 in
theorem isn3 (m : Bool) (n : Nat) (p : Int) (w : World) (g1 : ((n : Int) == 0) = false) :
    Calls Try.prog 42 #[.agg #[.int .u8 3, .bool m, .int .u64 n, .int .i64 p]] w fun e w' => e = .returned (.bool false) ∧ Below w.heap.size w w' := by
  go_enter Try.func42, Try.ntmps42
  go_wp2
  go_ret
  exact ⟨rfl, bel (Below.refl _ _)⟩
theorem g1 {w W : World} {s : Int} {m : Bool} {n p : Int} (h : Below (w.alloc (oV s m n p)).heap.size (w.alloc (oV s m n p)) W) :
    W.cell? ⟨w.heap.size, 0, none⟩ = some (.int .u8 s) ∧ W.cell? ⟨w.heap.size, 1, none⟩ = some (.bool m) ∧ W.cell? ⟨w.heap.size, 2, none⟩ = some (.int .u64 n) ∧ W.cell? ⟨w.heap.size, 3, none⟩ = some (.int .i64 p) := by
  refine ⟨?_, ?_, ?_, ?_⟩
  · exact (h.cell (p := ⟨w.heap.size, 0, none⟩) (by simp only [sz1]; omega)).trans (World.cell?_alloc_new _ _ _ _)
  · exact (h.cell (p := ⟨w.heap.size, 1, none⟩) (by simp only [sz1]; omega)).trans (World.cell?_alloc_new _ _ _ _)
  · exact (h.cell (p := ⟨w.heap.size, 2, none⟩) (by simp only [sz1]; omega)).trans (World.cell?_alloc_new _ _ _ _)
  · exact (h.cell (p := ⟨w.heap.size, 3, none⟩) (by simp only [sz1]; omega)).trans (World.cell?_alloc_new _ _ _ _)
end Go.Proofs.Ytkmefmgicbohnaa
namespace Go.Proofs.Ytkmefmgicbohnaa
open Go.RowKit

theorem rnd_nw (m : Bool) (v : Value) (x k : Nat) (P : Int) (w : World) (h : NatV w v x) (hx : x < 2 ^ (32 * k)) (hk : k ≤ 100) (hP : -5000 ≤ P) (hP2 : P ≤ 5000) :
    Calls Try.prog 16 #[.agg #[.int .i64 24, .int .i64 (-149), .int .i64 104], .bool m, v, .int .i64 P, .bool false] w fun e w' => (∃ n p, e = .returned (hdV m n p) ∧ Fits n p (rg Ieee.single x P)) ∧ Below w.heap.size w w' := by
  obtain ⟨ao, cap, zs, rfl, hc, hn', hval, hN, hW, hr⟩ := h
  have := rnd_any m ao cap zs P w (by have := len_pow hN hval k hx; omega) hr hW hN hP hP2
  rw [hval] at this
  exact this
theorem fof_wrd (n : Int) : fof n = wrd (decide (n < 0)) (min (rg Ieee.single n.natAbs 0) 2139095040) := by
  unfold fof
  rw [nearest_word, word_wrd _ _ (by omega)]
end Go.Proofs.Ytkmefmgicbohnaa
namespace Go.Proofs
open Go.Shelf
def Try.lays134_ren : Go.Shelf.Ren := ⟨fun | 134 => 25 | 129 => 47 | n => n, fun | 53 => 22 | 3 => 3 | 4 => 4 | 46 => 64 | 5 => 5 | 9 => 9 | n => n, fun | n => n⟩
theorem Try.lays134 : Go.Proofs.Lays.n134 Try.prog Try.lays134_ren := {
  mixed := by kernel_rfl
  f129 := Try.func47.trans (congrArg some (by kernel_rfl))
  f134 := Try.func25.trans (congrArg some (by kernel_rfl))
  t3 := Try.underlying3
  a3 := Try.isAgg3
  z3 := Try.sizeOf3
  v3 := Try.zeroValue3
  t4 := Try.underlying4
  a4 := Try.isAgg4
  z4 := Try.sizeOf4
  v4 := Try.zeroValue4
  t5 := Try.underlying5
  a5 := Try.isAgg5
  z5 := Try.sizeOf5
  v5 := Try.zeroValue5
  t9 := Try.underlying9
  a9 := Try.isAgg9
  z9 := Try.sizeOf9
  v9 := Try.zeroValue9
  t46 := Try.underlying64
  a46 := Try.isAgg64
  z46 := Try.sizeOf64
  v46 := Try.zeroValue64
  t53 := Try.underlying22
  a53 := Try.isAgg22
  z53 := Try.sizeOf22
  v53 := Try.zeroValue22 }
theorem Try.bits_LeadingZeros64 (x : Int) (w : World) (h0 : 0 ≤ x) (h1 : x ≤ 18446744073709551615) :
    Calls Try.prog 25 #[.int .u64 x] w fun e w' => e = .returned (.int .i64 (64 - (Lib.bitLen x.toNat : Int))) ∧ w' = w := Any.bits_LeadingZeros64 Try.lays134 x w h0 h1
def Try.lays129_ren : Go.Shelf.Ren := ⟨fun | 129 => 47 | n => n, fun | 53 => 22 | 3 => 3 | 4 => 4 | 46 => 64 | 5 => 5 | 9 => 9 | n => n, fun | n => n⟩
theorem Try.lays129 : Go.Proofs.Lays.n129 Try.prog Try.lays129_ren := {
  mixed := by kernel_rfl
  f129 := Try.func47.trans (congrArg some (by kernel_rfl))
  t3 := Try.underlying3
  a3 := Try.isAgg3
  z3 := Try.sizeOf3
  v3 := Try.zeroValue3
  t4 := Try.underlying4
  a4 := Try.isAgg4
  z4 := Try.sizeOf4
  v4 := Try.zeroValue4
  t5 := Try.underlying5
  a5 := Try.isAgg5
  z5 := Try.sizeOf5
  v5 := Try.zeroValue5
  t9 := Try.underlying9
  a9 := Try.isAgg9
  z9 := Try.sizeOf9
  v9 := Try.zeroValue9
  t46 := Try.underlying64
  a46 := Try.isAgg64
  z46 := Try.sizeOf64
  v46 := Try.zeroValue64
  t53 := Try.underlying22
  a53 := Try.isAgg22
  z53 := Try.sizeOf22
  v53 := Try.zeroValue22 }
theorem Try.bits_Len64 (x : Int) (w : World) (h0 : 0 ≤ x) (h1 : x ≤ 18446744073709551615) :
    Calls Try.prog 47 #[.int .u64 x] w fun e w' => e = .returned (.int .i64 (Lib.bitLen x.toNat)) ∧ w' = w := Any.bits_Len64 Try.lays129 x w h0 h1
end Go.Proofs
namespace Go.Proofs.Ytkmefmgicbohnaa
open Go.RowKit

set_option maxRecDepth 100000 in
theorem fin_any (k n : Nat) (w : World) (hk : k ≤ 253) (hn : n ≤ 16777216) :
    Calls Try.prog 26 #[.int .u32 n, .int .i64 (-149 + (k : Int))] w fun e w' => e = .returned (.int .u32 (k * 8388608 + n : Nat)) ∧ w' = w := by
  have e : (k : Int) * 8388608 + (n : Int) = ((k * 8388608 + n : Nat) : Int) := by omega
  go_enter Try.func26, Try.ntmps26
  go_wp2
  go_ret
  refine ⟨?_, rfl⟩
  first | rfl | exact congrArg (fun x => Ending.returned (.int .u32 x)) e | exact congrArg (fun x => Ending.returned (.int .u32 x)) (by omega)
set_option maxRecDepth 100000 in
theorem sgn_any (m : Bool) (a : Nat) (w : World) (ha : a < 2147483648) :
    Calls Try.prog 12 #[.bool m, .int .u32 a] w fun e w' => e = .returned (.int .u32 (wrd m a : Nat)) ∧ w' = w := by
  cases m
  · have e : (a : Int) = ((wrd false a : Nat) : Int) := by unfold wrd; simp
    go_enter Try.func12, Try.ntmps12
    go_wp2
    go_ret
    refine ⟨?_, rfl⟩
    first | rfl | exact congrArg (fun x => Ending.returned (.int .u32 x)) e | exact congrArg (fun x => Ending.returned (.int .u32 x)) (by omega)
  · have e : bits .or .u32 (a : Int) 2147483648 = ((wrd true a : Nat) : Int) := by rw [b_or a ha]; unfold wrd; simp; omega
    go_enter Try.func12, Try.ntmps12
    go_wp2
    go_ret
    refine ⟨?_, rfl⟩
    first | rfl | exact congrArg (fun x => Ending.returned (.int .u32 x)) e | exact congrArg (fun x => Ending.returned (.int .u32 x)) (by omega)
set_option maxRecDepth 100000 in
theorem nst_far (M : Nat) (P : Int) (mo : Bool) (w : World) (hP : -5000 ≤ P) (h : 64 < -149 - P) :
    Calls Try.prog 14 #[.int .u64 M, .int .i64 P, .bool mo] w fun e w' => e = .returned (.int .u32 0) ∧ w' = w := by
  go_enter Try.func14, Try.ntmps14
  go_wp2
  go_ret
  exact ⟨rfl, rfl⟩
set_option maxRecDepth 100000 in
theorem nst_big (M : Nat) (P : Int) (mo : Bool) (w : World) (hP : P ≤ 5000) (h : 64 < P) :
    Calls Try.prog 14 #[.int .u64 M, .int .i64 P, .bool mo] w fun e w' => e = .returned (.int .u32 2139095040) ∧ w' = w := by
  have hm : max (40 : Int) (-149 - P) = 40 := by omega
  have h' : 104 < P + 40 := by omega
  go_enter Try.func14, Try.ntmps14
  go_wp2
  go_ret
  exact ⟨rfl, rfl⟩
end Go.Proofs.Ytkmefmgicbohnaa
namespace Go.Proofs.Ytkmefmgicbohnaa
open Go.RowKit

theorem u64_pow (D : Nat) (h : D ≤ 63) : IntKind.u64.wrap ((2 : Int) ^ D) = ((2 ^ D : Nat) : Int) := by
  have h1 : 2 ^ D ≤ 2 ^ 63 := Nat.pow_le_pow_right (by decide) h
  have h2 : (2 : Nat) ^ 63 = 9223372036854775808 := by decide
  rw [h2] at h1
  have e : (2 : Int) ^ D = ((2 ^ D : Nat) : Int) := by simp
  rw [IntKind.wrap_u64, e]
  generalize 2 ^ D = t at *
  omega
theorem u64_mask (M D : Nat) (hM : M < 18446744073709551616) (h : D ≤ 64) : bits .and .u64 (M : Int) (IntKind.u64.wrap (IntKind.u64.wrap ((2 : Int) ^ D) - 1)) = ((M % 2 ^ D : Nat) : Int) := by
  have hm : IntKind.u64.wrap (IntKind.u64.wrap ((2 : Int) ^ D) - 1) = ((2 ^ D - 1 : Nat) : Int) := by
    by_cases h6 : D = 64
    · subst h6; decide
    · have h0 := Nat.two_pow_pos D
      have h1 : 2 ^ D ≤ 2 ^ 63 := Nat.pow_le_pow_right (by decide) (by omega)
      have h2 : (2 : Nat) ^ 63 = 9223372036854775808 := by decide
      rw [h2] at h1
      rw [u64_pow D (by omega), IntKind.wrap_u64]
      generalize 2 ^ D = t at *
      omega
  have hl : 2 ^ D - 1 < 18446744073709551616 := by
    have h1 : 2 ^ D ≤ 2 ^ 64 := Nat.pow_le_pow_right (by decide) h
    have h2 : (2 : Nat) ^ 64 = 18446744073709551616 := by decide
    have h0 := Nat.two_pow_pos D
    omega
  rw [hm, u64_and_nat M (2 ^ D - 1) hM hl, Nat.and_two_pow_sub_one_eq_mod]
set_option maxRecDepth 100000 in
set_option maxHeartbeats 1000000 in
theorem nst_l (M D q R h k : Nat) (P : Int) (mo : Bool) (w : World) (hP1 : -5000 ≤ P) (hD : max (40 : Int) (-149 - P) = (D : Int)) (hD2 : D ≤ 64) (hk : P + (D : Int) = -149 + (k : Int)) (hk2 : k ≤ 253) (e1 : (M : Int) / 2 ^ D = (q : Int)) (hq2 : q < 16777216) (e2 : bits .and .u64 (M : Int) (IntKind.u64.wrap (IntKind.u64.wrap ((2 : Int) ^ D) - 1)) = (R : Int)) (e3 : IntKind.u64.wrap ((2 : Int) ^ (D - 1)) = (h : Int)) (hlt : R < h) :
    Calls Try.prog 14 #[.int .u64 M, .int .i64 P, .bool mo] w fun e w' => e = .returned (.int .u32 (k * 8388608 + q : Nat)) ∧ w' = w := by
  have h' : P + (D : Int) ≤ 104 := by omega
  go_enter Try.func14, Try.ntmps14
  go_wp2_with (go_at_call 26; with_reducible refine (fin_any k q _ hk2 (by omega)).mono ?_; rintro e wq ⟨rfl, hq⟩; subst wq)
  go_ret
  exact ⟨rfl, rfl⟩
set_option maxRecDepth 100000 in
set_option maxHeartbeats 1000000 in
theorem nst_g (M D q Q R h k : Nat) (P : Int) (mo : Bool) (w : World) (hP1 : -5000 ≤ P) (hD : max (40 : Int) (-149 - P) = (D : Int)) (hD2 : D ≤ 64) (hk : P + (D : Int) = -149 + (k : Int)) (hk2 : k ≤ 253) (e1 : (M : Int) / 2 ^ D = (q : Int)) (hq2 : Q ≤ 16777216) (hQ : (q : Int) + 1 = (Q : Int)) (e2 : bits .and .u64 (M : Int) (IntKind.u64.wrap (IntKind.u64.wrap ((2 : Int) ^ D) - 1)) = (R : Int)) (e3 : IntKind.u64.wrap ((2 : Int) ^ (D - 1)) = (h : Int)) (hlt : h < R) :
    Calls Try.prog 14 #[.int .u64 M, .int .i64 P, .bool mo] w fun e w' => e = .returned (.int .u32 (k * 8388608 + Q : Nat)) ∧ w' = w := by
  have h' : P + (D : Int) ≤ 104 := by omega
  go_enter Try.func14, Try.ntmps14
  go_wp2_with (go_at_call 26; with_reducible refine (fin_any k Q _ hk2 (by omega)).mono ?_; rintro e wq ⟨rfl, hq⟩; subst wq)
  go_ret
  exact ⟨rfl, rfl⟩
set_option maxRecDepth 100000 in
set_option maxHeartbeats 1000000 in
theorem nst_em (M D q Q h k : Nat) (P : Int) (w : World) (hP1 : -5000 ≤ P) (hD : max (40 : Int) (-149 - P) = (D : Int)) (hD2 : D ≤ 64) (hk : P + (D : Int) = -149 + (k : Int)) (hk2 : k ≤ 253) (e1 : (M : Int) / 2 ^ D = (q : Int)) (hq2 : Q ≤ 16777216) (hQ : (q : Int) + 1 = (Q : Int)) (e2 : bits .and .u64 (M : Int) (IntKind.u64.wrap (IntKind.u64.wrap ((2 : Int) ^ D) - 1)) = (h : Int)) (e3 : IntKind.u64.wrap ((2 : Int) ^ (D - 1)) = (h : Int)) :
    Calls Try.prog 14 #[.int .u64 M, .int .i64 P, .bool true] w fun e w' => e = .returned (.int .u32 (k * 8388608 + Q : Nat)) ∧ w' = w := by
  have h' : P + (D : Int) ≤ 104 := by omega
  go_enter Try.func14, Try.ntmps14
  go_wp2_with (go_at_call 26; with_reducible refine (fin_any k Q _ hk2 (by omega)).mono ?_; rintro e wq ⟨rfl, hq⟩; subst wq)
  go_ret
  exact ⟨rfl, rfl⟩
set_option maxRecDepth 100000 in
set_option maxHeartbeats 1000000 in
theorem nst_eo (M D q Q h k : Nat) (P : Int) (w : World) (hP1 : -5000 ≤ P) (hD : max (40 : Int) (-149 - P) = (D : Int)) (hD2 : D ≤ 64) (hk : P + (D : Int) = -149 + (k : Int)) (hk2 : k ≤ 253) (e1 : (M : Int) / 2 ^ D = (q : Int)) (hq2 : Q ≤ 16777216) (hQ : (q : Int) + 1 = (Q : Int)) (e2 : bits .and .u64 (M : Int) (IntKind.u64.wrap (IntKind.u64.wrap ((2 : Int) ^ D) - 1)) = (h : Int)) (e3 : IntKind.u64.wrap ((2 : Int) ^ (D - 1)) = (h : Int)) (ho : q % 2 = 1) :
    Calls Try.prog 14 #[.int .u64 M, .int .i64 P, .bool false] w fun e w' => e = .returned (.int .u32 (k * 8388608 + Q : Nat)) ∧ w' = w := by
  have h' : P + (D : Int) ≤ 104 := by omega
  go_enter Try.func14, Try.ntmps14
  go_wp2_with (go_at_call 26; with_reducible refine (fin_any k Q _ hk2 (by omega)).mono ?_; rintro e wq ⟨rfl, hq⟩; subst wq)
  go_ret
  exact ⟨rfl, rfl⟩
set_option maxRecDepth 100000 in
set_option maxHeartbeats 1000000 in
theorem nst_ee (M D q h k : Nat) (P : Int) (w : World) (hP1 : -5000 ≤ P) (hD : max (40 : Int) (-149 - P) = (D : Int)) (hD2 : D ≤ 64) (hk : P + (D : Int) = -149 + (k : Int)) (hk2 : k ≤ 253) (e1 : (M : Int) / 2 ^ D = (q : Int)) (hq2 : q < 16777216) (e2 : bits .and .u64 (M : Int) (IntKind.u64.wrap (IntKind.u64.wrap ((2 : Int) ^ D) - 1)) = (h : Int)) (e3 : IntKind.u64.wrap ((2 : Int) ^ (D - 1)) = (h : Int)) (ho : q % 2 = 0) :
    Calls Try.prog 14 #[.int .u64 M, .int .i64 P, .bool false] w fun e w' => e = .returned (.int .u32 (k * 8388608 + q : Nat)) ∧ w' = w := by
  have h' : P + (D : Int) ≤ 104 := by omega
  go_enter Try.func14, Try.ntmps14
  go_wp2_with (go_at_call 26; with_reducible refine (fin_any k q _ hk2 (by omega)).mono ?_; rintro e wq ⟨rfl, hq⟩; subst wq)
  go_ret
  exact ⟨rfl, rfl⟩
end Go.Proofs.Ytkmefmgicbohnaa
namespace Go.Proofs.Ytkmefmgicbohnaa
open Go.RowKit

theorem rne_half (M mt D q R h : Nat) (hmt : mt ≤ 1) (hD : 1 ≤ D) (hq : M / 2 ^ D = q) (hR : M % 2 ^ D = R) (hh : 2 ^ (D - 1) = h) :
    rne (2 * M + mt) (2 ^ (D + 1)) = q + (if h < R ∨ (R = h ∧ (mt = 1 ∨ q % 2 = 1)) then 1 else 0) := by
  have hg : 2 ^ D = 2 * h := by rw [← hh, ← Nat.pow_succ', show (D - 1).succ = D by omega]
  have hg2 : 2 ^ (D + 1) = 2 * 2 ^ D := by rw [Nat.pow_succ, Nat.mul_comm]
  have hpos := Nat.two_pow_pos D
  have hdm := Nat.div_add_mod M (2 ^ D)
  have hRl : R < 2 ^ D := by rw [← hR]; exact Nat.mod_lt _ hpos
  rw [hq, hR] at hdm
  have e1 : (2 * M + mt) / 2 ^ (D + 1) = q := by
    rw [hg2, ← Nat.div_div_eq_div_mul, show (2 * M + mt) / 2 = M by omega, hq]
  have e2 : (2 * M + mt) % 2 ^ (D + 1) = 2 * R + mt := by
    have h1 := Nat.div_add_mod (2 * M + mt) (2 ^ (D + 1))
    rw [e1, hg2, Nat.mul_assoc] at h1
    rw [hg2]
    omega
  unfold rne
  rw [e1, e2, hg2]
  congr 1
  rw [hg]
  by_cases c : h < R ∨ (R = h ∧ (mt = 1 ∨ q % 2 = 1))
  · rw [if_pos c, if_pos]; omega
  · rw [if_neg c, if_neg]; omega
theorem nb65 (N : Nat) (h1 : 2 ^ 64 ≤ N) (h2 : N < 2 ^ 65) : nbits N = 65 := by
  have h0 : N ≠ 0 := by have : 0 < 2 ^ 64 := Nat.two_pow_pos 64; omega
  obtain ⟨b1, b2, b3⟩ := nb_bounds N h0
  have c1 := (Nat.pow_lt_pow_iff_right (a := 2) (by decide)).1 (Nat.lt_of_le_of_lt b1 h2)
  have c2 := (Nat.pow_lt_pow_iff_right (a := 2) (by decide)).1 (Nat.lt_of_le_of_lt h1 b2)
  omega
theorem rg_shift (f : Ieee.Format) (hp : 0 < f.fractionBits) (N z : Nat) (Q : Int) : rg f (N * 2 ^ z) (Q - z) = rg f N Q := by
  obtain ⟨d, hd⟩ : ∃ d : Nat, f.leastPlace ≤ Q - z + d := ⟨(f.leastPlace - (Q - z)).toNat, by omega⟩
  have n1 := rg_near f hp (N * 2 ^ z) (Q - z) d hd
  have n2 := rg_near f hp N Q d (by omega)
  rw [Nat.mul_assoc, ← Nat.pow_add, show z + (Q - z - f.leastPlace + d).toNat = (Q - f.leastPlace + d).toNat by omega] at n1
  exact n1.unique (Nat.two_pow_pos _) n2
theorem nst_any (M : Nat) (P : Int) (mo : Bool) (w : World) (h1 : 9223372036854775808 ≤ M) (h2 : M < 18446744073709551616) (hP : -4000 ≤ P) (hP2 : P ≤ 4000) :
    Calls Try.prog 14 #[.int .u64 M, .int .i64 P, .bool mo] w fun e w' => e = .returned (.int .u32 (min (rg Ieee.single (2 * M + mo.toNat) (P - 1)) 2139095040 : Nat)) ∧ w' = w := by
  have hmt : mo.toNat ≤ 1 := by cases mo <;> decide
  obtain ⟨mt, hm⟩ : ∃ mt, mt = mo.toNat := ⟨_, rfl⟩
  rw [← hm] at hmt ⊢
  have hp64 : (2 : Nat) ^ 64 = 18446744073709551616 := by decide
  have hp65 : (2 : Nat) ^ 65 = 36893488147419103232 := by decide
  have hnb : nbits (2 * M + mt) = 65 := nb65 _ (by omega) (by omega)
  obtain ⟨K, hK⟩ : ∃ K, max (P - 1 + 65 - 24) (-149) = K := ⟨_, rfl⟩
  obtain ⟨D, hD⟩ : ∃ D : Nat, max (40 : Int) (-149 - P) = (D : Int) := ⟨(max (40 : Int) (-149 - P)).toNat, by omega⟩
  have hrg := rg_dn (2 * M + mt) (by omega) (P - 1) K (D + 1) (by rw [hnb]; exact hK) (by omega)
  by_cases hfar : 64 < -149 - P
  · refine (nst_far M P mo w (by omega) hfar).mono fun e w' ⟨he, hw⟩ => ⟨?_, hw⟩
    have hl : 2 * M + mt < 2 ^ D := Nat.lt_of_lt_of_le (show 2 * M + mt < 2 ^ 65 by omega) (Nat.pow_le_pow_right (by decide) (by omega))
    have hg2 : 2 ^ (D + 1) = 2 * 2 ^ D := by rw [Nat.pow_succ, Nat.mul_comm]
    have hr0 : rne (2 * M + mt) (2 ^ (D + 1)) = 0 := by
      unfold rne
      rw [Nat.div_eq_of_lt (by omega), Nat.mod_eq_of_lt (by omega), if_neg (by omega)]
    rw [hrg, hr0, show (K + 149).toNat = 0 by omega]
    exact he
  have hD2 : D ≤ 64 := by omega
  obtain ⟨q, hq⟩ : ∃ q, M / 2 ^ D = q := ⟨_, rfl⟩
  obtain ⟨R, hR⟩ : ∃ R, M % 2 ^ D = R := ⟨_, rfl⟩
  obtain ⟨h, hh⟩ : ∃ h, 2 ^ (D - 1) = h := ⟨_, rfl⟩
  rw [rne_half M mt D q R h hmt (by omega) hq hR hh] at hrg
  have hql : q < 16777216 := by
    rw [← hq, Nat.div_lt_iff_lt_mul (Nat.two_pow_pos D)]
    have : 2 ^ 40 ≤ 2 ^ D := Nat.pow_le_pow_right (by decide) (by omega)
    have h40 : (2 : Nat) ^ 40 = 1099511627776 := by decide
    omega
  by_cases hbig : 64 < P
  · refine (nst_big M P mo w (by omega) hbig).mono fun e w' ⟨he, hw⟩ => ⟨?_, hw⟩
    have hD4 : D = 40 := by omega
    have hqg : 8388608 ≤ q := by
      have h40 : (2 : Nat) ^ 40 = 1099511627776 := by decide
      rw [← hq, hD4, h40]; omega
    rw [show min (rg Ieee.single (2 * M + mt) (P - 1)) 2139095040 = 2139095040 from ?_]
    · exact he
    · rw [hrg]
      have : 254 ≤ (K + 149).toNat := by omega
      generalize (K + 149).toNat = t at *
      exact Nat.min_eq_right (Nat.le_trans (show 2139095040 ≤ t * 8388608 + q by omega) (Nat.add_le_add_left (Nat.le_add_right _ _) _))
  obtain ⟨k, hk⟩ : ∃ k : Nat, P + (D : Int) = -149 + (k : Int) := ⟨(P + (D : Int) + 149).toNat, by omega⟩
  have hk2 : k ≤ 253 := by omega
  have hKk : (K + 149).toNat = k := by omega
  rw [hKk] at hrg
  have e1 : (M : Int) / 2 ^ D = (q : Int) := by rw [← hq]; simp
  have e2 := u64_mask M D h2 hD2
  rw [hR] at e2
  have e3 := u64_pow (D - 1) (by omega)
  rw [hh] at e3
  have fin : ∀ Q, Q ≤ 16777216 → rg Ieee.single (2 * M + mt) (P - 1) = k * 8388608 + Q → min (rg Ieee.single (2 * M + mt) (P - 1)) 2139095040 = k * 8388608 + Q := by
    intro Q hQ e
    rw [e]; exact Nat.min_eq_left (by omega)
  by_cases c1 : h < R
  · rw [if_pos (Or.inl c1)] at hrg
    rw [fin (q + 1) (by omega) hrg]
    exact nst_g M D q (q + 1) R h k P mo w (by omega) hD hD2 hk hk2 e1 (by omega) (by omega) e2 e3 c1
  by_cases c2 : R = h
  · rw [c2] at e2 hrg
    by_cases c3 : mt = 1
    · rw [if_pos (Or.inr ⟨rfl, Or.inl c3⟩)] at hrg
      rw [fin (q + 1) (by omega) hrg]
      have : mo = true := by cases mo <;> simp_all
      subst this
      exact nst_em M D q (q + 1) h k P w (by omega) hD hD2 hk hk2 e1 (by omega) (by omega) e2 e3
    · have : mo = false := by cases mo <;> simp_all
      subst this
      by_cases c4 : q % 2 = 1
      · rw [if_pos (Or.inr ⟨rfl, Or.inr c4⟩)] at hrg
        rw [fin (q + 1) (by omega) hrg]
        exact nst_eo M D q (q + 1) h k P w (by omega) hD hD2 hk hk2 e1 (by omega) (by omega) e2 e3 c4
      · rw [if_neg (by omega)] at hrg
        rw [fin q (by omega) hrg]
        exact nst_ee M D q h k P w (by omega) hD hD2 hk hk2 e1 (by omega) e2 e3 (by omega)
  · rw [if_neg (by omega)] at hrg
    rw [fin q (by omega) hrg]
    exact nst_l M D q R h k P mo w (by omega) hD hD2 hk hk2 e1 (by omega) e2 e3 (by omega)
end Go.Proofs.Ytkmefmgicbohnaa
namespace Go.Proofs.Ytkmefmgicbohnaa
open Go.RowKit

theorem bl_nb : ∀ n x : Nat, x < 2 ^ n → n ≤ 64 → Lib.bitLen x = nbits x
  | 0, x, h, _ => by
    have : x = 0 := by simp at h; exact h
    subst this; decide
  | n + 1, x, h, hn => by
    by_cases h0 : x = 0
    · subst h0; decide
    · have h64 : x < 2 ^ 64 := Nat.lt_of_lt_of_le h (Nat.pow_le_pow_right (by decide) hn)
      rw [Lib.bitLen_half x h0 h64, bl_nb n (x / 2) (by rw [Nat.pow_succ] at h; omega) (by omega)]
      unfold nbits
      rw [if_neg h0]
      by_cases h1 : x / 2 = 0
      · rw [if_pos h1]
        have : x = 1 := by omega
        subst this; decide
      · rw [if_neg h1, Nat.log2_def x, if_pos (by omega)]
        omega
theorem lz_any (x z : Nat) (w : World) (hx : x < 18446744073709551616) (hz : nbits x + z = 64) :
    Calls Try.prog 25 #[.int .u64 x] w fun e w' => e = .returned (.int .i64 z) ∧ w' = w := by
  refine (Try.bits_LeadingZeros64 (x : Int) w (by omega) (by omega)).mono fun e w' ⟨he, hw⟩ => ⟨?_, hw⟩
  rw [he, Int.toNat_natCast, bl_nb 64 x hx (by omega), show (64 : Int) - (nbits x : Int) = (z : Int) by omega]
set_option maxRecDepth 100000 in
set_option maxHeartbeats 1000000 in
theorem rai_0 (x : Nat) (P : Int) (mo : Bool) (w : World) (hx : x < 18446744073709551616) (hz : nbits x = 64) :
    Calls Try.prog 13 #[.int .u64 x, .int .i64 P, .bool mo] w fun e w' => e = .returned (.tuple #[.int .u64 x, .int .i64 P, .bool mo]) ∧ w' = w := by
  have HZ : Hid (nbits x + 0 = 64) := hz
  clear hz
  go_enter Try.func13, Try.ntmps13
  go_wp2_with (go_at_call 25; with_reducible refine (lz_any x 0 _ hx HZ.out).mono ?_; rintro e wq ⟨rfl, hq⟩; subst wq)
  go_ret3
  exact ⟨rfl, rfl⟩
set_option maxRecDepth 100000 in
set_option maxHeartbeats 1000000 in
theorem rai_f (x z Y : Nat) (P : Int) (w : World) (hx : x < 18446744073709551616) (hz : nbits x + z = 64) (hz0 : 1 ≤ z) (hz1 : z ≤ 64) (e1 : IntKind.u64.wrap ((x : Int) * 2 ^ z) = (Y : Int)) (hP : -4000 ≤ P) (hP2 : P ≤ 4000) :
    Calls Try.prog 13 #[.int .u64 x, .int .i64 P, .bool false] w fun e w' => e = .returned (.tuple #[.int .u64 Y, .int .i64 (P - z), .bool false]) ∧ w' = w := by
  have HZ : Hid (nbits x + z = 64) := hz
  clear hz
  have hz9 : ((z : Int) == 0) = false := by rw [beq_eq_false_iff_ne]; omega
  go_enter Try.func13, Try.ntmps13
  go_wp2_with (go_at_call 25; with_reducible refine (lz_any x z _ hx HZ.out).mono ?_; rintro e wq ⟨rfl, hq⟩; subst wq)
  go_ret3
  exact ⟨rfl, rfl⟩
set_option maxRecDepth 100000 in
set_option maxHeartbeats 1000000 in
theorem rai_t (x z Y Z : Nat) (P : Int) (w : World) (hx : x < 18446744073709551616) (hz : nbits x + z = 64) (hz0 : 1 ≤ z) (hz1 : z ≤ 64) (e1 : IntKind.u64.wrap ((x : Int) * 2 ^ z) = (Y : Int)) (e2 : bits .or .u64 (Y : Int) (IntKind.u64.wrap (2 ^ (z - 1))) = (Z : Int)) (hP : -4000 ≤ P) (hP2 : P ≤ 4000) :
    Calls Try.prog 13 #[.int .u64 x, .int .i64 P, .bool true] w fun e w' => e = .returned (.tuple #[.int .u64 Z, .int .i64 (P - z), .bool false]) ∧ w' = w := by
  have HZ : Hid (nbits x + z = 64) := hz
  clear hz
  have hz9 : ((z : Int) == 0) = false := by rw [beq_eq_false_iff_ne]; omega
  go_enter Try.func13, Try.ntmps13
  go_wp2_with (go_at_call 25; with_reducible refine (lz_any x z _ hx HZ.out).mono ?_; rintro e wq ⟨rfl, hq⟩; subst wq)
  go_ret3
  exact ⟨rfl, rfl⟩
end Go.Proofs.Ytkmefmgicbohnaa
namespace Go.Proofs.Ytkmefmgicbohnaa
open Go.RowKit

/-- what raised gives, by what it is worth -/
theorem rai_any (x : Nat) (P : Int) (mo : Bool) (w : World) (hx : x < 18446744073709551616) (h0 : x ≠ 0 ∨ mo = true) (hP : -4000 ≤ P) (hP2 : P ≤ 3000) :
    Calls Try.prog 13 #[.int .u64 x, .int .i64 P, .bool mo] w fun e w' => (∃ (M : Nat) (P' : Int) (mo' : Bool), e = .returned (.tuple #[.int .u64 M, .int .i64 P', .bool mo']) ∧ 9223372036854775808 ≤ M ∧ M < 18446744073709551616 ∧ P - 64 ≤ P' ∧ P' ≤ P ∧ rg Ieee.single (2 * M + mo'.toNat) (P' - 1) = rg Ieee.single (2 * x + mo.toNat) (P - 1)) ∧ w' = w := by
  have hp64 : (2 : Nat) ^ 64 = 18446744073709551616 := by decide
  have hp63 : (2 : Nat) ^ 63 = 9223372036854775808 := by decide
  have hnb : nbits x ≤ 64 := by
    by_cases hx0 : x = 0
    · subst hx0; decide
    · obtain ⟨b1, b2, b3⟩ := nb_bounds x hx0
      have c1 := (Nat.pow_lt_pow_iff_right (a := 2) (by decide)).1 (Nat.lt_of_le_of_lt b1 (show x < 2 ^ 64 by omega))
      omega
  by_cases h64 : nbits x = 64
  · refine (rai_0 x P mo w hx h64).mono fun e w' ⟨he, hw⟩ => ⟨⟨x, P, mo, he, ?_, hx, by omega, by omega, rfl⟩, hw⟩
    have hx0 : x ≠ 0 := by intro h; subst h; revert h64; decide
    obtain ⟨b1, b2, b3⟩ := nb_bounds x hx0
    rw [h64] at b1
    omega
  obtain ⟨z, hz⟩ : ∃ z, nbits x + z = 64 := ⟨64 - nbits x, by omega⟩
  have hxb : x < 2 ^ nbits x := by
    by_cases hx0 : x = 0
    · subst hx0; decide
    · exact (nb_bounds x hx0).2.1
  have hY : x * 2 ^ z + 2 ^ z ≤ 18446744073709551616 := by
    have h1 : (x + 1) * 2 ^ z ≤ 2 ^ nbits x * 2 ^ z := Nat.mul_le_mul_right _ hxb
    rw [← Nat.pow_add, hz, hp64, Nat.succ_mul] at h1
    exact h1
  have hpz := Nat.two_pow_pos z
  have hh : 2 ^ z = 2 * 2 ^ (z - 1) := by rw [← Nat.pow_succ', show (z - 1).succ = z by omega]
  have e1 : IntKind.u64.wrap ((x : Int) * 2 ^ z) = ((x * 2 ^ z : Nat) : Int) := by
    rw [IntKind.wrap_u64, show (x : Int) * 2 ^ z = ((x * 2 ^ z : Nat) : Int) by simp]
    generalize x * 2 ^ z = t at *
    omega
  have hlow : x ≠ 0 → 9223372036854775808 ≤ x * 2 ^ z := by
    intro hx0
    obtain ⟨b1, b2, b3⟩ := nb_bounds x hx0
    have h1 : 2 ^ (nbits x - 1) * 2 ^ z ≤ x * 2 ^ z := Nat.mul_le_mul_right _ b1
    rw [← Nat.pow_add, show nbits x - 1 + z = 63 by omega, hp63] at h1
    exact h1
  cases mo with
  | false =>
    have hx0 : x ≠ 0 := by simpa using h0
    refine (rai_f x z (x * 2 ^ z) P w hx hz (by omega) (by omega) e1 (by omega) (by omega)).mono fun e w' ⟨he, hw⟩ => ⟨⟨x * 2 ^ z, P - z, false, he, hlow hx0, by omega, by omega, by omega, ?_⟩, hw⟩
    have := rg_shift Ieee.single (by decide) (2 * x) z (P - 1)
    rw [show P - 1 - (z : Int) = P - z - 1 by omega, Nat.mul_assoc] at this
    exact this
  | true =>
    have hor : x * 2 ^ z ||| 2 ^ (z - 1) = x * 2 ^ z + 2 ^ (z - 1) := by
      have := (Nat.shiftLeft_add_eq_or_of_lt (i := z) (b := 2 ^ (z - 1)) (by have := Nat.two_pow_pos (z - 1); omega) x).symm
      rw [Nat.shiftLeft_eq] at this
      exact this
    have hb1 := Nat.two_pow_pos (z - 1)
    have hYl : x * 2 ^ z + 2 ^ (z - 1) < 18446744073709551616 := by
      generalize x * 2 ^ z = t at *
      generalize 2 ^ (z - 1) = u at *
      omega
    have e2 : bits .or .u64 ((x * 2 ^ z : Nat) : Int) (IntKind.u64.wrap (2 ^ (z - 1))) = ((x * 2 ^ z + 2 ^ (z - 1) : Nat) : Int) := by
      rw [u64_pow (z - 1) (by omega), u64_or_nat _ _ (Nat.lt_of_le_of_lt (Nat.le_add_right _ _) hYl) (Nat.lt_of_le_of_lt (Nat.le_add_left _ _) hYl), hor]
    refine (rai_t x z (x * 2 ^ z) (x * 2 ^ z + 2 ^ (z - 1)) P w hx hz (by omega) (by omega) e1 e2 (by omega) (by omega)).mono fun e w' ⟨he, hw⟩ => ⟨⟨x * 2 ^ z + 2 ^ (z - 1), P - z, false, he, ?_, hYl, by omega, by omega, ?_⟩, hw⟩
    · by_cases hx0 : x = 0
      · subst hx0
        have : z = 64 := by have : nbits 0 = 0 := by decide
                            omega
        subst this
        decide
      · exact Nat.le_trans (hlow hx0) (Nat.le_add_right _ _)
    · have := rg_shift Ieee.single (by decide) (2 * x + 1) z (P - 1)
      rw [show P - 1 - (z : Int) = P - z - 1 by omega] at this
      rw [show 2 * (x * 2 ^ z + 2 ^ (z - 1)) + false.toNat = (2 * x + 1) * 2 ^ z from ?_]
      · exact this
      · rw [Nat.add_mul, Nat.mul_assoc, Nat.one_mul, Nat.mul_add, ← hh]; rfl
theorem hid_mk {p : Prop} (h : p) : Hid p := h
theorem nst_r (M : Nat) (P : Int) (mo : Bool) (r : Nat) (w : World) (h1 : 9223372036854775808 ≤ M) (h2 : M < 18446744073709551616) (hP : -4000 ≤ P) (hP2 : P ≤ 4000) (hr : rg Ieee.single (2 * M + mo.toNat) (P - 1) = r) :
    Calls Try.prog 14 #[.int .u64 M, .int .i64 P, .bool mo] w fun e w' => e = .returned (.int .u32 (min r 2139095040 : Nat)) ∧ w' = w := by
  have := nst_any M P mo w h1 h2 hP hP2
  rw [hr] at this
  exact this
/-- a power that is far is held -/
def clp (P : Int) : Int := max (-1000) (min P 1000)
set_option maxRecDepth 100000 in
set_option maxHeartbeats 1000000 in
theorem pround_0 (m : Bool) (P : Int) (w : World) :
    Calls Try.prog 6 #[.bool m, .int .u64 0, .int .i64 P, .bool false] w fun e w' => e = .returned (.int .u32 (wrd m 0 : Nat)) ∧ w' = w := by
  have c : ∀ w, Calls Try.prog 12 #[.bool m, .int .u32 0] w fun e w' => e = .returned (.int .u32 (wrd m 0 : Nat)) ∧ w' = w := fun w => sgn_any m 0 w (by decide)
  go_enter Try.func6, Try.ntmps6
  go_wp2_with (go_at_call 12; with_reducible refine (c _).mono ?_; rintro e wq ⟨rfl, hq⟩; subst wq)
  go_ret
  exact ⟨rfl, rfl⟩
set_option maxRecDepth 100000 in
set_option maxHeartbeats 1000000 in
theorem pround_n (m : Bool) (x : Nat) (P : Int) (mo : Bool) (w : World) (hx : x < 18446744073709551616) (h0 : ((x : Int) == 0 && !mo) = false) (hP : -9223372036854775808 ≤ P) (hP2 : P ≤ 9223372036854775807) :
    Calls Try.prog 6 #[.bool m, .int .u64 x, .int .i64 P, .bool mo] w fun e w' => e = .returned (.int .u32 (wrd m (min (rg Ieee.single (2 * x + mo.toNat) (clp P - 1)) 2139095040) : Nat)) ∧ w' = w := by
  have h0' : x ≠ 0 ∨ mo = true := by
    by_cases hx0 : x = 0
    · subst hx0; right; simpa using h0
    · exact Or.inl hx0
  have hc : max (-1000) (min P 1000) = clp P := rfl
  obtain ⟨Q, hQ⟩ : ∃ Q, clp P = Q := ⟨_, rfl⟩
  have hb : -1000 ≤ Q ∧ Q ≤ 1000 := by unfold clp at hQ; omega
  rw [hQ] at hc ⊢
  have HR := fun w => rai_any x Q mo w hx h0' (by omega) (by omega)
  clear hQ
  generalize rg Ieee.single (2 * x + mo.toNat) (Q - 1) = r at *
  cases mo with
  | false =>
    have hx0 : ((x : Int) == 0) = false := by simpa using h0
    clear h0 h0'
    go_enter Try.func6, Try.ntmps6
    go_wp2_with (first
      | (go_at_call 13; with_reducible refine (HR _).mono ?_; rintro e wq ⟨⟨M1, P1, mo1, rfl, g1, g2, g3, g4, g5⟩, hq⟩; subst wq; replace g5 := hid_mk g5)
      | (go_at_call 14; with_reducible refine (nst_r M1 P1 mo1 r _ g1 g2 (by omega) (by omega) g5.out).mono ?_; rintro e wq ⟨rfl, hq⟩; subst wq)
      | (go_at_call 12; with_reducible refine (sgn_any m _ _ (Nat.lt_of_le_of_lt (Nat.min_le_right _ _) (by decide))).mono ?_; rintro e wq ⟨rfl, hq⟩; subst wq))
    go_ret
    exact ⟨rfl, rfl⟩
  | true =>
    clear h0 h0'
    by_cases hx0 : x = 0
    · subst hx0
      simp only [show ((0 : Nat) : Int) = 0 from rfl] at HR
      go_enter Try.func6, Try.ntmps6
      go_wp2_with (first
        | (go_at_call 13; with_reducible refine (HR _).mono ?_; rintro e wq ⟨⟨M1, P1, mo1, rfl, g1, g2, g3, g4, g5⟩, hq⟩; subst wq; replace g5 := hid_mk g5)
        | (go_at_call 14; with_reducible refine (nst_r M1 P1 mo1 r _ g1 g2 (by omega) (by omega) g5.out).mono ?_; rintro e wq ⟨rfl, hq⟩; subst wq)
        | (go_at_call 12; with_reducible refine (sgn_any m _ _ (Nat.lt_of_le_of_lt (Nat.min_le_right _ _) (by decide))).mono ?_; rintro e wq ⟨rfl, hq⟩; subst wq))
      go_ret
      exact ⟨rfl, rfl⟩
    · have hx0' : ((x : Int) == 0) = false := by rw [beq_eq_false_iff_ne]; omega
      clear hx0
      go_enter Try.func6, Try.ntmps6
      go_wp2_with (first
        | (go_at_call 13; with_reducible refine (HR _).mono ?_; rintro e wq ⟨⟨M1, P1, mo1, rfl, g1, g2, g3, g4, g5⟩, hq⟩; subst wq; replace g5 := hid_mk g5)
        | (go_at_call 14; with_reducible refine (nst_r M1 P1 mo1 r _ g1 g2 (by omega) (by omega) g5.out).mono ?_; rintro e wq ⟨rfl, hq⟩; subst wq)
        | (go_at_call 12; with_reducible refine (sgn_any m _ _ (Nat.lt_of_le_of_lt (Nat.min_le_right _ _) (by decide))).mono ?_; rintro e wq ⟨rfl, hq⟩; subst wq))
      go_ret
      exact ⟨rfl, rfl⟩
end Go.Proofs.Ytkmefmgicbohnaa
namespace Go.Proofs.Ytkmefmgicbohnaa
open Go.RowKit

theorem pround_any (m : Bool) (x : Nat) (P : Int) (mo : Bool) (w : World) (hx : x < 18446744073709551616) (hP : -9223372036854775808 ≤ P) (hP2 : P ≤ 9223372036854775807) :
    Calls Try.prog 6 #[.bool m, .int .u64 x, .int .i64 P, .bool mo] w fun e w' => e = .returned (.int .u32 (wrd m (min (rg Ieee.single (2 * x + mo.toNat) (clp P - 1)) 2139095040) : Nat)) ∧ w' = w := by
  cases h0 : ((x : Int) == 0 && !mo) with
  | false => exact pround_n m x P mo w hx h0 hP hP2
  | true =>
    have h1 : x = 0 ∧ mo = false := by simpa using h0
    obtain ⟨rfl, rfl⟩ := h1
    have e : rg Ieee.single (2 * 0 + false.toNat) (clp P - 1) = 0 := by unfold rg; rw [if_pos (by decide)]
    rw [e]
    exact pround_0 m P w
theorem rnd_b (m : Bool) (v : Value) (x : Nat) (Q : Int) (mo : Bool) (r : Nat) (w : World) (h : NatV w v x) (hx : x < 18446744073709551616) (hP : -1000 ≤ Q) (hP2 : Q ≤ 1000) (hr : rg Ieee.single (2 * x + mo.toNat) (Q - 1) = r) :
    Calls Try.prog 16 #[.agg #[.int .i64 24, .int .i64 (-149), .int .i64 104], .bool m, v, .int .i64 Q, .bool mo] w fun e w' => (∃ n p, e = .returned (hdV m n p) ∧ Fits n p r) ∧ Below w.heap.size w w' := by
  have hp64 : (2 : Nat) ^ 64 = 18446744073709551616 := by decide
  cases mo with
  | false =>
    have := rg_shift Ieee.single (by decide) x 1 Q
    rw [show x * 2 ^ 1 = 2 * x by omega] at this
    have hr' : rg Ieee.single x Q = r := by rw [← this]; exact hr
    have := rnd_nw m v x 2 Q w h (by rw [show 32 * 2 = 64 from rfl]; omega) (by omega) (by omega) (by omega)
    rw [hr'] at this
    exact this
  | true =>
    have hx5 : x < 2 ^ (32 * 6) := Nat.lt_of_lt_of_le (show x < 2 ^ 64 by omega) (Nat.pow_le_pow_right (by decide) (by decide))
    have hnl : nbits (2 * x + 1) ≤ 4000 := by
      obtain ⟨b1, b2, b3⟩ := nb_bounds (2 * x + 1) (by omega)
      have hp65 : (2 : Nat) ^ 65 = 36893488147419103232 := by decide
      have c1 := (Nat.pow_lt_pow_iff_right (a := 2) (by decide)).1 (Nat.lt_of_le_of_lt b1 (show 2 * x + 1 < 2 ^ 65 by omega))
      omega
    have := rndM_any m v x (2 * x + 1) Q (Q - 1) w h hx5 (by omega) rfl hnl (by omega) (by omega)
    rw [show rg Ieee.single (2 * x + 1) (Q - 1) = r from hr] at this
    exact this
set_option maxRecDepth 100000 in
set_option maxHeartbeats 1000000 in
theorem rround_m (m : Bool) (x : Nat) (P : Int) (mo : Bool) (r : Nat) (w : World) (hx : x < 18446744073709551616) (hP : -1000 ≤ P) (hP2 : P ≤ 1000) (hr : rg Ieee.single (2 * x + mo.toNat) (P - 1) = r) :
    Calls Try.prog 7 #[.bool m, .int .u64 x, .int .i64 P, .bool mo] w fun e w' => e = .returned (.int .u32 (wrd m (min r 2139095040) : Nat)) ∧ Below w.heap.size w w' := by
  have HB : Below w.heap.size w w := Below.refl _ _
  have HR : Hid (rg Ieee.single (2 * x + mo.toNat) (P - 1) = r) := hr
  clear hr
  go_enter Try.func7, Try.ntmps7
  go_wp2_with (first
    | (go_at_call 17; refine (form_any _).mono ?_; rintro e wq ⟨rfl, hq⟩; subst wq)
    | (go_at_call 18; with_reducible refine (nat_any x _ (by omega)).mono ?_; rintro e w1 ⟨⟨v1, rfl, hv1⟩, h1⟩; replace HB : Below w.heap.size w w1 := bt2 h1 (by (repeat (first | exact HB | exact Below.refl _ _ | with_reducible refine bel ?_ | with_reducible refine Below.drew ?_ | with_reducible refine bt3 ?_))))
    | (go_at_call 16; with_reducible refine (rnd_b m v1 x P mo r _ hv1 (by omega) (by omega) (by omega) HR.out).mono ?_; rintro e w2 ⟨⟨n9, p9, rfl, hf9⟩, h2⟩; replace HB : Below w.heap.size w w2 := bt2 h2 (by (repeat (first | exact HB | exact Below.refl _ _ | with_reducible refine bel ?_ | with_reducible refine Below.drew ?_ | with_reducible refine bt3 ?_))))
    | (go_at_call 15; with_reducible refine (lay_any m n9 p9 _ _ hf9).mono ?_; rintro e w3 ⟨rfl, h3⟩; replace HB : Below w.heap.size w w3 := bt2 h3 (by (repeat (first | exact HB | exact Below.refl _ _ | with_reducible refine bel ?_ | with_reducible refine Below.drew ?_ | with_reducible refine bt3 ?_)))))
  go_ret
  exact ⟨rfl, HB⟩
set_option maxRecDepth 100000 in
set_option maxHeartbeats 1000000 in
theorem rround_h (m : Bool) (x : Nat) (P : Int) (mo : Bool) (r : Nat) (w : World) (hx : x < 18446744073709551616) (hP : 1000 < P) (hr : rg Ieee.single (2 * x + mo.toNat) (1000 - 1) = r) :
    Calls Try.prog 7 #[.bool m, .int .u64 x, .int .i64 P, .bool mo] w fun e w' => e = .returned (.int .u32 (wrd m (min r 2139095040) : Nat)) ∧ Below w.heap.size w w' := by
  have HB : Below w.heap.size w w := Below.refl _ _
  have HR : Hid (rg Ieee.single (2 * x + mo.toNat) (1000 - 1) = r) := hr
  clear hr
  go_enter Try.func7, Try.ntmps7
  go_wp2_with (first
    | (go_at_call 17; refine (form_any _).mono ?_; rintro e wq ⟨rfl, hq⟩; subst wq)
    | (go_at_call 18; with_reducible refine (nat_any x _ (by omega)).mono ?_; rintro e w1 ⟨⟨v1, rfl, hv1⟩, h1⟩; replace HB : Below w.heap.size w w1 := bt2 h1 (by (repeat (first | exact HB | exact Below.refl _ _ | with_reducible refine bel ?_ | with_reducible refine Below.drew ?_ | with_reducible refine bt3 ?_))))
    | (go_at_call 16; with_reducible refine (rnd_b m v1 x 1000 mo r _ hv1 (by omega) (by omega) (by omega) HR.out).mono ?_; rintro e w2 ⟨⟨n9, p9, rfl, hf9⟩, h2⟩; replace HB : Below w.heap.size w w2 := bt2 h2 (by (repeat (first | exact HB | exact Below.refl _ _ | with_reducible refine bel ?_ | with_reducible refine Below.drew ?_ | with_reducible refine bt3 ?_))))
    | (go_at_call 15; with_reducible refine (lay_any m n9 p9 _ _ hf9).mono ?_; rintro e w3 ⟨rfl, h3⟩; replace HB : Below w.heap.size w w3 := bt2 h3 (by (repeat (first | exact HB | exact Below.refl _ _ | with_reducible refine bel ?_ | with_reducible refine Below.drew ?_ | with_reducible refine bt3 ?_)))))
  go_ret
  exact ⟨rfl, HB⟩
set_option maxRecDepth 100000 in
set_option maxHeartbeats 1000000 in
theorem rround_l (m : Bool) (x : Nat) (P : Int) (mo : Bool) (r : Nat) (w : World) (hx : x < 18446744073709551616) (hP : P < -1000) (hr : rg Ieee.single (2 * x + mo.toNat) (-1000 - 1) = r) :
    Calls Try.prog 7 #[.bool m, .int .u64 x, .int .i64 P, .bool mo] w fun e w' => e = .returned (.int .u32 (wrd m (min r 2139095040) : Nat)) ∧ Below w.heap.size w w' := by
  have HB : Below w.heap.size w w := Below.refl _ _
  have HR : Hid (rg Ieee.single (2 * x + mo.toNat) (-1000 - 1) = r) := hr
  clear hr
  go_enter Try.func7, Try.ntmps7
  go_wp2_with (first
    | (go_at_call 17; refine (form_any _).mono ?_; rintro e wq ⟨rfl, hq⟩; subst wq)
    | (go_at_call 18; with_reducible refine (nat_any x _ (by omega)).mono ?_; rintro e w1 ⟨⟨v1, rfl, hv1⟩, h1⟩; replace HB : Below w.heap.size w w1 := bt2 h1 (by (repeat (first | exact HB | exact Below.refl _ _ | with_reducible refine bel ?_ | with_reducible refine Below.drew ?_ | with_reducible refine bt3 ?_))))
    | (go_at_call 16; with_reducible refine (rnd_b m v1 x (-1000) mo r _ hv1 (by omega) (by omega) (by omega) HR.out).mono ?_; rintro e w2 ⟨⟨n9, p9, rfl, hf9⟩, h2⟩; replace HB : Below w.heap.size w w2 := bt2 h2 (by (repeat (first | exact HB | exact Below.refl _ _ | with_reducible refine bel ?_ | with_reducible refine Below.drew ?_ | with_reducible refine bt3 ?_))))
    | (go_at_call 15; with_reducible refine (lay_any m n9 p9 _ _ hf9).mono ?_; rintro e w3 ⟨rfl, h3⟩; replace HB : Below w.heap.size w w3 := bt2 h3 (by (repeat (first | exact HB | exact Below.refl _ _ | with_reducible refine bel ?_ | with_reducible refine Below.drew ?_ | with_reducible refine bt3 ?_)))))
  go_ret
  exact ⟨rfl, HB⟩
theorem rround_any (m : Bool) (x : Nat) (P : Int) (mo : Bool) (w : World) (hx : x < 18446744073709551616) :
    Calls Try.prog 7 #[.bool m, .int .u64 x, .int .i64 P, .bool mo] w fun e w' => e = .returned (.int .u32 (wrd m (min (rg Ieee.single (2 * x + mo.toNat) (clp P - 1)) 2139095040) : Nat)) ∧ Below w.heap.size w w' := by
  by_cases h1 : 1000 < P
  · rw [show clp P = 1000 by unfold clp; omega]
    exact rround_h m x P mo _ w hx h1 rfl
  by_cases h2 : P < -1000
  · rw [show clp P = -1000 by unfold clp; omega]
    exact rround_l m x P mo _ w hx h2 rfl
  rw [show clp P = P by unfold clp; omega]
  exact rround_m m x P mo _ w hx (by omega) (by omega) rfl
end Go.Proofs.Ytkmefmgicbohnaa
namespace Go.Proofs.Ytkmefmgicbohnaa
open Go.RowKit

abbrev eV (m : Bool) (x P : Int) (mo : Bool) : Obj := .cells #[.bool m, .int .u64 x, .int .i64 P, .bool mo] 24
theorem gE {w W : World} {m mo : Bool} {x P : Int} (h : Below (w.alloc (eV m x P mo)).heap.size (w.alloc (eV m x P mo)) W) :
    W.cell? ⟨w.heap.size, 0, none⟩ = some (.bool m) ∧ W.cell? ⟨w.heap.size, 1, none⟩ = some (.int .u64 x) ∧ W.cell? ⟨w.heap.size, 2, none⟩ = some (.int .i64 P) ∧ W.cell? ⟨w.heap.size, 3, none⟩ = some (.bool mo) := by
  refine ⟨?_, ?_, ?_, ?_⟩
  · exact (h.cell (p := ⟨w.heap.size, 0, none⟩) (by simp only [sz1]; omega)).trans (World.cell?_alloc_new _ _ _ _)
  · exact (h.cell (p := ⟨w.heap.size, 1, none⟩) (by simp only [sz1]; omega)).trans (World.cell?_alloc_new _ _ _ _)
  · exact (h.cell (p := ⟨w.heap.size, 2, none⟩) (by simp only [sz1]; omega)).trans (World.cell?_alloc_new _ _ _ _)
  · exact (h.cell (p := ⟨w.heap.size, 3, none⟩) (by simp only [sz1]; omega)).trans (World.cell?_alloc_new _ _ _ _)
set_option maxRecDepth 100000 in
set_option maxHeartbeats 4000000 in
theorem singlerounds (m : Bool) (x : Nat) (P : Int) (mo : Bool) (w : World) (hx : x < 18446744073709551616) (hP : -9223372036854775808 ≤ P) (hP2 : P ≤ 9223372036854775807) :
    Calls Try.prog 3 #[.agg #[.bool m, .int .u64 x, .int .i64 P, .bool mo]] w fun e w' => e = .returned (.bool true) ∧ Below w.heap.size w w' := by
  obtain ⟨rr, hrr⟩ : ∃ rr, wrd m (min (rg Ieee.single (2 * x + mo.toNat) (clp P - 1)) 2139095040) = rr := ⟨_, rfl⟩
  have H1 := fun w => pround_any m x P mo w hx hP hP2
  have H2 := fun w => rround_any m x P mo w hx
  rw [hrr] at H1 H2
  clear hrr
  go_enter Try.func3, Try.ntmps3
  go_wp2
  have HB : Below (w.alloc (eV m x P mo)).heap.size (w.alloc (eV m x P mo)) (w.alloc (eV m x P mo)) := Below.refl _ _
  go_region_held3 (fun w' => w'.cell? ⟨w.heap.size, 0, none⟩ = some (.bool m) ∧ w'.cell? ⟨w.heap.size, 1, none⟩ = some (.int .u64 (x : Nat)) ∧ w'.cell? ⟨w.heap.size, 2, none⟩ = some (.int .i64 P) ∧ w'.cell? ⟨w.heap.size, 3, none⟩ = some (.bool mo)) ((refine gE ?_; (repeat (first | exact HB | exact Below.refl _ _ | with_reducible refine bel ?_ | with_reducible refine Below.drew ?_ | with_reducible refine bt3 ?_)); done)) (first
    | (go_at_call 6; with_reducible refine (H1 _).mono ?_; rintro e wq ⟨rfl, hq⟩; subst wq)
    | (go_at_call 7; with_reducible refine (H2 _).mono ?_; rintro e w1 ⟨rfl, g1⟩; replace HB : Below (w.alloc (eV m x P mo)).heap.size (w.alloc (eV m x P mo)) w1 := bt2 g1 (by (repeat (first | exact HB | exact Below.refl _ _ | with_reducible refine bel ?_ | with_reducible refine Below.drew ?_ | with_reducible refine bt3 ?_)))))
  go_wp2
  go_ret
  exact ⟨rfl, bt2 (show Below (w.alloc (eV m x P mo)).heap.size (w.alloc (eV m x P mo)) _ from by (repeat (first | exact HB | exact Below.refl _ _ | with_reducible refine bel ?_ | with_reducible refine Below.drew ?_ | with_reducible refine bt3 ?_))) (bel (Below.refl _ _))⟩
end Go.Proofs.Ytkmefmgicbohnaa
