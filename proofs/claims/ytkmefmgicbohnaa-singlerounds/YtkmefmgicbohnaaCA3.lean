import Derived.Test.YtkmefmgicbohnaaCA2
import Derived.Test.YtkmefmgicbohnaaCA1
namespace Go.Proofs.Ytkmefmgicbohnaa
open Go.RowKit

theorem nb_log (N : Nat) (h : N ≠ 0) : nbits N = N.log2 + 1 := by unfold nbits; rw [if_neg h]
theorem rne_one (n : Nat) : rne n 1 = n := by
  unfold rne
  rw [Nat.div_one, Nat.mod_one, if_neg (by omega), Nat.add_zero]
theorem last_eq (N : Nat) (h : N ≠ 0) (P K : Int) (hK : max (P + nbits N - 24) (-149) = K) : lastOf Ieee.single N P = K := by
  rw [nb_log N h] at hK
  unfold lastOf
  rw [← hK, show Ieee.single.leastPlace = -149 from rfl, show Ieee.single.fractionBits = 23 from rfl]
  congr 1
  omega
theorem rg_up (N : Nat) (h : N ≠ 0) (P K : Int) (X : Nat) (hK : max (P + nbits N - 24) (-149) = K) (hX : P - K = X) : rg Ieee.single N P = (K + 149).toNat * 8388608 + N * 2 ^ X := by
  unfold rg
  rw [if_neg h, last_eq N h P K hK, hX, show (K - P).toNat = 0 by omega, Nat.pow_zero, rne_one, Nat.shiftLeft_eq, show Ieee.single.leastPlace = -149 from rfl, show K - -149 = K + 149 by omega]
  rfl
theorem rg_dn (N : Nat) (h : N ≠ 0) (P K : Int) (D : Nat) (hK : max (P + nbits N - 24) (-149) = K) (hX : K - P = D) : rg Ieee.single N P = (K + 149).toNat * 8388608 + rne N (2 ^ D) := by
  unfold rg
  rw [if_neg h, last_eq N h P K hK, hX, show (P - K).toNat = 0 by omega, Nat.shiftLeft_eq, Nat.pow_zero, Nat.mul_one, show Ieee.single.leastPlace = -149 from rfl, show K - -149 = K + 149 by omega]
  rfl
/-- the rung of a mantissa and a power -/
def Fits (n : Nat) (p : Int) (r : Nat) : Prop := ∃ k : Nat, p = -149 + (k : Int) ∧ n < 16777216 ∧ (k = 0 ∨ 8388608 ≤ n) ∧ r = k * 8388608 + n

theorem fits_over (K : Int) (q r : Nat) (hK : -149 ≤ K) (h1 : q + 1 = 16777216) (h3 : r = (K + 149).toNat * 8388608 + (q + 1)) : Fits 8388608 (K + 1) r := by
  refine ⟨(K + 149).toNat + 1, by omega, by omega, Or.inr (Nat.le_refl _), ?_⟩
  rw [h1] at h3
  clear h1
  generalize (K + 149).toNat = t at *
  omega
theorem nb_bounds (N : Nat) (h : N ≠ 0) : 2 ^ (nbits N - 1) ≤ N ∧ N < 2 ^ nbits N ∧ 1 ≤ nbits N := by
  rw [nb_log N h]
  exact ⟨Nat.log2_self_le h, Nat.lt_log2_self, by omega⟩
theorem p24 : (2 : Nat) ^ 24 = 16777216 := rfl
theorem p23 : (2 : Nat) ^ 23 = 8388608 := rfl

set_option maxHeartbeats 1000000 in
theorem rnd_any (m : Bool) (ao : Option Addr) (cap : Nat) (zs : List Nat) (P : Int) (w : World) (hl : zs.length ≤ 100) (hr : ReadsU w ao zs w.heap.size) (hW : Words zs) (hN : Norm zs) (hP : -5000 ≤ P) (hP2 : P ≤ 5000) :
    Calls Try.prog 16 #[.agg #[.int .i64 24, .int .i64 (-149), .int .i64 104], .bool m, .slice ao zs.length cap, .int .i64 P, .bool false] w fun e w' => (∃ n p, e = .returned (hdV m n p) ∧ Fits n p (rg Ieee.single (nv zs) P)) ∧ Below w.heap.size w w' := by
  by_cases hz : zs.length = 0
  · have e0 : nv zs = 0 := by rw [List.length_eq_zero_iff.1 hz]; rfl
    refine (rnd0 m ao cap zs P w hz).mono fun e w' ⟨he, hb⟩ => ⟨⟨0, -149, he, 0, by omega, by omega, Or.inl rfl, ?_⟩, hb⟩
    rw [e0]; unfold rg; rw [if_pos rfl]
  have h0 : nv zs ≠ 0 := by
    intro h
    have := norm_len hN 0 (by rw [h]; decide)
    omega
  obtain ⟨b1, b2, b3⟩ := nb_bounds (nv zs) h0
  have hnl : nbits (nv zs) ≤ 4000 := by
    have h1 := nv_lt hW
    have h2 : (4294967296 : Nat) ^ zs.length = 2 ^ (32 * zs.length) := by rw [show (4294967296 : Nat) = 2 ^ 32 from rfl, ← Nat.pow_mul]
    rw [h2] at h1
    have := (Nat.pow_lt_pow_iff_right (a := 2) (by decide)).1 (Nat.lt_of_le_of_lt b1 h1)
    omega
  obtain ⟨nb, hnb⟩ : ∃ nb, nbits (nv zs) = nb := ⟨_, rfl⟩
  obtain ⟨K, hK⟩ : ∃ K, max (P + nbits (nv zs) - 24) (-149) = K := ⟨_, rfl⟩
  by_cases hKP : K ≤ P
  · obtain ⟨X, hX⟩ : ∃ X : Nat, P - K = X := ⟨(P - K).toNat, by omega⟩
    have hrg := rg_up (nv zs) h0 P K X hK hX
    rw [hnb] at hK b1 b2 b3 hnl
    have hMX : nv zs * 2 ^ X < 16777216 := by
      have h1 : nv zs * 2 ^ X < 2 ^ nb * 2 ^ X := Nat.mul_lt_mul_of_pos_right b2 (Nat.two_pow_pos _)
      rw [← Nat.pow_add] at h1
      have h2 : 2 ^ (nb + X) ≤ 2 ^ 24 := Nat.pow_le_pow_right (by decide) (by omega)
      rw [p24] at h2
      omega
    by_cases hA : P + nb - 24 < -149
    · obtain rfl : K = -149 := by omega
      refine (rnd1a m ao cap zs P nb X _ w hl hr hW hN hz hnb hnl hP hP2 hA hX rfl (by omega)).mono fun e w' ⟨he, hb⟩ => ⟨⟨_, _, he, 0, by omega, hMX, Or.inl rfl, ?_⟩, hb⟩
      rw [hrg, show ((-149 : Int) + 149).toNat = 0 from rfl]
    · have hK2 : P + nb - 24 = K := by omega
      refine (rnd1b m ao cap zs P nb X _ K w hl hr hW hN hz hnb hnl hP hP2 hA hK2 hKP hX rfl (by omega)).mono fun e w' ⟨he, hb⟩ => ⟨⟨_, _, he, (K + 149).toNat, by omega, hMX, Or.inr ?_, hrg⟩, hb⟩
      have h1 : 2 ^ (nb - 1) * 2 ^ X ≤ nv zs * 2 ^ X := Nat.mul_le_mul_right _ b1
      rw [← Nat.pow_add, show nb - 1 + X = 23 by omega, p23] at h1
      exact h1
  · obtain ⟨D, hD⟩ : ∃ D : Nat, K - P = D := ⟨(K - P).toNat, by omega⟩
    have hrg := rg_dn (nv zs) h0 P K D hK hD
    rw [hnb] at hK b1 b2 b3 hnl
    by_cases hDn : D ≤ nb + 1
    · have hql : nv zs / 2 ^ D < 16777216 := by
        rw [Nat.div_lt_iff_lt_mul (Nat.two_pow_pos D), ← p24, ← Nat.pow_add]
        exact Nat.lt_of_lt_of_le b2 (Nat.pow_le_pow_right (by decide) (by omega))
      have hqg : ¬ P + nb - 24 < -149 → 8388608 ≤ nv zs / 2 ^ D := by
        intro h
        rw [Nat.le_div_iff_mul_le (Nat.two_pow_pos D), ← p23, ← Nat.pow_add]
        exact Nat.le_trans (Nat.pow_le_pow_right (by decide) (by omega)) b1
      obtain ⟨q, hq⟩ : ∃ q, nv zs / 2 ^ D = q := ⟨_, rfl⟩
      obtain ⟨R, hR⟩ : ∃ R, nv zs % 2 ^ D = R := ⟨_, rfl⟩
      obtain ⟨half, hh⟩ : ∃ half, 2 ^ (D - 1) = half := ⟨_, rfl⟩
      have h2h : 2 ^ D = 2 * half := by rw [← hh, ← Nat.pow_succ']; congr 1; omega
      have hR2 : nv zs - q * 2 ^ D = R := by
        have := Nat.div_add_mod (nv zs) (2 ^ D)
        rw [hq, hR, Nat.mul_comm] at this
        omega
      have hrn : rne (nv zs) (2 ^ D) = q + (if half < R ∨ (R = half ∧ q % 2 = 1) then 1 else 0) := by
        unfold rne
        rw [hq, hR, h2h]
        congr 1
        have hc : (2 * half < 2 * R ∨ 2 * half = 2 * R ∧ q % 2 = 1) ↔ (half < R ∨ (R = half ∧ q % 2 = 1)) := by omega
        by_cases c : half < R ∨ (R = half ∧ q % 2 = 1)
        · rw [if_pos c, if_pos (hc.2 c)]
        · rw [if_neg c, if_neg (fun x => c (hc.1 x))]
      rw [hrn] at hrg
      rw [hq] at hql hqg
      have hfit : ∀ n : Nat, n < 16777216 → (¬ P + nb - 24 < -149 → 8388608 ≤ n) → rg Ieee.single (nv zs) P = (K + 149).toNat * 8388608 + n → Fits n K (rg Ieee.single (nv zs) P) := by
        intro n h1 h2 h3
        refine ⟨(K + 149).toNat, by omega, h1, ?_, h3⟩
        by_cases hA : P + nb - 24 < -149
        · left; omega
        · exact Or.inr (h2 hA)
      have hfit2 : q + 1 = 16777216 → rg Ieee.single (nv zs) P = (K + 149).toNat * 8388608 + (q + 1) → Fits 8388608 (K + 1) (rg Ieee.single (nv zs) P) := by
        intro h1 h3
        exact fits_over K q _ (by omega) h1 h3
      by_cases hA : P + nb - 24 < -149
      · have hK2 : -149 = K := by omega
        by_cases c1 : half < R
        · rw [if_pos (Or.inl c1)] at hrg
          by_cases ho : q + 1 = 16777216
          · exact (rnd3Lgo m ao cap zs P nb D q R half K w hl hr hW hN hz hnb hnl hP hP2 hA hK2 (by omega) hD hDn hq hql hR2 hh c1 ho).mono fun e w' ⟨he, hb⟩ => ⟨⟨_, _, he, hfit2 ho hrg⟩, hb⟩
          · exact (rnd3Lg m ao cap zs P nb D q R half K w hl hr hW hN hz hnb hnl hP hP2 hA hK2 (by omega) hD hDn hq hql hR2 hh c1 _ rfl ho).mono fun e w' ⟨he, hb⟩ => ⟨⟨_, _, he, hfit (q + 1) (by omega) (fun h => absurd hA h) hrg⟩, hb⟩
        by_cases c2 : R = half
        · by_cases c3 : q % 2 = 1
          · rw [if_pos (Or.inr ⟨c2, c3⟩)] at hrg
            by_cases ho : q + 1 = 16777216
            · exact (rnd3Lxo m ao cap zs P nb D q R half K w hl hr hW hN hz hnb hnl hP hP2 hA hK2 (by omega) hD hDn hq hql hR2 hh c2 c3 ho).mono fun e w' ⟨he, hb⟩ => ⟨⟨_, _, he, hfit2 ho hrg⟩, hb⟩
            · exact (rnd3Lx m ao cap zs P nb D q R half K w hl hr hW hN hz hnb hnl hP hP2 hA hK2 (by omega) hD hDn hq hql hR2 hh c2 c3 _ rfl ho).mono fun e w' ⟨he, hb⟩ => ⟨⟨_, _, he, hfit (q + 1) (by omega) (fun h => absurd hA h) hrg⟩, hb⟩
          · rw [if_neg (by omega), Nat.add_zero] at hrg
            exact (rnd3Le m ao cap zs P nb D q R half K w hl hr hW hN hz hnb hnl hP hP2 hA hK2 (by omega) hD hDn hq hql hR2 hh c2 (by omega)).mono fun e w' ⟨he, hb⟩ => ⟨⟨_, _, he, hfit q hql hqg hrg⟩, hb⟩
        · rw [if_neg (by omega), Nat.add_zero] at hrg
          exact (rnd3Ll m ao cap zs P nb D q R half K w hl hr hW hN hz hnb hnl hP hP2 hA hK2 (by omega) hD hDn hq hql hR2 hh (by omega)).mono fun e w' ⟨he, hb⟩ => ⟨⟨_, _, he, hfit q hql hqg hrg⟩, hb⟩
      · have hK2 : P + nb - 24 = K := by omega
        have hg := hqg hA
        by_cases c1 : half < R
        · rw [if_pos (Or.inl c1)] at hrg
          by_cases ho : q + 1 = 16777216
          · exact (rnd3Hgo m ao cap zs P nb D q R half K w hl hr hW hN hz hnb hnl hP hP2 hA hK2 (by omega) hD hDn hq hql hR2 hh c1 ho).mono fun e w' ⟨he, hb⟩ => ⟨⟨_, _, he, hfit2 ho hrg⟩, hb⟩
          · exact (rnd3Hg m ao cap zs P nb D q R half K w hl hr hW hN hz hnb hnl hP hP2 hA hK2 (by omega) hD hDn hq hql hR2 hh c1 _ rfl ho).mono fun e w' ⟨he, hb⟩ => ⟨⟨_, _, he, hfit (q + 1) (by omega) (fun _ => by omega) hrg⟩, hb⟩
        by_cases c2 : R = half
        · by_cases c3 : q % 2 = 1
          · rw [if_pos (Or.inr ⟨c2, c3⟩)] at hrg
            by_cases ho : q + 1 = 16777216
            · exact (rnd3Hxo m ao cap zs P nb D q R half K w hl hr hW hN hz hnb hnl hP hP2 hA hK2 (by omega) hD hDn hq hql hR2 hh c2 c3 ho).mono fun e w' ⟨he, hb⟩ => ⟨⟨_, _, he, hfit2 ho hrg⟩, hb⟩
            · exact (rnd3Hx m ao cap zs P nb D q R half K w hl hr hW hN hz hnb hnl hP hP2 hA hK2 (by omega) hD hDn hq hql hR2 hh c2 c3 _ rfl ho).mono fun e w' ⟨he, hb⟩ => ⟨⟨_, _, he, hfit (q + 1) (by omega) (fun _ => by omega) hrg⟩, hb⟩
          · rw [if_neg (by omega), Nat.add_zero] at hrg
            exact (rnd3He m ao cap zs P nb D q R half K w hl hr hW hN hz hnb hnl hP hP2 hA hK2 (by omega) hD hDn hq hql hR2 hh c2 (by omega)).mono fun e w' ⟨he, hb⟩ => ⟨⟨_, _, he, hfit q hql hqg hrg⟩, hb⟩
        · rw [if_neg (by omega), Nat.add_zero] at hrg
          exact (rnd3Hl m ao cap zs P nb D q R half K w hl hr hW hN hz hnb hnl hP hP2 hA hK2 (by omega) hD hDn hq hql hR2 hh (by omega)).mono fun e w' ⟨he, hb⟩ => ⟨⟨_, _, he, hfit q hql hqg hrg⟩, hb⟩
    · have hA : P + nb - 24 < -149 := by omega
      have hK2 : K = -149 := by omega
      subst hK2
      refine (rnd2 m ao cap zs P nb w hl hr hW hN hz hnb hnl hP hP2 hA (by omega) (by omega)).mono fun e w' ⟨he, hb⟩ => ⟨⟨_, _, he, 0, by omega, by omega, Or.inl rfl, ?_⟩, hb⟩
      have h1 : nv zs < 2 ^ D := Nat.lt_of_lt_of_le b2 (Nat.pow_le_pow_right (by decide) (by omega))
      have h2 : 2 * nv zs < 2 ^ D := by
        have h3 : 2 ^ (nb + 1) ≤ 2 ^ D := Nat.pow_le_pow_right (by decide) (by omega)
        rw [Nat.pow_succ] at h3
        omega
      rw [hrg]
      unfold rne
      rw [Nat.div_eq_of_lt h1, Nat.mod_eq_of_lt h1, if_neg (by omega), show ((-149 : Int) + 149).toNat = 0 from rfl]
/-- the word of it -/
theorem lay_any (m : Bool) (n : Nat) (p : Int) (r : Nat) (w : World) (h : Fits n p r) :
    Calls Try.prog 15 #[hdV m n p] w fun e w' => e = .returned (.int .u32 (wrd m (min r 2139095040) : Nat)) ∧ Below w.heap.size w w' := by
  obtain ⟨k, rfl, hn, hk, rfl⟩ := h
  unfold hdV
  by_cases hp : (104 : Int) < -149 + (k : Int)
  · rw [if_pos hp, show min (k * 8388608 + n) 2139095040 = 2139095040 by omega]
    exact lay_endless m w
  · rw [if_neg hp, show min (k * 8388608 + n) 2139095040 = k * 8388608 + n by omega]
    exact lay_fin m n k w hn (by omega) hk
end Go.Proofs.Ytkmefmgicbohnaa
namespace Go.Proofs.Ytkmefmgicbohnaa
open Go.RowKit

abbrev oV (s : Int) (m : Bool) (n p : Int) : Obj := .cells #[.int .u8 s, .bool m, .int .u64 n, .int .i64 p] 39
theorem cin (w : World) (o : Obj) (p : Addr) (h : p.block < w.heap.size) : (w.alloc o).cell? p = w.cell? p := ((Below.refl w.heap.size w).alloc (Nat.le_refl _) o).cell h
theorem sz1 (w : World) (o : Obj) : (w.alloc o).heap.size = w.heap.size + 1 := by simp
theorem jF {w W : World} {sa : Int} {ma : Bool} {na pa : Int} {sb : Int} {mb : Bool} {nb pb : Int} (h : Below ((((w.alloc ob).alloc (oV sa ma na pa)).alloc (oV sb mb nb pb)).alloc oz).heap.size ((((w.alloc ob).alloc (oV sa ma na pa)).alloc (oV sb mb nb pb)).alloc oz) W) :
    W.cell? ⟨w.heap.size, 0, none⟩ = some (.int .i64 24) ∧ W.cell? ⟨w.heap.size, 1, none⟩ = some (.int .i64 (-149)) ∧ W.cell? ⟨w.heap.size, 2, none⟩ = some (.int .i64 104) ∧ W.cell? ⟨w.heap.size + 1, 0, none⟩ = some (.int .u8 sa) ∧ W.cell? ⟨w.heap.size + 1, 1, none⟩ = some (.bool ma) ∧ W.cell? ⟨w.heap.size + 1, 2, none⟩ = some (.int .u64 na) ∧ W.cell? ⟨w.heap.size + 1, 3, none⟩ = some (.int .i64 pa) ∧ W.cell? ⟨w.heap.size + 1 + 1, 0, none⟩ = some (.int .u8 sb) ∧ W.cell? ⟨w.heap.size + 1 + 1, 1, none⟩ = some (.bool mb) ∧ W.cell? ⟨w.heap.size + 1 + 1, 2, none⟩ = some (.int .u64 nb) ∧ W.cell? ⟨w.heap.size + 1 + 1, 3, none⟩ = some (.int .i64 pb) := by
  refine ⟨?_, ?_, ?_, ?_, ?_, ?_, ?_, ?_, ?_, ?_, ?_⟩
  · refine (h.cell (p := ⟨w.heap.size, 0, none⟩) (by simp only [sz1]; omega)).trans ?_
    rw [cin _ _ _ (by simp only [sz1]; omega), cin _ _ _ (by simp only [sz1]; omega), cin _ _ _ (by simp only [sz1]; omega)]
    exact World.cell?_alloc_new _ _ _ _
  · refine (h.cell (p := ⟨w.heap.size, 1, none⟩) (by simp only [sz1]; omega)).trans ?_
    rw [cin _ _ _ (by simp only [sz1]; omega), cin _ _ _ (by simp only [sz1]; omega), cin _ _ _ (by simp only [sz1]; omega)]
    exact World.cell?_alloc_new _ _ _ _
  · refine (h.cell (p := ⟨w.heap.size, 2, none⟩) (by simp only [sz1]; omega)).trans ?_
    rw [cin _ _ _ (by simp only [sz1]; omega), cin _ _ _ (by simp only [sz1]; omega), cin _ _ _ (by simp only [sz1]; omega)]
    exact World.cell?_alloc_new _ _ _ _
  · refine (h.cell (p := ⟨w.heap.size + 1, 0, none⟩) (by simp only [sz1]; omega)).trans ?_
    rw [cin _ _ _ (by simp only [sz1]; omega), cin _ _ _ (by simp only [sz1]; omega)]
    rw [show w.heap.size + 1 = (w.alloc ob).heap.size by simp only [sz1]]
    exact World.cell?_alloc_new _ _ _ _
  · refine (h.cell (p := ⟨w.heap.size + 1, 1, none⟩) (by simp only [sz1]; omega)).trans ?_
    rw [cin _ _ _ (by simp only [sz1]; omega), cin _ _ _ (by simp only [sz1]; omega)]
    rw [show w.heap.size + 1 = (w.alloc ob).heap.size by simp only [sz1]]
    exact World.cell?_alloc_new _ _ _ _
  · refine (h.cell (p := ⟨w.heap.size + 1, 2, none⟩) (by simp only [sz1]; omega)).trans ?_
    rw [cin _ _ _ (by simp only [sz1]; omega), cin _ _ _ (by simp only [sz1]; omega)]
    rw [show w.heap.size + 1 = (w.alloc ob).heap.size by simp only [sz1]]
    exact World.cell?_alloc_new _ _ _ _
  · refine (h.cell (p := ⟨w.heap.size + 1, 3, none⟩) (by simp only [sz1]; omega)).trans ?_
    rw [cin _ _ _ (by simp only [sz1]; omega), cin _ _ _ (by simp only [sz1]; omega)]
    rw [show w.heap.size + 1 = (w.alloc ob).heap.size by simp only [sz1]]
    exact World.cell?_alloc_new _ _ _ _
  · refine (h.cell (p := ⟨w.heap.size + 1 + 1, 0, none⟩) (by simp only [sz1]; omega)).trans ?_
    rw [cin _ _ _ (by simp only [sz1]; omega)]
    rw [show w.heap.size + 1 + 1 = ((w.alloc ob).alloc (oV sa ma na pa)).heap.size by simp only [sz1]]
    exact World.cell?_alloc_new _ _ _ _
  · refine (h.cell (p := ⟨w.heap.size + 1 + 1, 1, none⟩) (by simp only [sz1]; omega)).trans ?_
    rw [cin _ _ _ (by simp only [sz1]; omega)]
    rw [show w.heap.size + 1 + 1 = ((w.alloc ob).alloc (oV sa ma na pa)).heap.size by simp only [sz1]]
    exact World.cell?_alloc_new _ _ _ _
  · refine (h.cell (p := ⟨w.heap.size + 1 + 1, 2, none⟩) (by simp only [sz1]; omega)).trans ?_
    rw [cin _ _ _ (by simp only [sz1]; omega)]
    rw [show w.heap.size + 1 + 1 = ((w.alloc ob).alloc (oV sa ma na pa)).heap.size by simp only [sz1]]
    exact World.cell?_alloc_new _ _ _ _
  · refine (h.cell (p := ⟨w.heap.size + 1 + 1, 3, none⟩) (by simp only [sz1]; omega)).trans ?_
    rw [cin _ _ _ (by simp only [sz1]; omega)]
    rw [show w.heap.size + 1 + 1 = ((w.alloc ob).alloc (oV sa ma na pa)).heap.size by simp only [sz1]]
    exact World.cell?_alloc_new _ _ _ _
theorem jA {w W : World} {sa : Int} {ma : Bool} {na pa : Int} {sb : Int} {mb : Bool} {nb pb : Int} (h : Below ((((w.alloc ob).alloc (oV sa ma na pa)).alloc (oV sb mb nb pb)).alloc oz).heap.size ((((w.alloc ob).alloc (oV sa ma na pa)).alloc (oV sb mb nb pb)).alloc oz) W) :
    W.cell? ⟨w.heap.size + 1 + 1 + 1, 0, none⟩ = some (.int .u8 0) ∧ W.cell? ⟨w.heap.size + 1 + 1 + 1, 1, none⟩ = some (.bool false) ∧ W.cell? ⟨w.heap.size + 1 + 1 + 1, 2, none⟩ = some (.int .u64 0) ∧ W.cell? ⟨w.heap.size + 1 + 1 + 1, 3, none⟩ = some (.int .i64 0) ∧ W.frozen? ⟨w.heap.size + 1 + 1 + 1, 0, none⟩ = false ∧ W.frozen? ⟨w.heap.size + 1 + 1 + 1, 1, none⟩ = false ∧ W.frozen? ⟨w.heap.size + 1 + 1 + 1, 2, none⟩ = false ∧ W.frozen? ⟨w.heap.size + 1 + 1 + 1, 3, none⟩ = false := by
  refine ⟨?_, ?_, ?_, ?_, ?_, ?_, ?_, ?_⟩
  · refine (h.cell (p := ⟨w.heap.size + 1 + 1 + 1, 0, none⟩) (by simp only [sz1]; omega)).trans ?_
    rw [show w.heap.size + 1 + 1 + 1 = (((w.alloc ob).alloc (oV sa ma na pa)).alloc (oV sb mb nb pb)).heap.size by simp only [sz1]]
    exact World.cell?_alloc_new _ _ _ _
  · refine (h.cell (p := ⟨w.heap.size + 1 + 1 + 1, 1, none⟩) (by simp only [sz1]; omega)).trans ?_
    rw [show w.heap.size + 1 + 1 + 1 = (((w.alloc ob).alloc (oV sa ma na pa)).alloc (oV sb mb nb pb)).heap.size by simp only [sz1]]
    exact World.cell?_alloc_new _ _ _ _
  · refine (h.cell (p := ⟨w.heap.size + 1 + 1 + 1, 2, none⟩) (by simp only [sz1]; omega)).trans ?_
    rw [show w.heap.size + 1 + 1 + 1 = (((w.alloc ob).alloc (oV sa ma na pa)).alloc (oV sb mb nb pb)).heap.size by simp only [sz1]]
    exact World.cell?_alloc_new _ _ _ _
  · refine (h.cell (p := ⟨w.heap.size + 1 + 1 + 1, 3, none⟩) (by simp only [sz1]; omega)).trans ?_
    rw [show w.heap.size + 1 + 1 + 1 = (((w.alloc ob).alloc (oV sa ma na pa)).alloc (oV sb mb nb pb)).heap.size by simp only [sz1]]
    exact World.cell?_alloc_new _ _ _ _
  · refine (h.frozen (p := ⟨w.heap.size + 1 + 1 + 1, 0, none⟩) (by simp only [sz1]; omega)).trans ?_
    rw [show w.heap.size + 1 + 1 + 1 = (((w.alloc ob).alloc (oV sa ma na pa)).alloc (oV sb mb nb pb)).heap.size by simp only [sz1]]
    exact World.frozen?_alloc_new _ _ _ _
  · refine (h.frozen (p := ⟨w.heap.size + 1 + 1 + 1, 1, none⟩) (by simp only [sz1]; omega)).trans ?_
    rw [show w.heap.size + 1 + 1 + 1 = (((w.alloc ob).alloc (oV sa ma na pa)).alloc (oV sb mb nb pb)).heap.size by simp only [sz1]]
    exact World.frozen?_alloc_new _ _ _ _
  · refine (h.frozen (p := ⟨w.heap.size + 1 + 1 + 1, 2, none⟩) (by simp only [sz1]; omega)).trans ?_
    rw [show w.heap.size + 1 + 1 + 1 = (((w.alloc ob).alloc (oV sa ma na pa)).alloc (oV sb mb nb pb)).heap.size by simp only [sz1]]
    exact World.frozen?_alloc_new _ _ _ _
  · refine (h.frozen (p := ⟨w.heap.size + 1 + 1 + 1, 3, none⟩) (by simp only [sz1]; omega)).trans ?_
    rw [show w.heap.size + 1 + 1 + 1 = (((w.alloc ob).alloc (oV sa ma na pa)).alloc (oV sb mb nb pb)).heap.size by simp only [sz1]]
    exact World.frozen?_alloc_new _ _ _ _
theorem jS {w W : World} {sa : Int} {ma : Bool} {na pa : Int} {sb : Int} {mb : Bool} {nb pb : Int} {a b c d : Value} (h : Below ((((w.alloc ob).alloc (oV sa ma na pa)).alloc (oV sb mb nb pb)).alloc oz).heap.size ((((w.alloc ob).alloc (oV sa ma na pa)).alloc (oV sb mb nb pb)).alloc oz) W) :
    ((((W.setCell ⟨w.heap.size + 1 + 1 + 1, 0, none⟩ a).setCell ⟨w.heap.size + 1 + 1 + 1, 1, none⟩ b).setCell ⟨w.heap.size + 1 + 1 + 1, 2, none⟩ c).setCell ⟨w.heap.size + 1 + 1 + 1, 3, none⟩ d).cell? ⟨w.heap.size, 0, none⟩ = some (.int .i64 24) ∧ ((((W.setCell ⟨w.heap.size + 1 + 1 + 1, 0, none⟩ a).setCell ⟨w.heap.size + 1 + 1 + 1, 1, none⟩ b).setCell ⟨w.heap.size + 1 + 1 + 1, 2, none⟩ c).setCell ⟨w.heap.size + 1 + 1 + 1, 3, none⟩ d).cell? ⟨w.heap.size, 1, none⟩ = some (.int .i64 (-149)) ∧ ((((W.setCell ⟨w.heap.size + 1 + 1 + 1, 0, none⟩ a).setCell ⟨w.heap.size + 1 + 1 + 1, 1, none⟩ b).setCell ⟨w.heap.size + 1 + 1 + 1, 2, none⟩ c).setCell ⟨w.heap.size + 1 + 1 + 1, 3, none⟩ d).cell? ⟨w.heap.size, 2, none⟩ = some (.int .i64 104) ∧ ((((W.setCell ⟨w.heap.size + 1 + 1 + 1, 0, none⟩ a).setCell ⟨w.heap.size + 1 + 1 + 1, 1, none⟩ b).setCell ⟨w.heap.size + 1 + 1 + 1, 2, none⟩ c).setCell ⟨w.heap.size + 1 + 1 + 1, 3, none⟩ d).cell? ⟨w.heap.size + 1, 0, none⟩ = some (.int .u8 sa) ∧ ((((W.setCell ⟨w.heap.size + 1 + 1 + 1, 0, none⟩ a).setCell ⟨w.heap.size + 1 + 1 + 1, 1, none⟩ b).setCell ⟨w.heap.size + 1 + 1 + 1, 2, none⟩ c).setCell ⟨w.heap.size + 1 + 1 + 1, 3, none⟩ d).cell? ⟨w.heap.size + 1, 1, none⟩ = some (.bool ma) ∧ ((((W.setCell ⟨w.heap.size + 1 + 1 + 1, 0, none⟩ a).setCell ⟨w.heap.size + 1 + 1 + 1, 1, none⟩ b).setCell ⟨w.heap.size + 1 + 1 + 1, 2, none⟩ c).setCell ⟨w.heap.size + 1 + 1 + 1, 3, none⟩ d).cell? ⟨w.heap.size + 1, 2, none⟩ = some (.int .u64 na) ∧ ((((W.setCell ⟨w.heap.size + 1 + 1 + 1, 0, none⟩ a).setCell ⟨w.heap.size + 1 + 1 + 1, 1, none⟩ b).setCell ⟨w.heap.size + 1 + 1 + 1, 2, none⟩ c).setCell ⟨w.heap.size + 1 + 1 + 1, 3, none⟩ d).cell? ⟨w.heap.size + 1, 3, none⟩ = some (.int .i64 pa) ∧ ((((W.setCell ⟨w.heap.size + 1 + 1 + 1, 0, none⟩ a).setCell ⟨w.heap.size + 1 + 1 + 1, 1, none⟩ b).setCell ⟨w.heap.size + 1 + 1 + 1, 2, none⟩ c).setCell ⟨w.heap.size + 1 + 1 + 1, 3, none⟩ d).cell? ⟨w.heap.size + 1 + 1, 0, none⟩ = some (.int .u8 sb) ∧ ((((W.setCell ⟨w.heap.size + 1 + 1 + 1, 0, none⟩ a).setCell ⟨w.heap.size + 1 + 1 + 1, 1, none⟩ b).setCell ⟨w.heap.size + 1 + 1 + 1, 2, none⟩ c).setCell ⟨w.heap.size + 1 + 1 + 1, 3, none⟩ d).cell? ⟨w.heap.size + 1 + 1, 1, none⟩ = some (.bool mb) ∧ ((((W.setCell ⟨w.heap.size + 1 + 1 + 1, 0, none⟩ a).setCell ⟨w.heap.size + 1 + 1 + 1, 1, none⟩ b).setCell ⟨w.heap.size + 1 + 1 + 1, 2, none⟩ c).setCell ⟨w.heap.size + 1 + 1 + 1, 3, none⟩ d).cell? ⟨w.heap.size + 1 + 1, 2, none⟩ = some (.int .u64 nb) ∧ ((((W.setCell ⟨w.heap.size + 1 + 1 + 1, 0, none⟩ a).setCell ⟨w.heap.size + 1 + 1 + 1, 1, none⟩ b).setCell ⟨w.heap.size + 1 + 1 + 1, 2, none⟩ c).setCell ⟨w.heap.size + 1 + 1 + 1, 3, none⟩ d).cell? ⟨w.heap.size + 1 + 1, 3, none⟩ = some (.int .i64 pb) := by
  have h0 := jF h
  refine ⟨?_, ?_, ?_, ?_, ?_, ?_, ?_, ?_, ?_, ?_, ?_⟩
  all_goals rw [World.cell?_setCell_other _ _ _ _ (by simp <;> omega), World.cell?_setCell_other _ _ _ _ (by simp <;> omega), World.cell?_setCell_other _ _ _ _ (by simp <;> omega), World.cell?_setCell_other _ _ _ _ (by simp <;> omega)]
  · exact h0.1
  · exact h0.2.1
  · exact h0.2.2.1
  · exact h0.2.2.2.1
  · exact h0.2.2.2.2.1
  · exact h0.2.2.2.2.2.1
  · exact h0.2.2.2.2.2.2.1
  · exact h0.2.2.2.2.2.2.2.1
  · exact h0.2.2.2.2.2.2.2.2.1
  · exact h0.2.2.2.2.2.2.2.2.2.1
  · exact h0.2.2.2.2.2.2.2.2.2.2
theorem jB {w W : World} {sa : Int} {ma : Bool} {na pa : Int} {sb : Int} {mb : Bool} {nb pb : Int} {a b c d : Value} (h : Below ((((w.alloc ob).alloc (oV sa ma na pa)).alloc (oV sb mb nb pb)).alloc oz).heap.size ((((w.alloc ob).alloc (oV sa ma na pa)).alloc (oV sb mb nb pb)).alloc oz) W) :
    Below w.heap.size w ((((W.setCell ⟨w.heap.size + 1 + 1 + 1, 0, none⟩ a).setCell ⟨w.heap.size + 1 + 1 + 1, 1, none⟩ b).setCell ⟨w.heap.size + 1 + 1 + 1, 2, none⟩ c).setCell ⟨w.heap.size + 1 + 1 + 1, 3, none⟩ d) := by
  have h1 : Below w.heap.size w W := (bel (bel (bel (bel (Below.refl _ _))))).trans (h.mono (by simp; omega))
  exact (((h1.setCell (p := ⟨w.heap.size + 1 + 1 + 1, 0, none⟩) (by simp; omega) a).setCell (p := ⟨w.heap.size + 1 + 1 + 1, 1, none⟩) (by simp; omega) b).setCell (p := ⟨w.heap.size + 1 + 1 + 1, 2, none⟩) (by simp; omega) c).setCell (p := ⟨w.heap.size + 1 + 1 + 1, 3, none⟩) (by simp; omega) d
theorem len_pow {zs : List Nat} (hN : Norm zs) {x : Nat} (h : nv zs = x) (k : Nat) (hx : x < 2 ^ (32 * k)) : zs.length ≤ k := norm_len hN k (by rw [h, show (4294967296 : Nat) = 2 ^ 32 from rfl, ← Nat.pow_mul]; exact hx)
theorem up_pow (n X k : Nat) (hn : n < 16777216) (hX : X + 24 ≤ 32 * k) : n * 2 ^ X < 2 ^ (32 * k) := by
  have h1 : n * 2 ^ X < 2 ^ 24 * 2 ^ X := Nat.mul_lt_mul_of_pos_right hn (Nat.two_pow_pos _)
  rw [← Nat.pow_add] at h1
  exact Nat.lt_of_lt_of_le h1 (Nat.pow_le_pow_right (by decide) (by omega))
theorem sum_pow {x y k : Nat} (hx : x < 2 ^ (32 * k)) (hy : y < 2 ^ (32 * k)) : x + y < 2 ^ (32 * (k + 1)) := by
  have h : 2 * 2 ^ (32 * k) ≤ 2 ^ (32 * (k + 1)) := by
    rw [← Nat.pow_succ']; exact Nat.pow_le_pow_right (by decide) (by omega)
  generalize 2 ^ (32 * k) = a at *
  omega
end Go.Proofs.Ytkmefmgicbohnaa
namespace Go.Proofs.Ytkmefmgicbohnaa
open Go.RowKit

end Go.Proofs.Ytkmefmgicbohnaa
namespace Go.Proofs.Ytkmefmgicbohnaa
open Go.RowKit

end Go.Proofs.Ytkmefmgicbohnaa
namespace Go.Proofs.Ytkmefmgicbohnaa
open Go.RowKit

end Go.Proofs.Ytkmefmgicbohnaa
namespace Go.Proofs.Ytkmefmgicbohnaa
open Go.RowKit

end Go.Proofs.Ytkmefmgicbohnaa
namespace Go.Proofs.Ytkmefmgicbohnaa
open Go.RowKit

end Go.Proofs.Ytkmefmgicbohnaa
namespace Go.Proofs.Ytkmefmgicbohnaa
open Go.RowKit

end Go.Proofs.Ytkmefmgicbohnaa
namespace Go.Proofs.Ytkmefmgicbohnaa
open Go.RowKit

end Go.Proofs.Ytkmefmgicbohnaa
namespace Go.Proofs.Ytkmefmgicbohnaa
open Go.RowKit

end Go.Proofs.Ytkmefmgicbohnaa
namespace Go.Proofs.Ytkmefmgicbohnaa
open Go.RowKit

abbrev vN : Value := .agg #[.int .u8 1, .bool false, .int .u64 0, .int .i64 0]
abbrev vE (m : Bool) : Value := .agg #[.int .u8 2, .bool m, .int .u64 0, .int .i64 0]
abbrev vF (m : Bool) (n p : Int) : Value := .agg #[.int .u8 3, .bool m, .int .u64 n, .int .i64 p]
end Go.Proofs.Ytkmefmgicbohnaa
namespace Go.Proofs.Ytkmefmgicbohnaa
open Go.RowKit

theorem rootFrom_gt (n : Nat) : ∀ todo root : Nat, n < (root + 2 ^ todo) * (root + 2 ^ todo) → n < (Ieee.Datum.rootFrom n todo root + 1) * (Ieee.Datum.rootFrom n todo root + 1) := by
  intro todo
  induction todo with
  | zero => intro root h; exact h
  | succ k ih =>
    intro root h
    unfold Ieee.Datum.rootFrom
    dsimp only
    apply ih
    rw [Nat.shiftLeft_eq, Nat.one_mul]
    split
    · have e : root + 2 ^ k + 2 ^ k = root + 2 ^ (k + 1) := by rw [Nat.pow_succ]; omega
      rw [e]; exact h
    · omega
/-- the whole root -/
def isq (n : Nat) : Nat := Ieee.Datum.rootFrom n (n.log2 / 2 + 1) 0
theorem isq_le (n : Nat) : isq n * isq n ≤ n := rootFrom_le _ _ _ (by simp)
theorem isq_gt (n : Nat) : n < (isq n + 1) * (isq n + 1) := by
  refine rootFrom_gt _ _ _ ?_
  rw [Nat.zero_add, ← Nat.pow_add]
  exact Nat.lt_of_lt_of_le Nat.lt_log2_self (Nat.pow_le_pow_right (by decide) (by omega))
theorem sq_lt {a b : Nat} (h : a * a < b * b) : a < b := by
  apply Nat.lt_of_not_le
  intro hle
  have := Nat.mul_le_mul hle hle
  omega
theorem isq_mono {n m : Nat} (h : n ≤ m) : isq n ≤ isq m := by
  have h1 := isq_le n
  have h2 := isq_gt m
  have := sq_lt (a := isq n) (b := isq m + 1) (by omega)
  omega
/-- the whole root twice, and one more where something is left -/
def sticky (n : Nat) : Nat := 2 * isq n + (isq n * isq n != n).toNat
theorem sticky_mono {n m : Nat} (h : n ≤ m) : sticky n ≤ sticky m := by
  have h1 := isq_mono h
  unfold sticky
  have b1 : (isq n * isq n != n).toNat ≤ 1 := by cases (isq n * isq n != n) <;> decide
  by_cases e : isq n = isq m
  · by_cases e2 : isq m * isq m = m
    · have : isq n * isq n = n := by
        have := isq_le n
        rw [e] at this ⊢
        omega
      have e3 : (isq n * isq n != n) = false := by simp [this]
      rw [e3, e]
      simp
    · have e3 : (isq m * isq m != m) = true := by simp [e2]
      rw [e3, e]
      have b1' : (isq m * isq m != n).toNat ≤ 1 := by cases (isq m * isq m != n) <;> decide
      show 2 * isq m + _ ≤ 2 * isq m + 1
      omega
  · omega
theorem sticky_bounds {n k : Nat} (h1 : 2 ^ (2 * k) ≤ n) (h2 : n < 2 ^ (2 * k + 2)) : 2 ^ (k + 1) ≤ sticky n ∧ sticky n < 2 ^ (k + 2) := by
  have a1 := isq_gt n
  have a2 := isq_le n
  have e1 : 2 ^ k < isq n + 1 := sq_lt (by rw [← Nat.pow_add, ← Nat.two_mul]; omega)
  have e2 : isq n < 2 ^ (k + 1) := sq_lt (by rw [← Nat.pow_add, show k + 1 + (k + 1) = 2 * k + 2 by omega]; omega)
  unfold sticky
  have b1 : (isq n * isq n != n).toNat ≤ 1 := by cases (isq n * isq n != n) <;> decide
  rw [Nat.pow_succ 2 k, Nat.pow_succ 2 (k + 1)]
  omega
/-- the root's number: what is rooted has 108 or 109 binary digits and an even place -/
theorem root_form (M : Nat) (P : Int) (hM : M ≠ 0) (hl : M.log2 ≤ 108) :
    ∃ more : Nat, ∃ E : Int, (Ieee.Datum.number false M P).root 54 = some (.number false (sticky (M * 2 ^ more)) (E - 1)) ∧ P - more = 2 * E ∧ 2 ^ 108 ≤ M * 2 ^ more ∧ M * 2 ^ more < 2 ^ 110 := by
  have hlt : M < 2 ^ (M.log2 + 1) := Nat.lt_log2_self
  have hge : 2 ^ M.log2 ≤ M := Nat.log2_self_le hM
  refine ⟨2 * 54 - M.log2 + ((P - (2 * 54 - M.log2 : Nat)) % 2).toNat, (P - (2 * 54 - M.log2 + ((P - (2 * 54 - M.log2 : Nat)) % 2).toNat : Nat)) / 2, ?_, ?_, ?_, ?_⟩
  · simp only [Ieee.Datum.root, if_neg hM, Bool.false_eq_true, if_false]
    rw [Nat.shiftLeft_eq]
    rfl
  · generalize M.log2 = L at *
    omega
  · generalize hm : 2 * 54 - M.log2 + ((P - (2 * 54 - M.log2 : Nat)) % 2).toNat = more
    have : 2 ^ (M.log2 + more) ≤ M * 2 ^ more := by rw [Nat.pow_add]; exact Nat.mul_le_mul_right _ hge
    refine Nat.le_trans (Nat.pow_le_pow_right (by decide) ?_) this
    omega
  · generalize hm : 2 * 54 - M.log2 + ((P - (2 * 54 - M.log2 : Nat)) % 2).toNat = more
    have : M * 2 ^ more < 2 ^ (M.log2 + 1 + more) := by rw [Nat.pow_add]; exact Nat.mul_lt_mul_of_pos_right hlt (Nat.two_pow_pos _)
    refine Nat.lt_of_lt_of_le this (Nat.pow_le_pow_right (by decide) ?_)
    omega
theorem log_sum {M K v p q x : Nat} (hM : M ≠ 0) (h : M * 2 ^ K = v * 2 ^ x) (hv : v < 2 ^ p * 2 ^ q) : M.log2 + K < p + q + x := by
  have h2 : 2 ^ M.log2 ≤ M := Nat.log2_self_le hM
  have h4 : 2 ^ (M.log2 + K) ≤ M * 2 ^ K := by rw [Nat.pow_add]; exact Nat.mul_le_mul_right _ h2
  have h5 : v * 2 ^ x < 2 ^ (p + q + x) := by rw [Nat.pow_add 2 (p + q) x, Nat.pow_add]; exact Nat.mul_lt_mul_of_pos_right hv (Nat.two_pow_pos _)
  rw [h] at h4
  exact (Nat.pow_lt_pow_iff_right (a := 2) (by decide)).1 (Nat.lt_of_le_of_lt h4 h5)
theorem read_fin64 (a : Nat) (h : a % 9223372036854775808 < 9218868437227405312) : ∃ m : Nat, ∃ k : Nat, Ieee.double.read a = .number (a / 9223372036854775808 % 2 == 1) m (-1074 + (k : Int)) ∧ m * 2 ^ k = vl 4503599627370496 (a % 9223372036854775808) ∧ m < 9007199254740992 ∧ k ≤ 2045 := by
  rw [read_double]
  unfold vl
  split
  · exact ⟨a % 9223372036854775808, 0, by simp, by simp, by omega, by omega⟩
  · exact ⟨_, _, rfl, rfl, by omega, by omega⟩
theorem word_facts64 (neg : Bool) (r : Nat) (h : r < 9223372036854775808) : Ieee.double.word neg r % 9223372036854775808 = r ∧ (Ieee.double.word neg r / 9223372036854775808 % 2 == 1) = neg := by
  refine ⟨word_mod64 neg r h, ?_⟩
  have e1 : Ieee.double.signWeight = 9223372036854775808 := rfl
  unfold Ieee.Format.word
  rw [e1]
  cases neg
  · simp only [Bool.false_eq_true, if_false]; rw [show r / 9223372036854775808 % 2 = 0 by omega]; rfl
  · simp only [if_true]; rw [show (9223372036854775808 + r) / 9223372036854775808 % 2 = 1 by omega]; rfl
theorem nearest_word64 (neg : Bool) (mag : Nat) (place : Int) : Ieee.double.write (.number neg mag place) = Ieee.double.word neg (min (rg Ieee.double mag place) 9218868437227405312) := nearest_rg _ _ _ _
/-- what has few digits is exact in binary64 -/
theorem rung_of64 (m k : Nat) (hm : m ≤ 9007199254740992) (hk : 52 ≤ k) (hk2 : k ≤ 2000) : ∃ r, vl 4503599627370496 r = m * 2 ^ k ∧ r < 9218868437227405312 := by
  by_cases h0 : m = 0
  · exact ⟨0, by subst h0; simp [vl], by decide⟩
  have hlt : m < 2 ^ (m.log2 + 1) := Nat.lt_log2_self
  have hge : 2 ^ m.log2 ≤ m := Nat.log2_self_le h0
  have hL := log_lt (n := m) (k := 54) (by decide) (by omega)
  generalize m.log2 = L at *
  by_cases h1 : L ≤ 52
  · obtain ⟨j, hj⟩ : ∃ j, j = 52 - L := ⟨_, rfl⟩
    have e1 : (4503599627370496 : Nat) ≤ m * 2 ^ j := by
      have : 2 ^ (L + j) ≤ m * 2 ^ j := by rw [Nat.pow_add]; exact Nat.mul_le_mul_right _ hge
      rw [show L + j = 52 by omega] at this; exact this
    have e2 : m * 2 ^ j < 2 * 4503599627370496 := by
      have : m * 2 ^ j < 2 ^ (L + 1 + j) := by rw [Nat.pow_add]; exact Nat.mul_lt_mul_of_pos_right hlt (Nat.two_pow_pos _)
      rw [show L + 1 + j = 53 by omega] at this; exact this
    refine ⟨(k - j) * 4503599627370496 + m * 2 ^ j, ?_, by omega⟩
    rw [vl_at 4503599627370496 (by decide) (k - j) (m * 2 ^ j) (Or.inr e1) (by omega), Nat.mul_assoc, ← Nat.pow_add]
    congr 2; omega
  · have hL53 : L = 53 := by omega
    subst hL53
    have : m = 9007199254740992 := by omega
    subst this
    refine ⟨k * 4503599627370496 + 2 * 4503599627370496, ?_, by omega⟩
    rw [vl_at 4503599627370496 (by decide) k (2 * 4503599627370496) (Or.inr (by omega)) (by omega)]
/-- a finite word made wide: the same number -/
theorem wide_fin (a : Nat) (ha : a % 2147483648 < 2139095040) : ∃ r, wide a = Ieee.double.word (sn a) r ∧ vl 4503599627370496 r = val (a % 2147483648) * 2 ^ 925 ∧ r < 9218868437227405312 := by
  obtain ⟨m, k, e1, v1, hm, hk, -⟩ := read_fin a ha
  obtain ⟨r0, v0, l0⟩ := rung_of64 m (k + 925) (by omega) (by omega) (by omega)
  have hw : wide a = Ieee.double.write (.number (sn a) m (-149 + (k : Int))) := by unfold wide; rw [e1]; rfl
  rw [nearest_word64] at hw
  have hnr := rg_near Ieee.double (by decide) m (-149 + (k : Int)) 0 (by show (-1074 : Int) ≤ _; omega)
  have e5 : (-149 + (k : Int) - Ieee.double.leastPlace + (0 : Nat)).toNat = k + 925 := by
    rw [show Ieee.double.leastPlace = -1074 from rfl]; omega
  rw [e5, ← v0] at hnr
  have hs := near_self 4503599627370496 0 r0 (by decide)
  rw [Nat.pow_zero, Nat.mul_one] at hs
  have := hnr.unique (by decide) hs
  rw [this, Nat.min_eq_left (Nat.le_of_lt l0)] at hw
  exact ⟨r0, hw, by rw [v0, Nat.pow_add, ← Nat.mul_assoc, v1], l0⟩
/-- a finite binary64 made narrow -/
theorem narrow_fin (b : Nat) (hb : b % 9223372036854775808 < 9218868437227405312) : ∃ r, narrow b = Ieee.single.word (b / 9223372036854775808 % 2 == 1) (min r 2139095040) ∧ Near 8388608 925 (vl 4503599627370496 (b % 9223372036854775808)) r := by
  obtain ⟨m, k, e1, v1, -, -⟩ := read_fin64 b hb
  have hw : narrow b = Ieee.single.write (.number (b / 9223372036854775808 % 2 == 1) m (-1074 + (k : Int))) := by unfold narrow; rw [e1]
  rw [nearest_word] at hw
  have hnr := rg_near Ieee.single (by decide) m (-1074 + (k : Int)) 925 (by show (-149 : Int) ≤ _; omega)
  have e5 : (-1074 + (k : Int) - Ieee.single.leastPlace + (925 : Nat)).toNat = k := by
    rw [show Ieee.single.leastPlace = -149 from rfl]; omega
  rw [e5, v1] at hnr
  exact ⟨_, hw, hnr⟩
theorem word_sn (a : Nat) (h : a < 4294967296) : Ieee.single.word (sn a) (a % 2147483648) = a := by
  have e1 : Ieee.single.signWeight = 2147483648 := rfl
  unfold Ieee.Format.word sn
  rw [e1]
  by_cases h' : a < 2147483648
  · rw [show a / 2147483648 % 2 = 0 by omega]; simp; omega
  · rw [show a / 2147483648 % 2 = 1 by omega]; simp; omega
theorem narrow_wide (a : Nat) (h : a < 4294967296) (oa : ok a = true) : narrow (wide a) = a ∧ (Ieee.double.read (wide a)).isNaN = false ∧ nfine (wide a) = true := by
  have hm := ok_mod oa
  by_cases hf : a % 2147483648 < 2139095040
  · obtain ⟨r, e, v, l⟩ := wide_fin a hf
    obtain ⟨f1, f2⟩ := word_facts64 (sn a) r (by omega)
    obtain ⟨r', e', hr'⟩ := narrow_fin (wide a) (by rw [e, f1]; exact l)
    rw [e, f1, f2, v] at *
    have := hr'.unique (by decide) (near_self 8388608 925 (a % 2147483648) (by decide))
    subst this
    rw [Nat.min_eq_left hm, word_sn a h] at e'
    refine ⟨e', word_ok64 _ _ (by omega), ?_⟩
    unfold nfine
    rw [e']
    have hi := inf_single a hf
    split <;> simp [hi]
  · have : a = 2139095040 ∨ a = 4286578688 := by omega
    rcases this with rfl | rfl <;> decide +kernel
/-- the root of a finite number above 0 -/
theorem froot_pos (a : Nat) (h0 : 0 < a) (h1 : a < 2139095040) : ∃ more : Nat, ∃ E : Int, ∃ M : Nat, ∃ K : Nat, ∃ rd rs : Nat,
    M * 2 ^ K = val a * 2 ^ 925 ∧ (-1074 + (K : Int)) - more = 2 * E ∧ 2 ^ 108 ≤ M * 2 ^ more ∧ M * 2 ^ more < 2 ^ 110 ∧
    Near 4503599627370496 0 (sticky (M * 2 ^ more) * 2 ^ (E + 1073).toNat) rd ∧ rd < 9218868437227405312 ∧ 0 ≤ E + 1073 ∧
    Near 8388608 925 (vl 4503599627370496 rd) rs ∧ froot a = Ieee.single.word false (min rs 2139095040) := by
  have hmod : a % 2147483648 = a := Nat.mod_eq_of_lt (by omega)
  have oa : ok a = true := mod_ok (by omega)
  obtain ⟨r, e, v, l⟩ := wide_fin a (by omega)
  have hs : sn a = false := by unfold sn; rw [show a / 2147483648 % 2 = 0 by omega]; rfl
  rw [hs] at e
  rw [hmod] at v
  obtain ⟨f1, f2⟩ := word_facts64 false r (by omega)
  obtain ⟨M, K, eR, vR, hM, hK⟩ := read_fin64 (wide a) (by rw [e, f1]; exact l)
  have f1' : wide a % 9223372036854775808 = r := by rw [e]; exact f1
  have f2' : (wide a / 9223372036854775808 % 2 == 1) = false := by rw [e]; exact f2
  rw [f1', v] at vR
  rw [f2'] at eR
  have hv0 : 0 < val a := by have := val_lt h0; rwa [show val 0 = 0 from rfl] at this
  have hM0 : M ≠ 0 := by
    intro hz
    rw [hz, Nat.zero_mul] at vR
    have := Nat.mul_pos hv0 (Nat.two_pow_pos 925)
    omega
  obtain ⟨more, E, hroot, hE, hlo, hhi⟩ := root_form M (-1074 + (K : Int)) hM0 (by have := log_lt (n := M) (k := 53) (by decide) (by omega); omega)
  have hsq : Ieee.double.sqrt (wide a) = some (Ieee.double.write (.number false (sticky (M * 2 ^ more)) (E - 1))) := by
    unfold Ieee.Format.sqrt
    rw [eR, show Ieee.double.fractionBits + 2 = 54 from rfl, hroot]; rfl
  -- where the place lies
  have hval : (2 : Nat) ^ 925 ≤ M * 2 ^ K := by
    rw [vR]; exact Nat.le_mul_of_pos_left _ hv0
  have hK1 : 872 ≤ K := by
    apply Nat.le_of_not_lt
    intro hlt
    have : M * 2 ^ K < 2 ^ 53 * 2 ^ K := Nat.mul_lt_mul_of_pos_right hM (Nat.two_pow_pos _)
    rw [← Nat.pow_add] at this
    have := Nat.pow_lt_pow_iff_right (a := 2) (n := 925) (m := 53 + K) (by decide)
    omega
  have hmore : more ≤ 109 := by
    apply Nat.le_of_not_lt
    intro hlt
    have h2 : 2 ^ 110 ≤ 2 ^ more := Nat.pow_le_pow_right (by decide) (by omega)
    have h3 : 2 ^ more ≤ M * 2 ^ more := Nat.le_mul_of_pos_left _ (by omega)
    omega
  have hE0 : 0 ≤ E + 1073 := by omega
  have hnd := rg_near Ieee.double (by decide) (sticky (M * 2 ^ more)) (E - 1) 0 (by show (-1074 : Int) ≤ _; omega)
  have e5 : (E - 1 - Ieee.double.leastPlace + (0 : Nat)).toNat = (E + 1073).toNat := by
    rw [show Ieee.double.leastPlace = -1074 from rfl]; omega
  rw [e5] at hnd
  have hfro : froot a = narrow (Ieee.double.write (.number false (sticky (M * 2 ^ more)) (E - 1))) := by
    unfold froot; rw [if_pos oa, hsq]
  rw [nearest_word64] at hfro
  have hst := (sticky_bounds (k := 54) hlo hhi).2
  have hstl := log_lt (by decide) hst
  -- it is not without end
  have h3 : val a < 2 ^ 23 * 2 ^ 254 := Nat.lt_of_lt_of_eq (val_lt (show a < 2139095040 by omega)) (vl_at 8388608 (by decide) 254 8388608 (Or.inr (Nat.le_refl _)) (by decide))
  have hKhi := log_sum hM0 vR h3
  clear h3
  have hml : 108 ≤ M.log2 + 1 + more := by
    have hlt : M < 2 ^ (M.log2 + 1) := Nat.lt_log2_self
    have h6 : M * 2 ^ more < 2 ^ (M.log2 + 1 + more) := by rw [Nat.pow_add]; exact Nat.mul_lt_mul_of_pos_right hlt (Nat.two_pow_pos _)
    have := Nat.pow_lt_pow_iff_right (a := 2) (n := 108) (m := M.log2 + 1 + more) (by decide)
    omega
  have hsmall := (double_small false (sticky (M * 2 ^ more)) (E - 1) 1200 (by omega) (by omega)).1
  rw [nearest_word64, word_mod64 _ _ (by omega)] at hsmall
  have hrd : rg Ieee.double (sticky (M * 2 ^ more)) (E - 1) < 9218868437227405312 := by omega
  rw [Nat.min_eq_left (Nat.le_of_lt hrd)] at hfro
  obtain ⟨g1, g2⟩ := word_facts64 false (rg Ieee.double (sticky (M * 2 ^ more)) (E - 1)) (by omega)
  obtain ⟨rs, e', hr'⟩ := narrow_fin (Ieee.double.word false (rg Ieee.double (sticky (M * 2 ^ more)) (E - 1))) (by rw [g1]; exact hrd)
  rw [g1] at hr'
  rw [g2] at e'
  exact ⟨more, E, M, K, _, rs, vR, hE, hlo, hhi, hnd, hrd, hE0, hr', by rw [hfro, e']⟩
/-- roots keep the order -/
theorem froot_mono (a b : Nat) (h0 : 0 < a) (hab : a ≤ b) (hb : b < 2139095040) : ∃ r s, froot a = Ieee.single.word false (min r 2139095040) ∧ froot b = Ieee.single.word false (min s 2139095040) ∧ r ≤ s := by
  obtain ⟨mo, E, M, K, rd, rs, v, hE, hlo, hhi, hn, -, hE0, hn2, e⟩ := froot_pos a h0 (by omega)
  obtain ⟨mo', E', M', K', rd', rs', v', hE', hlo', hhi', hn', -, hE0', hn2', e'⟩ := froot_pos b (by omega) hb
  refine ⟨rs, rs', e, e', ?_⟩
  have hv : val a ≤ val b := by
    rcases Nat.lt_or_eq_of_le hab with h | h
    · exact Nat.le_of_lt (val_lt h)
    · rw [h]; exact Nat.le_refl _
  have hMK : M * 2 ^ K ≤ M' * 2 ^ K' := by rw [v, v']; exact Nat.mul_le_mul_right _ hv
  have hst := sticky_bounds (k := 54) hlo hhi
  have hst' := sticky_bounds (k := 54) hlo' hhi'
  have hkey : sticky (M * 2 ^ mo) * 2 ^ (E + 1073).toNat ≤ sticky (M' * 2 ^ mo') * 2 ^ (E' + 1073).toNat := by
    -- the values, at a common place
    obtain ⟨Z, hZ⟩ : ∃ Z : Nat, Z = 2000 := ⟨_, rfl⟩
    have hK1 : (K : Int) = 1074 + mo + 2 * E := by omega
    have hK2 : (K' : Int) = 1074 + mo' + 2 * E' := by omega
    rcases Int.lt_trichotomy E E' with hlt | heq | hgt
    · refine Nat.le_trans (Nat.le_of_lt (Nat.mul_lt_mul_of_pos_right hst.2 (Nat.two_pow_pos _))) (Nat.le_trans ?_ (Nat.mul_le_mul_right _ hst'.1))
      rw [← Nat.pow_add, ← Nat.pow_add]
      exact Nat.pow_le_pow_right (by decide) (by omega)
    · subst heq
      refine Nat.mul_le_mul_right _ (sticky_mono ?_)
      obtain ⟨c, hc⟩ : ∃ c : Nat, (c : Int) = 1074 + 2 * E + Z := ⟨(1074 + 2 * E + Z).toNat, by omega⟩
      have e1 : M * 2 ^ mo * 2 ^ c = M * 2 ^ K * 2 ^ Z := by rw [Nat.mul_assoc, Nat.mul_assoc, ← Nat.pow_add, ← Nat.pow_add]; congr 2; omega
      have e2 : M' * 2 ^ mo' * 2 ^ c = M' * 2 ^ K' * 2 ^ Z := by rw [Nat.mul_assoc, Nat.mul_assoc, ← Nat.pow_add, ← Nat.pow_add]; congr 2; omega
      refine Nat.le_of_mul_le_mul_right (c := 2 ^ c) ?_ (Nat.two_pow_pos _)
      rw [e1, e2]
      exact Nat.mul_le_mul_right _ hMK
    · exfalso
      obtain ⟨c, hc⟩ : ∃ c : Nat, (c : Int) = 1074 + 2 * E + Z := ⟨(1074 + 2 * E + Z).toNat, by omega⟩
      obtain ⟨c', hc'⟩ : ∃ c' : Nat, (c' : Int) = 1074 + 2 * E' + Z := ⟨(1074 + 2 * E' + Z).toNat, by omega⟩
      have e1 : M * 2 ^ mo * 2 ^ c = M * 2 ^ K * 2 ^ Z := by rw [Nat.mul_assoc, Nat.mul_assoc, ← Nat.pow_add, ← Nat.pow_add]; congr 2; omega
      have e2 : M' * 2 ^ mo' * 2 ^ c' = M' * 2 ^ K' * 2 ^ Z := by rw [Nat.mul_assoc, Nat.mul_assoc, ← Nat.pow_add, ← Nat.pow_add]; congr 2; omega
      have a1 : 2 ^ 108 * 2 ^ c ≤ M * 2 ^ mo * 2 ^ c := Nat.mul_le_mul_right _ hlo
      have a2 : M' * 2 ^ mo' * 2 ^ c' < 2 ^ 110 * 2 ^ c' := Nat.mul_lt_mul_of_pos_right hhi' (Nat.two_pow_pos _)
      have a3 : M * 2 ^ K * 2 ^ Z ≤ M' * 2 ^ K' * 2 ^ Z := Nat.mul_le_mul_right _ hMK
      rw [← Nat.pow_add] at a1 a2
      have a4 : 2 ^ (110 + c') ≤ 2 ^ (108 + c) := Nat.pow_le_pow_right (by decide) (by omega)
      omega
  have h1 := hn.mono (by decide) hn' hkey
  exact hn2.mono (by decide) hn2' (vl_le _ (by decide) h1)
end Go.Proofs.Ytkmefmgicbohnaa
namespace Go.Proofs.Ytkmefmgicbohnaa
open Go.RowKit

/-- x is not above y, or one is no number -/
def na (x y : Nat) : Prop := ok x = true → ok y = true → key x ≤ key y
theorem inf_read {z : Nat} (h : z % 2147483648 = 2139095040) : Ieee.single.read z = .infinity (sn z) := by
  rw [read_single, if_neg (by omega), if_neg (by omega), if_pos h]; rfl
theorem inf_write {z : Nat} (hz : z < 4294967296) (h : z % 2147483648 = 2139095040) : Ieee.single.write (.infinity (sn z)) = z := by
  have := word_sn z hz
  rw [h] at this; exact this
theorem fin_or {z : Nat} (h : ok z = true) : z % 2147483648 < 2139095040 ∨ z % 2147483648 = 2139095040 := by have := ok_mod h; omega
theorem nan_ok : ok 2143289344 = false := by decide
theorem sum_comm' (d e : Ieee.Datum) : d.sum e = e.sum d := by
  cases d <;> cases e <;> simp only [Ieee.Datum.sum]
  · rename_i s m i t n j
    rw [Int.min_comm i j, Int.add_comm (Ieee.signed s _ _), Bool.and_comm]
  · rename_i s t
    by_cases h : s = t
    · subst h; rfl
    · rw [if_neg h, if_neg (Ne.symm h)]
theorem fsum_inf_l {x c : Nat} (hx : x < 4294967296) (hi : x % 2147483648 = 2139095040) (oc : ok c = true) (ho : ok (fsum x c) = true) : fsum x c = x := by
  have h0 : Ieee.single.add x c = ((Ieee.single.read x).sum (Ieee.single.read c)).map Ieee.single.write := rfl
  rw [inf_read hi] at h0
  unfold fsum at ho ⊢
  rw [h0] at ho ⊢
  rcases fin_or oc with hf | hf
  · obtain ⟨m, k, e, -⟩ := read_fin c hf
    rw [e]
    exact inf_write hx hi
  · rw [inf_read hf] at ho ⊢
    by_cases e : sn x = sn c
    · simp only [Ieee.Datum.sum, if_pos e]; exact inf_write hx hi
    · simp only [Ieee.Datum.sum, if_neg e] at ho
      exact absurd (show ok 2143289344 = true from ho) (by decide)
theorem fsum_inf_r {x c : Nat} (hc : c < 4294967296) (hi : c % 2147483648 = 2139095040) (ox : ok x = true) (ho : ok (fsum x c) = true) : fsum x c = c := by
  have e : fsum x c = fsum c x := by unfold fsum Ieee.Format.add; rw [sum_comm']
  rw [e] at ho ⊢
  exact fsum_inf_l hc hi ox ho
theorem sum_args {x c : Nat} (ho : ok (fsum x c) = true) : ok x = true ∧ ok c = true := by
  cases h1 : ok x
  · rw [fsum_nan (Or.inl h1)] at ho; exact absurd ho (by decide)
  · cases h2 : ok c
    · rw [fsum_nan (Or.inr h2)] at ho; exact absurd ho (by decide)
    · exact ⟨rfl, rfl⟩
theorem mul_args {x c : Nat} (ho : ok (fmul x c) = true) : ok x = true ∧ ok c = true := by
  cases h1 : ok x
  · rw [fmul_nan (Or.inl h1)] at ho; exact absurd ho (by decide)
  · cases h2 : ok c
    · rw [fmul_nan (Or.inr h2)] at ho; exact absurd ho (by decide)
    · exact ⟨rfl, rfl⟩
theorem near_zero {d r : Nat} (h : Near 8388608 d 0 r) : r = 0 := by
  have := near_self 8388608 d 0 (by decide)
  rw [show vl 8388608 0 = 0 from rfl, Nat.zero_mul] at this
  exact h.unique (by decide) this
theorem signed_mono {d C r r' : Nat} {S S' : Int} {neg neg' : Bool} (h : S ≤ S') (hr : Near 8388608 d (S.natAbs * C) r) (hr' : Near 8388608 d (S'.natAbs * C) r') (hn : S ≠ 0 → neg = decide (S < 0)) (hn' : S' ≠ 0 → neg' = decide (S' < 0)) :
    key (Ieee.single.word neg (min r 2139095040)) ≤ key (Ieee.single.word neg' (min r' 2139095040)) := by
  rw [key_word _ _ (by omega), key_word _ _ (by omega)]
  have z1 : S = 0 → r = 0 := fun e => near_zero (d := d) (by rw [e, Int.natAbs_zero, Nat.zero_mul] at hr; exact hr)
  have z2 : S' = 0 → r' = 0 := fun e => near_zero (d := d) (by rw [e, Int.natAbs_zero, Nat.zero_mul] at hr'; exact hr')
  by_cases e1 : S = 0
  · rw [z1 e1]
    by_cases e2 : S' = 0
    · rw [z2 e2]; split <;> split <;> simp
    · rw [hn' e2, decide_eq_false (by omega)]; simp only [Bool.false_eq_true, if_false]; split <;> simp <;> omega
  · by_cases e2 : S' = 0
    · rw [z2 e2, hn e1, decide_eq_true (by omega)]; simp only [if_true]; split <;> simp <;> omega
    · rw [hn e1, hn' e2]
      by_cases n1 : S < 0 <;> by_cases n2 : S' < 0
      · have := hr'.mono (by decide) hr (Nat.mul_le_mul_right _ (by omega))
        rw [decide_eq_true n1, decide_eq_true n2]; simp only [if_true]; omega
      · rw [decide_eq_true n1, decide_eq_false n2]; simp only [if_true, Bool.false_eq_true, if_false]; omega
      · omega
      · have := hr.mono (by decide) hr' (Nat.mul_le_mul_right _ (by omega))
        rw [decide_eq_false n1, decide_eq_false n2]; simp only [Bool.false_eq_true, if_false]; omega
theorem key_inf {z : Nat} (hz : z < 4294967296) (h : z % 2147483648 = 2139095040) : key z = 2139095040 ∨ key z = -2139095040 := by
  by_cases h' : z < 2147483648
  · rw [key_pos h']; omega
  · rw [key_neg (by omega)]; omega
theorem key_fin {z : Nat} (h : z % 2147483648 < 2139095040) : -2139095040 < key z ∧ key z < 2139095040 := by
  by_cases h' : z < 2147483648
  · rw [key_pos h']; omega
  · rw [key_neg (by omega)]; omega
theorem sum_keeps {x y c : Nat} (hx : x < 4294967296) (hy : y < 4294967296) (hc : c < 4294967296) (h : na x y) : na (fsum x c) (fsum y c) := by
  intro o1 o2
  obtain ⟨ox, oc⟩ := sum_args o1
  obtain ⟨oy, -⟩ := sum_args o2
  have hk := h ox oy
  rcases fin_or oc with fc | fc
  · rcases fin_or ox with fx | fx <;> rcases fin_or oy with fy | fy
    · obtain ⟨n1, r1, e1, q1, p1, -⟩ := fsum_fin x c fx fc
      obtain ⟨n2, r2, e2, q2, p2, -⟩ := fsum_fin y c fy fc
      rw [e1, e2]
      have hs : sval x ≤ sval y := by
        have hsk := sval_key y x hy hx
        apply Int.le_of_not_gt
        intro hlt
        have := hsk.1.1 hlt
        omega
      exact signed_mono (C := 1) (by omega) (by rw [Nat.mul_one]; exact q1) (by rw [Nat.mul_one]; exact q2) p1 p2
    · rw [fsum_inf_l hy fy oc o2]
      have b := key_bound (fsum_lt x c) o1
      have k1 := key_fin fx
      rcases key_inf hy fy with e | e <;> omega
    · rw [fsum_inf_l hx fx oc o1]
      have b := key_bound (fsum_lt y c) o2
      have k1 := key_fin fy
      rcases key_inf hx fx with e | e <;> omega
    · rw [fsum_inf_l hx fx oc o1, fsum_inf_l hy fy oc o2]; exact hk
  · rw [fsum_inf_r hc fc ox o1, fsum_inf_r hc fc oy o2]; exact Int.le_refl _
theorem sval_zero {z : Nat} (h : z % 2147483648 = 0) : sval z = 0 := by unfold sval; rw [h]; split <;> rfl
theorem sval_abs (z : Nat) : (sval z).natAbs = val (z % 2147483648) := by unfold sval; split <;> simp
theorem sval_sign {z : Nat} (hz : z < 4294967296) (h : sval z ≠ 0) : sn z = decide (sval z < 0) := by
  have hv : 0 < val (z % 2147483648) := by
    rcases Nat.eq_zero_or_pos (val (z % 2147483648)) with e | e
    · exfalso; apply h; unfold sval; rw [e]; split <;> rfl
    · exact e
  by_cases h' : z < 2147483648
  · rw [sval_pos h', decide_eq_false (by omega)]; unfold sn; rw [show z / 2147483648 % 2 = 0 by omega]; rfl
  · rw [sval_neg (by omega) hz, decide_eq_true (by omega)]; unfold sn; rw [show z / 2147483648 % 2 = 1 by omega]; rfl
theorem mul_keeps {x y c : Nat} (hx : x < 4294967296) (hy : y < 4294967296) (hc : c < 2147483648) (hc0 : 0 < c) (h : na x y) : na (fmul x c) (fmul y c) := by
  intro o1 o2
  obtain ⟨ox, oc⟩ := mul_args o1
  obtain ⟨oy, -⟩ := mul_args o2
  have hk := h ox oy
  have sc : sn c = false := by unfold sn; rw [show c / 2147483648 % 2 = 0 by omega]; rfl
  have hm : c % 2147483648 = c := Nat.mod_eq_of_lt hc
  have infx : ∀ z, z < 4294967296 → z % 2147483648 = 2139095040 → fmul z c = z := by
    intro z hz fz
    have h0 : Ieee.single.mul z c = ((Ieee.single.read z).product (Ieee.single.read c)).map Ieee.single.write := rfl
    rw [inf_read fz] at h0
    unfold fmul
    rw [h0]
    rcases fin_or oc with fc | fc
    · obtain ⟨m, k, e, v, -⟩ := read_fin c fc
      have hm0 : m ≠ 0 := by
        intro e0
        rw [e0, Nat.zero_mul, hm] at v
        have := val_lt hc0
        rw [show val 0 = 0 from rfl] at this
        omega
      rw [e]
      simp only [Ieee.Datum.product, if_neg hm0]
      have : (c / 2147483648 % 2 == 1) = false := sc
      rw [this, Bool.xor_false]; exact inf_write hz fz
    · rw [inf_read fc, sc]
      simp only [Ieee.Datum.product, Bool.xor_false]; exact inf_write hz fz
  rcases fin_or oc with fc | fc
  · rcases fin_or ox with fx | fx <;> rcases fin_or oy with fy | fy
    · obtain ⟨r1, e1, q1⟩ := fmul_fin x c fx fc
      obtain ⟨r2, e2, q2⟩ := fmul_fin y c fy fc
      rw [e1, e2, sc, Bool.xor_false, Bool.xor_false]
      rw [← sval_abs] at q1 q2
      have hs : sval x ≤ sval y := by
        have hsk := sval_key y x hy hx
        apply Int.le_of_not_gt
        intro hlt
        have := hsk.1.1 hlt
        omega
      exact signed_mono hs q1 q2 (sval_sign hx) (sval_sign hy)
    · rw [infx y hy fy]
      have b := key_bound (fmul_lt x c) o1
      have k1 := key_fin fx
      rcases key_inf hy fy with e | e <;> omega
    · rw [infx x hx fx]
      have b := key_bound (fmul_lt y c) o2
      have k1 := key_fin fy
      rcases key_inf hx fx with e | e <;> omega
    · rw [infx x hx fx, infx y hy fy]; exact hk
  · -- times what is without end
    have hci : c = 2139095040 := by omega
    have fz : ∀ z, z < 4294967296 → ok z = true → ok (fmul z c) = true → fmul z c = Ieee.single.word (sn z) 2139095040 ∧ z % 2147483648 ≠ 0 := by
      intro z hz oz o
      rcases fin_or oz with fz | fz
      · obtain ⟨m, k, e, v, -⟩ := read_fin z fz
        have h0 : Ieee.single.mul z c = ((Ieee.single.read z).product (Ieee.single.read c)).map Ieee.single.write := rfl
        rw [e, inf_read fc, sc] at h0
        by_cases hm0 : m = 0
        · simp only [Ieee.Datum.product, if_pos hm0] at h0
          unfold fmul at o
          rw [h0] at o
          exact absurd (show ok 2143289344 = true from o) (by decide)
        · simp only [Ieee.Datum.product, if_neg hm0] at h0
          refine ⟨by unfold fmul; rw [h0, Bool.false_xor]; rfl, fun e0 => hm0 ?_⟩
          rw [e0, show val 0 = 0 from rfl] at v
          rcases Nat.mul_eq_zero.1 v with h | h
          · exact h
          · have := Nat.two_pow_pos k; omega
      · have := word_sn z hz
        rw [fz] at this
        exact ⟨by rw [infx z hz fz, this], by omega⟩
    obtain ⟨e1, z1⟩ := fz x hx ox o1
    obtain ⟨e2, z2⟩ := fz y hy oy o2
    rw [e1, e2, key_word _ _ (by decide), key_word _ _ (by decide)]
    have kx : sn x = decide (key x < 0) := by
      by_cases h' : x < 2147483648
      · rw [key_pos h', decide_eq_false (by omega)]; unfold sn; rw [show x / 2147483648 % 2 = 0 by omega]; rfl
      · rw [key_neg (by omega), decide_eq_true (by omega)]; unfold sn; rw [show x / 2147483648 % 2 = 1 by omega]; rfl
    have ky : sn y = decide (key y < 0) := by
      by_cases h' : y < 2147483648
      · rw [key_pos h', decide_eq_false (by omega)]; unfold sn; rw [show y / 2147483648 % 2 = 0 by omega]; rfl
      · rw [key_neg (by omega), decide_eq_true (by omega)]; unfold sn; rw [show y / 2147483648 % 2 = 1 by omega]; rfl
    rw [kx, ky]
    by_cases n1 : key x < 0 <;> by_cases n2 : key y < 0
    · rw [decide_eq_true n1, decide_eq_true n2]; exact Int.le_refl _
    · rw [decide_eq_true n1, decide_eq_false n2]; decide
    · omega
    · rw [decide_eq_false n1, decide_eq_false n2]; exact Int.le_refl _
theorem of_keeps {n m : Int} (h : n ≤ m) : na (fof n) (fof m) := by
  intro _ _
  obtain ⟨r, e, hr⟩ := fof_near n
  obtain ⟨r', e', hr'⟩ := fof_near m
  rw [e, e']
  exact signed_mono (C := 2 ^ 149) h hr hr' (fun _ => rfl) (fun _ => rfl)
theorem froot_neg {x : Nat} (hx : x < 4294967296) (ox : ok x = true) (h : key x < 0) : froot x = 2143289344 := by
  have hs : 2147483648 ≤ x := by
    apply Nat.le_of_not_lt
    intro h'
    rw [key_pos h'] at h; omega
  have hk := key_neg hs
  rcases fin_or ox with f | f
  · obtain ⟨r, e, v, l⟩ := wide_fin x f
    have s1 : sn x = true := by unfold sn; rw [show x / 2147483648 % 2 = 1 by omega]; rfl
    rw [s1] at e
    obtain ⟨f1, f2⟩ := word_facts64 true r (by omega)
    obtain ⟨M, K, eR, vR, -, -⟩ := read_fin64 (wide x) (by rw [e, f1]; exact l)
    have f1' : wide x % 9223372036854775808 = r := by rw [e]; exact f1
    have f2' : (wide x / 9223372036854775808 % 2 == 1) = true := by rw [e]; exact f2
    rw [f1', v] at vR
    rw [f2'] at eR
    have hv0 : 0 < val (x % 2147483648) := by have := val_lt (show 0 < x % 2147483648 by omega); rwa [show val 0 = 0 from rfl] at this
    have hM0 : M ≠ 0 := by
      intro hz
      rw [hz, Nat.zero_mul] at vR
      have := Nat.mul_pos hv0 (Nat.two_pow_pos 925)
      omega
    have hsq : Ieee.double.sqrt (wide x) = none := by
      unfold Ieee.Format.sqrt
      rw [eR]
      simp [Ieee.Datum.root, hM0]
    unfold froot
    rw [if_pos ox, hsq]
  · have : x = 4286578688 := by omega
    subst this
    decide +kernel
theorem root_keeps {x y : Nat} (hx : x < 4294967296) (hy : y < 4294967296) (h : na x y) : na (froot x) (froot y) := by
  intro o1 o2
  have ox : ok x = true := by
    cases h1 : ok x
    · rw [froot_nan h1] at o1; exact absurd o1 (by decide)
    · rfl
  have oy : ok y = true := by
    cases h1 : ok y
    · rw [froot_nan h1] at o2; exact absurd o2 (by decide)
    · rfl
  have hk := h ox oy
  have kx : 0 ≤ key x := by
    apply Int.le_of_not_gt
    intro hlt
    rw [froot_neg hx ox hlt] at o1; exact absurd o1 (by decide)
  have zero : ∀ z, z < 4294967296 → key z = 0 → key (froot z) = 0 := by
    intro z hz e
    have : z = 0 ∨ z = 2147483648 := by
      by_cases h' : z < 2147483648
      · rw [key_pos h'] at e; omega
      · rw [key_neg (by omega)] at e; omega
    rcases this with rfl | rfl <;> decide +kernel
  have pos : ∀ z, z < 4294967296 → ok z = true → 0 < key z → z < 2147483648 ∧ 0 < z ∧ z ≤ 2139095040 := by
    intro z hz oz e
    have := ok_mod oz
    by_cases h' : z < 2147483648
    · rw [key_pos h'] at e; omega
    · rw [key_neg (by omega)] at e; omega
  have inf : key (froot 2139095040) = 2139095040 := by decide +kernel
  by_cases ex : key x = 0
  · rw [zero x hx ex]
    by_cases ey : key y = 0
    · rw [zero y hy ey]; exact Int.le_refl _
    · obtain ⟨p1, p2, p3⟩ := pos y hy oy (by omega)
      by_cases ei : y = 2139095040
      · rw [ei, inf]; decide
      · obtain ⟨_, s, _, e, _⟩ := froot_mono y y p2 (Nat.le_refl _) (by omega)
        rw [e, key_word _ _ (by omega)]; simp only [Bool.false_eq_true, if_false]; omega
  · obtain ⟨p1, p2, p3⟩ := pos x hx ox (by omega)
    obtain ⟨q1, q2, q3⟩ := pos y hy oy (by omega)
    rw [key_pos p1, key_pos q1] at hk
    by_cases ei : y = 2139095040
    · rw [ei, inf]
      exact (key_bound (froot_lt x) o1).2
    · obtain ⟨r, s, e1, e2, hrs⟩ := froot_mono x y p2 (by omega) (by omega)
      rw [e1, e2, key_word _ _ (by omega), key_word _ _ (by omega)]
      simp only [Bool.false_eq_true, if_false]; omega
end Go.Proofs.Ytkmefmgicbohnaa
namespace Go.Proofs.Ytkmefmgicbohnaa
open Go.RowKit

theorem read_rd (a : Nat) (h : a % 2147483648 < 2139095040) : Ieee.single.read a = .number (sn a) (rdm a) (-149 + (rdk a : Int)) := by
  rw [read_single]; unfold rdm rdk sn
  split
  · simp
  · rw [show a % 2147483648 % 8388608 = a % 8388608 by omega]
theorem sg_sn (a : Nat) (h : a < 4294967296) : sn a = sg a := by
  unfold sn sg
  rw [Bool.eq_iff_iff]
  simp only [beq_iff_eq, decide_eq_true_eq]
  omega
def sgn (s : Bool) (x : Nat) : Int := if s then -(x : Int) else (x : Int)
theorem word_wrd (m : Bool) (r : Nat) (_ : r < 2147483648) : Ieee.single.word m r = wrd m r := by
  have e1 : Ieee.single.signWeight = 2147483648 := rfl
  unfold Ieee.Format.word wrd
  rw [e1]
  cases m
  · simp
  · simp
theorem sgn_lt (ma mb : Bool) (h : ma ≠ mb) (u v : Nat) (hc : u < v) : (sgn ma u + sgn mb v).natAbs = v - u ∧ (if sgn ma u + sgn mb v = 0 then ma && mb else decide (sgn ma u + sgn mb v < 0)) = mb := by
  unfold sgn
  cases ma <;> cases mb
  · exact absurd rfl h
  · simp only [Bool.false_eq_true, if_false, if_true]
    rw [if_neg (by omega)]
    exact ⟨by omega, decide_eq_true (by omega)⟩
  · simp only [Bool.false_eq_true, if_false, if_true]
    rw [if_neg (by omega)]
    exact ⟨by omega, decide_eq_false (by omega)⟩
  · exact absurd rfl h
theorem sgn_gt (ma mb : Bool) (h : ma ≠ mb) (u v : Nat) (hc : v < u) : (sgn ma u + sgn mb v).natAbs = u - v ∧ (if sgn ma u + sgn mb v = 0 then ma && mb else decide (sgn ma u + sgn mb v < 0)) = ma := by
  unfold sgn
  cases ma <;> cases mb
  · exact absurd rfl h
  · simp only [Bool.false_eq_true, if_false, if_true]
    rw [if_neg (by omega)]
    exact ⟨by omega, decide_eq_false (by omega)⟩
  · simp only [Bool.false_eq_true, if_false, if_true]
    rw [if_neg (by omega)]
    exact ⟨by omega, decide_eq_true (by omega)⟩
  · exact absurd rfl h
theorem sgn_eq (ma mb : Bool) (h : ma ≠ mb) (u : Nat) : sgn ma u + sgn mb u = 0 ∧ (ma && mb) = false := by
  unfold sgn
  cases ma <;> cases mb
  · exact absurd rfl h
  · simp only [Bool.false_eq_true, if_false, if_true]; exact ⟨by omega, rfl⟩
  · simp only [Bool.false_eq_true, if_false, if_true]; exact ⟨by omega, rfl⟩
  · exact absurd rfl h
theorem fsum_rd (a b : Nat) (fa : a % 2147483648 < 2139095040) (fb : b % 2147483648 < 2139095040) (X Y : Nat) (p : Int) (hp : min (-149 + (rdk a : Int)) (-149 + (rdk b : Int)) = p) (hX : -149 + (rdk a : Int) - p = X) (hY : -149 + (rdk b : Int) - p = Y) (T : Int) (hT : sgn (sn a) (rdm a * 2 ^ X) + sgn (sn b) (rdm b * 2 ^ Y) = T) :
    fsum a b = Ieee.single.word (if T = 0 then sn a && sn b else decide (T < 0)) (min (rg Ieee.single T.natAbs p) 2139095040) := by
  have h0 : Ieee.single.add a b = ((Ieee.single.read a).sum (Ieee.single.read b)).map Ieee.single.write := rfl
  rw [read_rd a fa, read_rd b fb] at h0
  simp only [Ieee.Datum.sum, Option.map_some] at h0
  rw [hp, hX, hY, Int.toNat_natCast, Int.toNat_natCast, signed_val, signed_val] at h0
  have e : ((if sn a = true then -((rdm a * 2 ^ X : Nat) : Int) else ((rdm a * 2 ^ X : Nat) : Int)) + if sn b = true then -((rdm b * 2 ^ Y : Nat) : Int) else ((rdm b * 2 ^ Y : Nat) : Int)) = T := hT
  rw [e] at h0
  unfold fsum
  rw [h0, nearest_word]
  rfl
/-- what a word stands for, as the document has it -/
def tv (a : Nat) : Value := if ok a = false then vN else if a % 2147483648 = 2139095040 then vE (sg a) else vF (sg a) (rdm a) (-149 + (rdk a : Int))
theorem tv_none {a : Nat} (h : ok a = false) : tv a = vN := by rw [tv, if_pos h]
theorem tv_inf {a : Nat} (h : a % 2147483648 = 2139095040) : tv a = vE (sg a) := by rw [tv, if_neg (by simp [ok, h]), if_pos h]
theorem tv_fin {a : Nat} (h : a % 2147483648 < 2139095040) : tv a = vF (sg a) (rdm a) (-149 + (rdk a : Int)) := by rw [tv, if_neg (by simp [ok]; omega), if_neg (by omega)]
theorem ok_cases (a : Nat) : ok a = false ∨ a % 2147483648 = 2139095040 ∨ a % 2147483648 < 2139095040 := by
  unfold ok
  by_cases h : a % 2147483648 ≤ 2139095040
  · right; omega
  · left; exact decide_eq_false h
theorem take_any (a : Nat) (w : World) (h : a < 4294967296) :
    Calls Try.prog 22 #[.int .u32 a] w fun e w' => e = .returned (tv a) ∧ Below w.heap.size w w' := by
  rcases ok_cases a with h1 | h1 | h1
  · rw [tv_none h1]; exact take_none a w h h1
  · rw [tv_inf h1]; exact take_endless a w h h1
  · rw [tv_fin h1]; exact take_fin a w h h1
theorem rd_k {a : Nat} (h : a % 2147483648 < 2139095040) : rdk a ≤ 253 ∧ rdm a < 16777216 := by
  obtain ⟨h1, h2, h3⟩ := rd_rung a
  exact ⟨by omega, h2⟩
/-- what is laid is this word -/
def LayV (v : Value) (x : Nat) : Prop := ∀ w, Calls Try.prog 15 #[v] w fun e w' => e = .returned (.int .u32 (x : Int)) ∧ Below w.heap.size w w'
theorem layV_fit {m : Bool} {n : Nat} {p : Int} {r x : Nat} (h : Fits n p r) (hx : x = wrd m (min r 2139095040)) : LayV (hdV m n p) x := fun w => by rw [hx]; exact lay_any m n p r w h

end Go.Proofs.Ytkmefmgicbohnaa
namespace Go.Proofs.Ytkmefmgicbohnaa
open Go.RowKit

end Go.Proofs.Ytkmefmgicbohnaa
namespace Go.Proofs.Ytkmefmgicbohnaa
open Go.RowKit

theorem tn_mod (b : Nat) (h : b < 4294967296) : tn b % 2147483648 = b % 2147483648 ∧ sg (tn b) = !sg b := by
  unfold tn sg
  split
  · exact ⟨by omega, by rw [decide_eq_true (by omega), decide_eq_false (by omega)]; rfl⟩
  · exact ⟨by omega, by rw [decide_eq_false (by omega), decide_eq_true (by omega)]; rfl⟩
theorem rdm_mod {a b : Nat} (h : a % 2147483648 = b % 2147483648) : rdm a = rdm b ∧ rdk a = rdk b := by
  unfold rdm rdk
  rw [h, show a % 8388608 = b % 8388608 by omega]
  exact ⟨rfl, rfl⟩
theorem fsum_inf_n {x c : Nat} (hi : x % 2147483648 = 2139095040) (hj : c % 2147483648 = 2139095040) (hs : sn x ≠ sn c) : fsum x c = 2143289344 := by
  have h0 : Ieee.single.add x c = ((Ieee.single.read x).sum (Ieee.single.read c)).map Ieee.single.write := rfl
  rw [inf_read hi, inf_read hj] at h0
  unfold fsum
  rw [h0]
  simp only [Ieee.Datum.sum, if_neg hs]
  rfl
theorem fsum_inf_s {x c : Nat} (hx : x < 4294967296) (hi : x % 2147483648 = 2139095040) (hj : c % 2147483648 = 2139095040) (hs : sn x = sn c) : fsum x c = x := by
  have h0 : Ieee.single.add x c = ((Ieee.single.read x).sum (Ieee.single.read c)).map Ieee.single.write := rfl
  rw [inf_read hi, inf_read hj] at h0
  unfold fsum
  rw [h0]
  simp only [Ieee.Datum.sum, if_pos hs]
  exact inf_write hx hi
theorem fsum_inf_f {x c : Nat} (hx : x < 4294967296) (hi : x % 2147483648 = 2139095040) (hf : c % 2147483648 < 2139095040) : fsum x c = x := by
  have h0 : Ieee.single.add x c = ((Ieee.single.read x).sum (Ieee.single.read c)).map Ieee.single.write := rfl
  obtain ⟨m, k, e, -⟩ := read_fin c hf
  rw [inf_read hi, e] at h0
  unfold fsum
  rw [h0]
  exact inf_write hx hi
theorem fsum_fin_i {x c : Nat} (hc : c < 4294967296) (hi : c % 2147483648 = 2139095040) (hf : x % 2147483648 < 2139095040) : fsum x c = c := by
  have e : fsum x c = fsum c x := by unfold fsum Ieee.Format.add; rw [sum_comm']
  rw [e]; exact fsum_inf_f hc hi hf
theorem wrd_inf {a : Nat} (h : a < 4294967296) (hi : a % 2147483648 = 2139095040) : wrd (sg a) 2139095040 = a := by
  have := wrd_sg a h
  rwa [hi] at this
theorem layAt {v : Value} {x : Nat} (h : LayV v x) (w : World) : Calls Try.prog 15 #[v] w fun e w' => e = .returned (.int .u32 (x : Int)) ∧ Below w.heap.size w w' := h w
theorem layV_none : LayV vN 2143289344 := fun w => lay_none w
theorem layV_inf {a : Nat} (h : a < 4294967296) (hi : a % 2147483648 = 2139095040) : LayV (vE (sg a)) a := fun w => by
  have := lay_endless (sg a) w
  rwa [wrd_inf h hi] at this
end Go.Proofs.Ytkmefmgicbohnaa
namespace Go.Proofs.Ytkmefmgicbohnaa
open Go.RowKit

theorem nv_nil (w : World) : NatV w (.slice none 0 0) 0 := ⟨none, 0, [], rfl, Nat.le_refl _, fun _ => rfl, rfl, Or.inl rfl, (fun z hz => by simp at hz), fun h => by simp at h⟩
theorem NatV.on {w W : World} {v : Value} {x : Nat} (h : NatV w v x) (hb : Below w.heap.size w W) : NatV W v x := h.below hb
theorem NatV.step {w W w' : World} {v : Value} {x : Nat} (h : NatV w v x) (h1 : Below w.heap.size w W) (hb : Below W.heap.size W w') : NatV w' v x := h.below (bt2 hb h1)
theorem up_nv (v : Value) (x n : Nat) (w : World) (h : NatV w v x) (hx : x < 18446744073709551616) (hn : n ≤ 10000) :
    Calls Try.prog 29 #[v, .int .i64 n] w fun e w' => (∃ v', e = .returned v' ∧ NatV w' v' (x * 2 ^ n)) ∧ Below w.heap.size w w' := by
  obtain ⟨ao, cap, zs, rfl, hc, hn', hval, hN, hW, hr⟩ := h
  have := up_any ao cap zs n w (by have := small_len hN hval hx; omega) hn hr hW
  rw [hval] at this
  exact this
theorem against_nv (v u : Value) (x y k : Nat) (w : World) (h : NatV w v x) (h' : NatV w u y) (hx : x < 2 ^ (32 * k)) (hy : y < 2 ^ (32 * k)) (hk : k ≤ 1000) :
    Calls Try.prog 36 #[v, u] w fun e w' => e = .returned (.int .i64 (ag x y)) ∧ ∃ m, w' = w.drewN m := by
  obtain ⟨ao, cap, zs, rfl, hc, hn', hval, hN, hW, hr⟩ := h
  obtain ⟨ao2, cap2, zs2, rfl, hc2, hn2, hval2, hN2, hW2, hr2⟩ := h'
  have := against_any ao ao2 cap cap2 zs zs2 w (by have := len_pow hN hval k hx; omega) (by have := len_pow hN2 hval2 k hy; omega) hr hr2 hW hW2 hN hN2
  rw [hval, hval2] at this
  exact this
theorem gF {w W : World} {sa : Int} {ma : Bool} {na pa : Int} {sb : Int} {mb : Bool} {nb pb : Int} (h : Below ((w.alloc (oV sa ma na pa)).alloc (oV sb mb nb pb)).heap.size ((w.alloc (oV sa ma na pa)).alloc (oV sb mb nb pb)) W) :
    W.cell? ⟨w.heap.size, 0, none⟩ = some (.int .u8 sa) ∧ W.cell? ⟨w.heap.size, 1, none⟩ = some (.bool ma) ∧ W.cell? ⟨w.heap.size, 2, none⟩ = some (.int .u64 na) ∧ W.cell? ⟨w.heap.size, 3, none⟩ = some (.int .i64 pa) ∧ W.cell? ⟨w.heap.size + 1, 0, none⟩ = some (.int .u8 sb) ∧ W.cell? ⟨w.heap.size + 1, 1, none⟩ = some (.bool mb) ∧ W.cell? ⟨w.heap.size + 1, 2, none⟩ = some (.int .u64 nb) ∧ W.cell? ⟨w.heap.size + 1, 3, none⟩ = some (.int .i64 pb) := by
  refine ⟨?_, ?_, ?_, ?_, ?_, ?_, ?_, ?_⟩
  · refine (h.cell (p := ⟨w.heap.size, 0, none⟩) (by simp only [sz1]; omega)).trans ?_
    rw [cin _ _ _ (by simp only [sz1]; omega)]
    exact World.cell?_alloc_new _ _ _ _
  · refine (h.cell (p := ⟨w.heap.size, 1, none⟩) (by simp only [sz1]; omega)).trans ?_
    rw [cin _ _ _ (by simp only [sz1]; omega)]
    exact World.cell?_alloc_new _ _ _ _
  · refine (h.cell (p := ⟨w.heap.size, 2, none⟩) (by simp only [sz1]; omega)).trans ?_
    rw [cin _ _ _ (by simp only [sz1]; omega)]
    exact World.cell?_alloc_new _ _ _ _
  · refine (h.cell (p := ⟨w.heap.size, 3, none⟩) (by simp only [sz1]; omega)).trans ?_
    rw [cin _ _ _ (by simp only [sz1]; omega)]
    exact World.cell?_alloc_new _ _ _ _
  · refine (h.cell (p := ⟨w.heap.size + 1, 0, none⟩) (by simp only [sz1]; omega)).trans ?_
    rw [show w.heap.size + 1 = (w.alloc (oV sa ma na pa)).heap.size by simp only [sz1]]
    exact World.cell?_alloc_new _ _ _ _
  · refine (h.cell (p := ⟨w.heap.size + 1, 1, none⟩) (by simp only [sz1]; omega)).trans ?_
    rw [show w.heap.size + 1 = (w.alloc (oV sa ma na pa)).heap.size by simp only [sz1]]
    exact World.cell?_alloc_new _ _ _ _
  · refine (h.cell (p := ⟨w.heap.size + 1, 2, none⟩) (by simp only [sz1]; omega)).trans ?_
    rw [show w.heap.size + 1 = (w.alloc (oV sa ma na pa)).heap.size by simp only [sz1]]
    exact World.cell?_alloc_new _ _ _ _
  · refine (h.cell (p := ⟨w.heap.size + 1, 3, none⟩) (by simp only [sz1]; omega)).trans ?_
    rw [show w.heap.size + 1 = (w.alloc (oV sa ma na pa)).heap.size by simp only [sz1]]
    exact World.cell?_alloc_new _ _ _ _
end Go.Proofs.Ytkmefmgicbohnaa
namespace Go.Proofs.Ytkmefmgicbohnaa
open Go.RowKit

theorem plus_nv (v u : Value) (x y k : Nat) (w : World) (h : NatV w v x) (h' : NatV w u y) (hx : x < 2 ^ (32 * k)) (hy : y < 2 ^ (32 * k)) (hk : k ≤ 1000) :
    Calls Try.prog 28 #[v, u] w fun e w' => (∃ v', e = .returned v' ∧ NatV w' v' (x + y)) ∧ Below w.heap.size w w' := by
  obtain ⟨ao, cap, zs, rfl, hc, hn', hval, hN, hW, hr⟩ := h
  obtain ⟨ao2, cap2, zs2, rfl, hc2, hn2, hval2, hN2, hW2, hr2⟩ := h'
  have := plus_any ao ao2 cap cap2 zs zs2 w (by have := len_pow hN hval k hx; omega) (by have := len_pow hN2 hval2 k hy; omega) hr hr2 hW hW2
  rw [hval, hval2] at this
  exact this
theorem cut_nv (v : Value) (x k : Nat) (w : World) (h : NatV w v x) (hx : x < 2 ^ (32 * k)) (hk : k ≤ 1000) :
    Calls Try.prog 37 #[v] w fun e w' => (∃ v', e = .returned v' ∧ NatV w' v' x) ∧ Below w.heap.size w w' := by
  obtain ⟨ao, cap, zs, rfl, hc, hn', hval, hN, hW, hr⟩ := h
  refine (cut_any ao cap zs w hc (by have := len_pow hN hval k hx; omega) hr hn').mono ?_
  rintro e wq ⟨⟨nn, hnn, rfl, ht, hN'⟩, rfl⟩
  have hl3 : (zs.take nn).length = nn := by simp; omega
  exact ⟨⟨_, rfl, ao, cap, zs.take nn, by rw [hl3], by rw [hl3]; omega, hn', by rw [ht]; exact hval, hN', words_take hW nn, hr.take nn hnn⟩, Below.refl _ _⟩
theorem take_split (ys : List Nat) (i : Nat) (h : i < ys.length) : nv (ys.take (i + 1)) = nv (ys.take i) + 4294967296 ^ i * ys.getD i 0 := by
  have e1 : ys.take (i + 1) = ys.take i ++ [ys.getD i 0] := by
    rw [List.take_succ_eq_append_getElem h]
    simp [List.getD, List.getElem?_eq_getElem h]
  rw [e1, nv_append, show (ys.take i).length = i by simp; omega]
  simp [nv]
theorem prod_lt {x y : Nat} (hx : x < 4294967296) (hy : y < 4294967296) {c : Nat} (hc : c < 4294967296) : x * y + c < 18446744073709551616 ∧ (x * y + c) / 4294967296 < 4294967296 := by
  have h := Nat.mul_le_mul (show x ≤ 4294967295 by omega) (show y ≤ 4294967295 by omega)
  omega
theorem nv_take_le (zs : List Nat) (hW : Words zs) (k i : Nat) (h : zs.length ≤ k) : nv (zs.take i) < 2 ^ (32 * k) := by
  have h1 := nv_lt (words_take hW i)
  refine Nat.lt_of_lt_of_le h1 ?_
  rw [show (4294967296 : Nat) = 2 ^ 32 from rfl, ← Nat.pow_mul]
  exact Nat.pow_le_pow_right (by decide) (by simp; omega)

theorem mul_pow_lt {x y k j : Nat} (hx : x < 2 ^ (32 * k)) (hy : y < 2 ^ (32 * j)) : x * y < 2 ^ (32 * (k + j)) := by
  have h3 := Nat.mul_lt_mul'' hx hy
  rw [← Nat.pow_add, ← Nat.mul_add] at h3
  exact h3
theorem own_dr {W : World} {B e : Nat} {v : Value} {n : Nat} {xs : List Value} {o : Obj} (q : Nat) (h : W.ownsRow B e 1 v n xs) : ((W.drewN q).alloc o).ownsRow B e 1 v n xs := World.ownsRow.alloc (show (W.drewN q).ownsRow B e 1 v n xs from h) o
set_option maxRecDepth 100000 in
set_option maxHeartbeats 4000000 in
theorem times_any (ao bo : Option Addr) (ca cb : Nat) (zs ys : List Nat) (w : World) (hl : zs.length ≤ 10) (hl2 : ys.length ≤ 10) (hr : ReadsU w ao zs w.heap.size) (hr2 : ReadsU w bo ys w.heap.size) (hW : Words zs) (hW2 : Words ys) :
    Calls Try.prog 51 #[.slice ao zs.length ca, .slice bo ys.length cb] w fun e w' => (∃ v, e = .returned v ∧ NatV w' v (nv zs * nv ys)) ∧ Below w.heap.size w w' := by
  obtain ⟨i0, hi, hz0, hz1, hz2⟩ := info_parts Try.infoU
  have HBND : Hid (∀ i, nv zs * nv (ys.take i) < 2 ^ (32 * (10 + 10))) := by
    intro i
    have h1 := nv_take_le zs hW 10 zs.length hl
    rw [List.take_length] at h1
    exact mul_pow_lt (k := 10) (j := 10) h1 (nv_take_le ys hW2 10 i hl2)
  have hemp : NatV (w.alloc (.cells #[] 25)) (.slice (some ⟨w.heap.size, 0, none⟩) 0 0) 0 := ⟨_, 0, [], rfl, Nat.le_refl _, (fun h => by cases h), rfl, Or.inl rfl, (fun z hz => by simp at hz), (fun h => by simp at h)⟩
  go_enter Try.func51, Try.ntmps51
  go_wp2
  go_loopw [5, 6, 7, 8, 9, 10] (fun v i _ _ _ _ wr => ∃ k : Nat, k ≤ ys.length ∧ i = .int .i64 k ∧ NatV wr v (nv zs * nv (ys.take k)) ∧ Below w.heap.size w wr)
    (fun _ i _ _ _ _ _ => ys.length - (intOf i).toNat)
  case atStart => exact ⟨0, Nat.zero_le _, rfl, by simpa [nv] using hemp, bel (Below.refl _ _)⟩
  case round =>
    obtain ⟨k, hk, rfl, hv, hb⟩ := hrel
    rename World => wr
    by_cases hlt : k < ys.length
    · have hltI : (k : Int) < (ys.length : Int) := by omega
      obtain ⟨yb, yoff, rfl, hybl, hyc⟩ := (hr2.below hb) (by omega)
      have hyk := hyc k hlt
      have hyw := words_get hW2 k
      have HSP : Hid (nv (ys.take (k + 1)) = nv (ys.take k) + 4294967296 ^ k * ys.getD k 0) := take_split ys k hlt
      generalize ys.getD k 0 = y at *
      clear hyc
      have hB := hb.size
      have hown0 : (wr.alloc (.cells #[] 25)).ownsRow wr.heap.size 25 1 (.slice (some ⟨wr.heap.size, 0, none⟩) 0 0) 0 (uk []) := World.ownsRow_made wr #[] 0 (Nat.le_refl _) (by decide) rfl
      have HV : Hid (NatV wr _ (nv zs * nv (ys.take k))) := hv
      clear hv
      go_wp2
      go_loopw [7, 8, 9, 10] (fun rv c j _ W => ∃ m cr : Nat, ∃ L : List Nat, m ≤ zs.length ∧ j = .int .i64 m ∧ c = .int .u64 (cr : Int) ∧ cr < 4294967296 ∧ L.length = m ∧ Words L ∧ Hid (nv L + 4294967296 ^ m * cr = nv (zs.take m) * y) ∧ W.ownsRow wr.heap.size 25 1 rv m (uk L) ∧ Below wr.heap.size wr W)
        (fun _ _ j _ _ => zs.length - (intOf j).toNat)
      case atStart => exact ⟨0, 0, [], Nat.zero_le _, rfl, rfl, by decide, rfl, (fun z hz => by simp at hz), by rw [Hid]; simp [nv], hown0, bel (Below.refl _ _)⟩
      case round =>
        obtain ⟨m, cr, L, hm, rfl, rfl, hcr, hLl, hLW, HVL, hown, hbW⟩ := hrel
        rename World => W
        have hBW := hbW.size
        by_cases hmlt : m < zs.length
        · have hmI : (m : Int) < (zs.length : Int) := by omega
          obtain ⟨zb, zoff, rfl, hzbl, hzc⟩ := (hr.below (hb.trans (hbW.mono hB))) (by omega)
          have hzm := hzc m hmlt
          have hzw := words_get hW m
          have HSZ : Hid (nv (zs.take (m + 1)) = nv (zs.take m) + 4294967296 ^ m * zs.getD m 0) := take_split zs m hmlt
          generalize zs.getD m 0 = z at *
          clear hzc
          have hykW : W.cell? ⟨yb, yoff + k, none⟩ = some (.int .u32 (y : Nat)) := (hbW.cell (p := ⟨yb, yoff + k, none⟩) (show yb < wr.heap.size by omega)).trans hyk
          obtain ⟨hX1, hX2⟩ := prod_lt hzw hyw hcr
          obtain ⟨p, hp⟩ : ∃ p, z * y = p := ⟨_, rfl⟩
          have hpI : (z : Int) * (y : Int) = (p : Int) := by rw [← hp]; exact (Int.natCast_mul z y).symm
          rw [hp] at hX1 hX2
          obtain ⟨X, hX⟩ : ∃ X, p + cr = X := ⟨_, rfl⟩
          have hXI : (p : Int) + (cr : Int) = (X : Int) := by omega
          rw [hX] at hX1 hX2
          obtain ⟨lo, hlo⟩ : ∃ lo, X % 4294967296 = lo := ⟨_, rfl⟩
          obtain ⟨hh, hhi⟩ : ∃ hh, X / 4294967296 = hh := ⟨_, rfl⟩
          have e2 : (X : Int) % 4294967296 = (lo : Int) := by omega
          have e2' : IntKind.u32.wrap (X : Int) = (lo : Int) := by rw [IntKind.wrap_u32']; omega
          have e3 : (X : Int) / 4294967296 = (hh : Int) := by omega
          have hlol : lo < 4294967296 := by omega
          have hpl : p < 18446744073709551616 := by omega
          rw [hhi] at hX2
          have HV2 : Hid (nv (L ++ [lo]) + 4294967296 ^ (m + 1) * hh = nv (zs.take (m + 1)) * y) := by
            have h5 := HVL.out
            rw [Hid, nv_append, hLl, HSZ.out, Nat.add_mul, ← h5, Nat.mul_assoc, hp, Nat.pow_succ, Nat.mul_assoc]
            have h6 : X = lo + 4294967296 * hh := by omega
            have h7 : 4294967296 ^ m * p + 4294967296 ^ m * cr = 4294967296 ^ m * lo + 4294967296 ^ m * (4294967296 * hh) := by rw [← Nat.mul_add, hX, h6, Nat.mul_add]
            rw [show nv [lo] = lo by simp [nv]]
            omega
          have HLW : Hid (Words (L ++ [lo])) := by
            intro q hq
            rcases List.mem_append.1 hq with h | h
            · exact hLW q h
            · simp at h; omega
          have HLL : Hid ((L ++ [lo]).length = m + 1) := by rw [Hid]; simp [hLl]
          clear hLW hLl hlo hhi hX hp HVL hyk
          go_wp2
          go_quiet (fail)
          go_wp2_with (at_builtin; refine wpList_append_own _ rfl _ _ 44 rfl wr.heap.size 25 i0 (.int .u32 0) 1 4 Try.underlying44 hi hz0 hz1 hz2 rfl (by decide) _ _ _ rfl (own_dr _ hown) ⟨_, 0, none⟩ 1 1 [.int .u32 (lo : Int)] rfl rfl ?c1 ?c2 ?c3 ?c4 ?c5 ?_)
          case c1 =>
            intro j u hj
            match j, hj with
            | 0, hj => simp at hj; subst hj; simp only [Addr.add]; exact World.cell?_alloc_new (W.drewN nq) _ _ _
          case c2 => intro u hu; simp at hu; subst hu; rfl
          case c3 => unfold maxLen; omega
          case c4 => omega
          case c5 => simp; omega
          intro v' w1 hown' hgrow _
          have R1 : w1.ownsRow wr.heap.size 25 1 v' (m + 1) (uk (L ++ [lo])) := own_snocU hown'
          have hbD : Below wr.heap.size wr (W.drewN nq) := bt3 hbW
          have R2 := grown_belowU hbD hbD.size (show (W.drewN nq).ownsRow wr.heap.size 25 1 _ m (uk L) from hown) hgrow
          clear hown' hgrow hown
          go_wp2
          go_roundw
          case rel => exact ⟨m + 1, hh, L ++ [lo], by omega, by go_num, rfl, hX2, HLL.out, HLW.out, HV2, R1, R2⟩
          case measure => simp [intOf]; omega
        · obtain rfl : m = zs.length := by omega
          have HV3 : Hid (nv (L ++ [cr]) = nv zs * y) := by
            have h5 := HVL.out
            rw [List.take_length] at h5
            rw [Hid, nv_append, hLl, show nv [cr] = cr by simp [nv]]
            exact h5
          have HLW : Hid (Words (L ++ [cr])) := by
            intro q hq
            rcases List.mem_append.1 hq with h | h
            · exact hLW q h
            · simp at h; omega
          have HLL : Hid ((L ++ [cr]).length = zs.length + 1) := by rw [Hid]; simp [hLl]
          have hwc : IntKind.u32.wrap (cr : Int) = (cr : Int) := by rw [IntKind.wrap_u32']; omega
          have hwc2 : (cr : Int) % 4294967296 = (cr : Int) := by omega
          obtain ⟨q, hq⟩ : ∃ q, 32 * k = q := ⟨_, rfl⟩
          have hqI : 32 * (k : Int) = (q : Int) := by omega
          have HQ : Hid (32 * k = q) := hq
          have hq10 : q ≤ 320 := by omega
          clear hLW hLl HVL hyk hq
          go_wp2_with (first
            | (at_builtin; refine wpList_append_own _ rfl _ _ 44 rfl wr.heap.size 25 i0 (.int .u32 0) 1 4 Try.underlying44 hi hz0 hz1 hz2 rfl (by decide) _ _ _ rfl (hown.alloc _) ⟨_, 0, none⟩ 1 1 [.int .u32 (cr : Int)] rfl rfl ?d1 ?d2 ?d3 ?d4 ?d5 ?_))
          case d1 =>
            intro j u hj
            match j, hj with
            | 0, hj => simp at hj; subst hj; simp [Addr.add]
          case d2 => intro u hu; simp at hu; subst hu; rfl
          case d3 => unfold maxLen; omega
          case d4 => omega
          case d5 => simp; omega
          intro v' w1 hown' hgrow _
          have R1 : w1.ownsRow wr.heap.size 25 1 v' (zs.length + 1) (uk (L ++ [cr])) := own_snocU hown'
          have R2 : Below wr.heap.size wr w1 := grown_belowU hbW hBW hown hgrow
          clear hown' hgrow hown
          rw [← HLL.out] at R1
          obtain ⟨ao', cap', rfl, hrd⟩ := own_readsU R1
          have HVO := HV.out.on R2
          have uu := up_any ao' cap' (L ++ [cr]) q w1 (by rw [HLL.out]; omega) (by omega) hrd HLW.out
          rw [HV3.out] at uu
          have HBW : Below w.heap.size w w1 := hb.trans (R2.mono hB)
          have HPY : Hid (nv zs * y * 2 ^ q < 2 ^ (32 * (10 + 10))) := by
            have h1 := HBND.out (k + 1)
            rw [HSP.out, Nat.mul_add] at h1
            rw [Hid, ← HQ.out, Nat.pow_mul, show (2 : Nat) ^ 32 = 4294967296 from rfl, Nat.mul_assoc, Nat.mul_comm y]
            exact Nat.lt_of_le_of_lt (Nat.le_add_left _ _) h1
          have HRES : Hid (nv zs * nv (ys.take k) + nv zs * y * 2 ^ q = nv zs * nv (ys.take (k + 1))) := by
            rw [Hid, HSP.out, Nat.mul_add, ← HQ.out, Nat.pow_mul, show (2 : Nat) ^ 32 = 4294967296 from rfl, Nat.mul_assoc, Nat.mul_comm y]
          generalize (L ++ [cr]).length = len at *
          clear R1 hrd
          go_wp2_with (first
            | (go_at_call 29; with_reducible refine uu.mono ?_; rintro e w2 ⟨⟨v2, rfl, hv2⟩, hb2⟩)
            | (go_at_call 28; with_reducible refine (plus_nv _ _ _ _ (10 + 10) _ (HVO.on hb2) hv2 (HBND.out k) HPY.out (by omega)).mono ?_; rintro e w3 ⟨⟨v3, rfl, hv3⟩, hb3⟩; rw [HRES.out] at hv3))
          go_roundw
          case rel => exact ⟨k + 1, by omega, by go_num, hv3, bt2 hb3 (bt2 hb2 HBW)⟩
          case measure => simp [intOf]; omega
    · obtain rfl : k = ys.length := by omega
      rw [List.take_length] at hv
      have HBN2 := HBND.out ys.length
      rw [List.take_length] at HBN2
      have cc := cut_nv _ _ (10 + 10) _ hv HBN2 (by omega)
      clear hv HBN2
      go_wp2_with (go_at_call 37; with_reducible refine cc.mono ?_; rintro e w2 ⟨⟨v2, rfl, hv2⟩, hb2⟩)
      go_ret
      exact ⟨⟨_, rfl, hv2⟩, bt2 hb2 hb⟩
theorem times_nv (v u : Value) (x y : Nat) (w : World) (h : NatV w v x) (h' : NatV w u y) (hx : x < 18446744073709551616) (hy : y < 18446744073709551616) :
    Calls Try.prog 51 #[v, u] w fun e w' => (∃ v', e = .returned v' ∧ NatV w' v' (x * y)) ∧ Below w.heap.size w w' := by
  obtain ⟨ao, cap, zs, rfl, hc, hn', hval, hN, hW, hr⟩ := h
  obtain ⟨ao2, cap2, zs2, rfl, hc2, hn2, hval2, hN2, hW2, hr2⟩ := h'
  have := times_any ao ao2 cap cap2 zs zs2 w (by have := small_len hN hval hx; omega) (by have := small_len hN2 hval2 hy; omega) hr hr2 hW hW2
  rw [hval, hval2] at this
  exact this
end Go.Proofs.Ytkmefmgicbohnaa
namespace Go.Proofs.Ytkmefmgicbohnaa
open Go.RowKit

theorem dbl_lt {x k : Nat} (h : x < 2 ^ (32 * k)) : x * 2 < 2 ^ (32 * (k + 1)) := by
  have h1 : 2 ^ (32 * k) * 2 ≤ 2 ^ (32 * (k + 1)) := by
    rw [← Nat.pow_succ]; exact Nat.pow_le_pow_right (by decide) (by omega)
  omega
theorem inc_lt {x k : Nat} (h : x < 2 ^ (32 * k)) : x + 1 < 2 ^ (32 * (k + 1)) := by
  have h1 : 2 ^ (32 * k) * 2 ≤ 2 ^ (32 * (k + 1)) := by
    rw [← Nat.pow_succ]; exact Nat.pow_le_pow_right (by decide) (by omega)
  have h2 := Nat.two_pow_pos (32 * k)
  omega
theorem nn_lt {x NN k : Nat} (h : x * 2 + 1 = NN) (hx : x < 2 ^ (32 * k)) : NN < 2 ^ (32 * (k + 1)) := by
  have h1 : 2 ^ (32 * k) * 2 ≤ 2 ^ (32 * (k + 1)) := by
    rw [← Nat.pow_succ]; exact Nat.pow_le_pow_right (by decide) (by omega)
  omega
theorem one_lt (k : Nat) (h : 0 < k) : 1 < 2 ^ (32 * k) := Nat.one_lt_two_pow (by omega)
theorem lenz {zs : List Nat} (_ : Norm zs) (h : nv zs ≠ 0) : ((zs.length : Int) == 0) = false := by
  rw [beq_eq_false_iff_ne]
  intro e
  have : zs.length = 0 := by omega
  rw [List.length_eq_zero_iff.1 this] at h
  exact h rfl
theorem up_1 (v : Value) (x k : Nat) (w : World) (h : NatV w v x) (hx : x < 2 ^ (32 * k)) (hk : k ≤ 1000) :
    Calls Try.prog 29 #[v, .int .i64 1] w fun e w' => (∃ v', e = .returned v' ∧ NatV w' v' (x * 2)) ∧ Below w.heap.size w w' := by
  obtain ⟨ao, cap, zs, rfl, hc, hn', hval, hN, hW, hr⟩ := h
  have := up_any ao cap zs 1 w (by have := len_pow hN hval k hx; omega) (by omega) hr hW
  rw [hval] at this
  exact this
end Go.Proofs.Ytkmefmgicbohnaa
namespace Go.Proofs.Ytkmefmgicbohnaa
open Go.RowKit

theorem size_nv (v : Value) (x k : Nat) (w : World) (h : NatV w v x) (hx : x < 2 ^ (32 * k)) (hk : k ≤ 1000) :
    Calls Try.prog 31 #[v] w fun e w' => e = .returned (.int .i64 (nbits x)) ∧ w' = w := by
  obtain ⟨ao, cap, zs, rfl, hc, hn', hval, hN, hW, hr⟩ := h
  have := size_any ao cap zs w (by have := len_pow hN hval k hx; omega) hr hW hN
  rw [hval] at this
  exact this
theorem bit_nv (v : Value) (x k n : Nat) (w : World) (h : NatV w v x) (hx : x < 2 ^ (32 * k)) (hk : k ≤ 1000) (hn : n ≤ 1000000) :
    Calls Try.prog 50 #[v, .int .i64 n] w fun e w' => e = .returned (.bool (x / 2 ^ n % 2 == 1)) ∧ w' = w := by
  obtain ⟨ao, cap, zs, rfl, hc, hn', hval, hN, hW, hr⟩ := h
  have := bit_any ao cap zs n w (by have := len_pow hN hval k hx; omega) hn hr hW
  rw [hval] at this
  exact this
theorem less_nv (v u : Value) (x y k : Nat) (w : World) (h : NatV w v x) (h' : NatV w u y) (hx : x < 2 ^ (32 * k)) (hk : k ≤ 1000) (hle : y ≤ x) :
    Calls Try.prog 35 #[v, u] w fun e w' => (∃ v', e = .returned v' ∧ NatV w' v' (x - y)) ∧ Below w.heap.size w w' := by
  obtain ⟨ao, cap, zs, rfl, hc, hn', hval, hN, hW, hr⟩ := h
  obtain ⟨ao2, cap2, zs2, rfl, hc2, hn2, hval2, hN2, hW2, hr2⟩ := h'
  have hl2 : zs2.length ≤ zs.length := by
    have h1 : nv zs2 < 4294967296 ^ zs.length := by rw [hval2]; exact Nat.lt_of_le_of_lt hle (by rw [← hval]; exact nv_lt hW)
    exact norm_len hN2 zs.length h1
  have := less_any ao ao2 cap cap2 zs zs2 w (by have := len_pow hN hval k hx; omega) hl2 (by rw [hval, hval2]; exact hle) hr hr2 hW hW2
  rw [hval, hval2] at this
  exact this
theorem NatV.len0 {w : World} {v : Value} {x : Nat} (h : NatV w v x) : ∃ ao l cap, v = .slice ao l cap ∧ (decide (0 < l) = decide (0 < x)) := by
  obtain ⟨ao, cap, zs, rfl, hc, hn', hval, hN, hW, hr⟩ := h
  refine ⟨ao, zs.length, cap, rfl, ?_⟩
  rw [decide_eq_decide]
  constructor
  · intro h
    rcases hN with h0 | h0
    · omega
    · apply Nat.pos_of_ne_zero
      intro hx
      rw [← hval] at hx
      have := norm_len (zs := zs) (Or.inr h0) 0 (by rw [hx]; decide)
      omega
  · intro h
    apply Nat.pos_of_ne_zero
    intro h0
    rw [List.length_eq_zero_iff.1 h0] at hval
    simp [nv] at hval
    omega
/-- a round of a division by bits -/
theorem ov_step (V b i : Nat) (hb : 0 < b) :
    let t := V / 2 ^ (i + 1) % b * 2 + V / 2 ^ i % 2
    (b ≤ t → V / 2 ^ i / b = V / 2 ^ (i + 1) / b * 2 + 1 ∧ V / 2 ^ i % b = t - b) ∧ (t < b → V / 2 ^ i / b = V / 2 ^ (i + 1) / b * 2 ∧ V / 2 ^ i % b = t) := by
  intro t
  have e1 : V / 2 ^ (i + 1) = V / 2 ^ i / 2 := by rw [Nat.pow_succ, Nat.div_div_eq_div_mul]
  have ht : t = V / 2 ^ (i + 1) % b * 2 + V / 2 ^ i % 2 := rfl
  clear_value t
  rw [e1] at ht ⊢
  generalize V / 2 ^ i = U at *
  have h1 := Nat.div_add_mod (U / 2) b
  have h2 := Nat.mod_lt (U / 2) hb
  have h3 := Nat.div_add_mod U 2
  generalize hq : U / 2 / b = q at *
  generalize hr : U / 2 % b = r at *
  have hU : U = b * (q * 2) + t := by
    rw [ht, ← Nat.mul_assoc, ← h3]
    omega
  have htl : t < 2 * b := by omega
  clear h1 h2 h3 ht hq hr e1
  refine ⟨fun h => ?_, fun h => ?_⟩
  · have hU2 : U = b * (q * 2 + 1) + (t - b) := by rw [Nat.mul_add, Nat.mul_one]; omega
    constructor
    · rw [hU2, Nat.mul_add_div hb, Nat.div_eq_of_lt (by omega), Nat.add_zero]
    · rw [hU2, Nat.mul_add_mod, Nat.mod_eq_of_lt (by omega)]
  · constructor
    · rw [hU, Nat.mul_add_div hb, Nat.div_eq_of_lt h, Nat.add_zero]
    · rw [hU, Nat.mul_add_mod, Nat.mod_eq_of_lt h]
end Go.Proofs.Ytkmefmgicbohnaa
