import Derived.Test.YtibhlcfligfhdaaGreatCSRnD1
import Derived.Test.YtibhlcfligfhdaaGreatCSRnD0
namespace Go.Proofs.YtibhlcfligfhdaaGreat
end Go.Proofs.YtibhlcfligfhdaaGreat
namespace Go.Proofs.YtibhlcfligfhdaaGreat
open Go.RowKit
set_option maxRecDepth 100000
theorem nb_log (N : Nat) (h : N ≠ 0) : nbits N = N.log2 + 1 := by unfold nbits; rw [if_neg h]
theorem rne_one (n : Nat) : rne n 1 = n := by
 unfold rne
 rw [Nat.div_one, Nat.mod_one, if_neg (by omega), Nat.add_zero]
theorem last_eq (N : Nat) (h : N ≠ 0) (P K : Int) (hK : max (P + nbits N - 24) (-149) = K) : lastOf Ieee.single N P = K := by
 rw [nb_log N h] at hK
 unfold lastOf
 rw [← hK, show Ieee.single.leastPlace = -149 from rfl, show Ieee.single.fractionBits = 23 from rfl]
 congr 1
 omega
theorem rg_up (N : Nat) (h : N ≠ 0) (P K : Int) (X : Nat) (hK : max (P + nbits N - 24) (-149) = K) (hX : P - K = X) : rg Ieee.single N P = (K + 149).toNat * 8388608 + N * 2 ^ X := by
 unfold rg
 rw [if_neg h, last_eq N h P K hK, hX, show (K - P).toNat = 0 by omega, Nat.pow_zero, rne_one, Nat.shiftLeft_eq, show Ieee.single.leastPlace = -149 from rfl, show K - -149 = K + 149 by omega]
 rfl
theorem rg_dn (N : Nat) (h : N ≠ 0) (P K : Int) (D : Nat) (hK : max (P + nbits N - 24) (-149) = K) (hX : K - P = D) : rg Ieee.single N P = (K + 149).toNat * 8388608 + rne N (2 ^ D) := by
 unfold rg
 rw [if_neg h, last_eq N h P K hK, hX, show (P - K).toNat = 0 by omega, Nat.shiftLeft_eq, Nat.pow_zero, Nat.mul_one, show Ieee.single.leastPlace = -149 from rfl, show K - -149 = K + 149 by omega]
 rfl
def Fits (n : Nat) (p : Int) (r : Nat) : Prop := ∃ k : Nat, p = -149 + (k : Int) ∧ n < 16777216 ∧ (k = 0 ∨ 8388608 ≤ n) ∧ r = k * 8388608 + n
theorem fits_over (K : Int) (q r : Nat) (hK : -149 ≤ K) (h1 : q + 1 = 16777216) (h3 : r = (K + 149).toNat * 8388608 + (q + 1)) : Fits 8388608 (K + 1) r := by
 refine ⟨(K + 149).toNat + 1, by omega, by omega, Or.inr (Nat.le_refl _), ?_⟩
 rw [h1] at h3
 clear h1
 generalize (K + 149).toNat = t at *
 omega
theorem nb_bounds (N : Nat) (h : N ≠ 0) : 2 ^ (nbits N - 1) ≤ N ∧ N < 2 ^ nbits N ∧ 1 ≤ nbits N := by
 rw [nb_log N h]
 exact ⟨Nat.log2_self_le h, Nat.lt_log2_self, by omega⟩
theorem p24 : (2 : Nat) ^ 24 = 16777216 := rfl
theorem p23 : (2 : Nat) ^ 23 = 8388608 := rfl
set_option maxHeartbeats 1000000 in
theorem rnd_any (m : Bool) (ao : Option Addr) (cap : Nat) (zs : List Nat) (P : Int) (w : World) (hl : zs.length ≤ 100) (hr : ReadsU w ao zs w.heap.size) (hW : Words zs) (hN : Norm zs) (hP : -5000 ≤ P) (hP2 : P ≤ 5000) :
   Calls Tryz.prog 105 #[.agg #[.int .i64 24, .int .i64 (-149), .int .i64 104], .bool m, .slice ao zs.length cap, .int .i64 P, .bool false] w fun e w' => (∃ n p, e = .returned (hdV m n p) ∧ Fits n p (rg Ieee.single (nv zs) P)) ∧ Below w.heap.size w w' := by
 by_cases hz : zs.length = 0
 · have e0 : nv zs = 0 := by rw [List.length_eq_zero_iff.1 hz]; rfl
   refine (rnd0 m ao cap zs P w hz).mono fun e w' ⟨he, hb⟩ => ⟨⟨0, -149, he, 0, by omega, by omega, Or.inl rfl, ?_⟩, hb⟩
   rw [e0]; unfold rg; rw [if_pos rfl]
 have h0 : nv zs ≠ 0 := by
   intro h
   have := norm_len hN 0 (by rw [h]; decide)
   omega
 obtain ⟨b1, b2, b3⟩ := nb_bounds (nv zs) h0
 have hnl : nbits (nv zs) ≤ 4000 := by
   have h1 := nv_lt hW
   have h2 : (4294967296 : Nat) ^ zs.length = 2 ^ (32 * zs.length) := by rw [show (4294967296 : Nat) = 2 ^ 32 from rfl, ← Nat.pow_mul]
   rw [h2] at h1
   have := (Nat.pow_lt_pow_iff_right (a := 2) (by decide)).1 (Nat.lt_of_le_of_lt b1 h1)
   omega
 obtain ⟨nb, hnb⟩ : ∃ nb, nbits (nv zs) = nb := ⟨_, rfl⟩
 obtain ⟨K, hK⟩ : ∃ K, max (P + nbits (nv zs) - 24) (-149) = K := ⟨_, rfl⟩
 by_cases hKP : K ≤ P
 · obtain ⟨X, hX⟩ : ∃ X : Nat, P - K = X := ⟨(P - K).toNat, by omega⟩
   have hrg := rg_up (nv zs) h0 P K X hK hX
   rw [hnb] at hK b1 b2 b3 hnl
   have hMX : nv zs * 2 ^ X < 16777216 := by
     have h1 : nv zs * 2 ^ X < 2 ^ nb * 2 ^ X := Nat.mul_lt_mul_of_pos_right b2 (Nat.two_pow_pos _)
     rw [← Nat.pow_add] at h1
     have h2 : 2 ^ (nb + X) ≤ 2 ^ 24 := Nat.pow_le_pow_right (by decide) (by omega)
     rw [p24] at h2
     omega
   by_cases hA : P + nb - 24 < -149
   · obtain rfl : K = -149 := by omega
     refine (rnd1a m ao cap zs P nb X _ w hl hr hW hN hz hnb hnl hP hP2 hA hX rfl (by omega)).mono fun e w' ⟨he, hb⟩ => ⟨⟨_, _, he, 0, by omega, hMX, Or.inl rfl, ?_⟩, hb⟩
     rw [hrg, show ((-149 : Int) + 149).toNat = 0 from rfl]
   · have hK2 : P + nb - 24 = K := by omega
     refine (rnd1b m ao cap zs P nb X _ K w hl hr hW hN hz hnb hnl hP hP2 hA hK2 hKP hX rfl (by omega)).mono fun e w' ⟨he, hb⟩ => ⟨⟨_, _, he, (K + 149).toNat, by omega, hMX, Or.inr ?_, hrg⟩, hb⟩
     have h1 : 2 ^ (nb - 1) * 2 ^ X ≤ nv zs * 2 ^ X := Nat.mul_le_mul_right _ b1
     rw [← Nat.pow_add, show nb - 1 + X = 23 by omega, p23] at h1
     exact h1
 · obtain ⟨D, hD⟩ : ∃ D : Nat, K - P = D := ⟨(K - P).toNat, by omega⟩
   have hrg := rg_dn (nv zs) h0 P K D hK hD
   rw [hnb] at hK b1 b2 b3 hnl
   by_cases hDn : D ≤ nb + 1
   · have hql : nv zs / 2 ^ D < 16777216 := by
       rw [Nat.div_lt_iff_lt_mul (Nat.two_pow_pos D), ← p24, ← Nat.pow_add]
       exact Nat.lt_of_lt_of_le b2 (Nat.pow_le_pow_right (by decide) (by omega))
     have hqg : ¬ P + nb - 24 < -149 → 8388608 ≤ nv zs / 2 ^ D := by
       intro h
       rw [Nat.le_div_iff_mul_le (Nat.two_pow_pos D), ← p23, ← Nat.pow_add]
       exact Nat.le_trans (Nat.pow_le_pow_right (by decide) (by omega)) b1
     obtain ⟨q, hq⟩ : ∃ q, nv zs / 2 ^ D = q := ⟨_, rfl⟩
     obtain ⟨R, hR⟩ : ∃ R, nv zs % 2 ^ D = R := ⟨_, rfl⟩
     obtain ⟨half, hh⟩ : ∃ half, 2 ^ (D - 1) = half := ⟨_, rfl⟩
     have h2h : 2 ^ D = 2 * half := by rw [← hh, ← Nat.pow_succ']; congr 1; omega
     have hR2 : nv zs - q * 2 ^ D = R := by
       have := Nat.div_add_mod (nv zs) (2 ^ D)
       rw [hq, hR, Nat.mul_comm] at this
       omega
     have hrn : rne (nv zs) (2 ^ D) = q + (if half < R ∨ (R = half ∧ q % 2 = 1) then 1 else 0) := by
       unfold rne
       rw [hq, hR, h2h]
       congr 1
       have hc : (2 * half < 2 * R ∨ 2 * half = 2 * R ∧ q % 2 = 1) ↔ (half < R ∨ (R = half ∧ q % 2 = 1)) := by omega
       by_cases c : half < R ∨ (R = half ∧ q % 2 = 1)
       · rw [if_pos c, if_pos (hc.2 c)]
       · rw [if_neg c, if_neg (fun x => c (hc.1 x))]
     rw [hrn] at hrg
     rw [hq] at hql hqg
     have hfit : ∀ n : Nat, n < 16777216 → (¬ P + nb - 24 < -149 → 8388608 ≤ n) → rg Ieee.single (nv zs) P = (K + 149).toNat * 8388608 + n → Fits n K (rg Ieee.single (nv zs) P) := by
       intro n h1 h2 h3
       refine ⟨(K + 149).toNat, by omega, h1, ?_, h3⟩
       by_cases hA : P + nb - 24 < -149
       · left; omega
       · exact Or.inr (h2 hA)
     have hfit2 : q + 1 = 16777216 → rg Ieee.single (nv zs) P = (K + 149).toNat * 8388608 + (q + 1) → Fits 8388608 (K + 1) (rg Ieee.single (nv zs) P) := by
       intro h1 h3
       exact fits_over K q _ (by omega) h1 h3
     by_cases hA : P + nb - 24 < -149
     · have hK2 : -149 = K := by omega
       by_cases c1 : half < R
       · rw [if_pos (Or.inl c1)] at hrg
         by_cases ho : q + 1 = 16777216
         · exact (rnd3Lgo m ao cap zs P nb D q R half K w hl hr hW hN hz hnb hnl hP hP2 hA hK2 (by omega) hD hDn hq hql hR2 hh c1 ho).mono fun e w' ⟨he, hb⟩ => ⟨⟨_, _, he, hfit2 ho hrg⟩, hb⟩
         · exact (rnd3Lg m ao cap zs P nb D q R half K w hl hr hW hN hz hnb hnl hP hP2 hA hK2 (by omega) hD hDn hq hql hR2 hh c1 _ rfl ho).mono fun e w' ⟨he, hb⟩ => ⟨⟨_, _, he, hfit (q + 1) (by omega) (fun h => absurd hA h) hrg⟩, hb⟩
       by_cases c2 : R = half
       · by_cases c3 : q % 2 = 1
         · rw [if_pos (Or.inr ⟨c2, c3⟩)] at hrg
           by_cases ho : q + 1 = 16777216
           · exact (rnd3Lxo m ao cap zs P nb D q R half K w hl hr hW hN hz hnb hnl hP hP2 hA hK2 (by omega) hD hDn hq hql hR2 hh c2 c3 ho).mono fun e w' ⟨he, hb⟩ => ⟨⟨_, _, he, hfit2 ho hrg⟩, hb⟩
           · exact (rnd3Lx m ao cap zs P nb D q R half K w hl hr hW hN hz hnb hnl hP hP2 hA hK2 (by omega) hD hDn hq hql hR2 hh c2 c3 _ rfl ho).mono fun e w' ⟨he, hb⟩ => ⟨⟨_, _, he, hfit (q + 1) (by omega) (fun h => absurd hA h) hrg⟩, hb⟩
         · rw [if_neg (by omega), Nat.add_zero] at hrg
           exact (rnd3Le m ao cap zs P nb D q R half K w hl hr hW hN hz hnb hnl hP hP2 hA hK2 (by omega) hD hDn hq hql hR2 hh c2 (by omega)).mono fun e w' ⟨he, hb⟩ => ⟨⟨_, _, he, hfit q hql hqg hrg⟩, hb⟩
       · rw [if_neg (by omega), Nat.add_zero] at hrg
         exact (rnd3Ll m ao cap zs P nb D q R half K w hl hr hW hN hz hnb hnl hP hP2 hA hK2 (by omega) hD hDn hq hql hR2 hh (by omega)).mono fun e w' ⟨he, hb⟩ => ⟨⟨_, _, he, hfit q hql hqg hrg⟩, hb⟩
     · have hK2 : P + nb - 24 = K := by omega
       have hg := hqg hA
       by_cases c1 : half < R
       · rw [if_pos (Or.inl c1)] at hrg
         by_cases ho : q + 1 = 16777216
         · exact (rnd3Hgo m ao cap zs P nb D q R half K w hl hr hW hN hz hnb hnl hP hP2 hA hK2 (by omega) hD hDn hq hql hR2 hh c1 ho).mono fun e w' ⟨he, hb⟩ => ⟨⟨_, _, he, hfit2 ho hrg⟩, hb⟩
         · exact (rnd3Hg m ao cap zs P nb D q R half K w hl hr hW hN hz hnb hnl hP hP2 hA hK2 (by omega) hD hDn hq hql hR2 hh c1 _ rfl ho).mono fun e w' ⟨he, hb⟩ => ⟨⟨_, _, he, hfit (q + 1) (by omega) (fun _ => by omega) hrg⟩, hb⟩
       by_cases c2 : R = half
       · by_cases c3 : q % 2 = 1
         · rw [if_pos (Or.inr ⟨c2, c3⟩)] at hrg
           by_cases ho : q + 1 = 16777216
           · exact (rnd3Hxo m ao cap zs P nb D q R half K w hl hr hW hN hz hnb hnl hP hP2 hA hK2 (by omega) hD hDn hq hql hR2 hh c2 c3 ho).mono fun e w' ⟨he, hb⟩ => ⟨⟨_, _, he, hfit2 ho hrg⟩, hb⟩
           · exact (rnd3Hx m ao cap zs P nb D q R half K w hl hr hW hN hz hnb hnl hP hP2 hA hK2 (by omega) hD hDn hq hql hR2 hh c2 c3 _ rfl ho).mono fun e w' ⟨he, hb⟩ => ⟨⟨_, _, he, hfit (q + 1) (by omega) (fun _ => by omega) hrg⟩, hb⟩
         · rw [if_neg (by omega), Nat.add_zero] at hrg
           exact (rnd3He m ao cap zs P nb D q R half K w hl hr hW hN hz hnb hnl hP hP2 hA hK2 (by omega) hD hDn hq hql hR2 hh c2 (by omega)).mono fun e w' ⟨he, hb⟩ => ⟨⟨_, _, he, hfit q hql hqg hrg⟩, hb⟩
       · rw [if_neg (by omega), Nat.add_zero] at hrg
         exact (rnd3Hl m ao cap zs P nb D q R half K w hl hr hW hN hz hnb hnl hP hP2 hA hK2 (by omega) hD hDn hq hql hR2 hh (by omega)).mono fun e w' ⟨he, hb⟩ => ⟨⟨_, _, he, hfit q hql hqg hrg⟩, hb⟩
   · have hA : P + nb - 24 < -149 := by omega
     have hK2 : K = -149 := by omega
     subst hK2
     refine (rnd2 m ao cap zs P nb w hl hr hW hN hz hnb hnl hP hP2 hA (by omega) (by omega)).mono fun e w' ⟨he, hb⟩ => ⟨⟨_, _, he, 0, by omega, by omega, Or.inl rfl, ?_⟩, hb⟩
     have h1 : nv zs < 2 ^ D := Nat.lt_of_lt_of_le b2 (Nat.pow_le_pow_right (by decide) (by omega))
     have h2 : 2 * nv zs < 2 ^ D := by
       have h3 : 2 ^ (nb + 1) ≤ 2 ^ D := Nat.pow_le_pow_right (by decide) (by omega)
       rw [Nat.pow_succ] at h3
       omega
     rw [hrg]
     unfold rne
     rw [Nat.div_eq_of_lt h1, Nat.mod_eq_of_lt h1, if_neg (by omega), show ((-149 : Int) + 149).toNat = 0 from rfl]
theorem lay_any (m : Bool) (n : Nat) (p : Int) (r : Nat) (w : World) (h : Fits n p r) :
   Calls Tryz.prog 104 #[hdV m n p] w fun e w' => e = .returned (.int .u32 (wrd m (min r 2139095040) : Nat)) ∧ Below w.heap.size w w' := by
 obtain ⟨k, rfl, hn, hk, rfl⟩ := h
 unfold hdV
 by_cases hp : (104 : Int) < -149 + (k : Int)
 · rw [if_pos hp, show min (k * 8388608 + n) 2139095040 = 2139095040 by omega]
   exact lay_endless m w
 · rw [if_neg hp, show min (k * 8388608 + n) 2139095040 = k * 8388608 + n by omega]
   exact lay_fin m n k w hn (by omega) hk
end Go.Proofs.YtibhlcfligfhdaaGreat
namespace Go.Proofs.YtibhlcfligfhdaaGreat
open Go.RowKit
set_option maxRecDepth 100000
abbrev oV (s : Int) (m : Bool) (n p : Int) : Obj := .cells #[.int .u8 s, .bool m, .int .u64 n, .int .i64 p] 133
theorem cin (w : World) (o : Obj) (p : Addr) (h : p.block < w.heap.size) : (w.alloc o).cell? p = w.cell? p := ((Below.refl w.heap.size w).alloc (Nat.le_refl _) o).cell h
theorem sz1 (w : World) (o : Obj) : (w.alloc o).heap.size = w.heap.size + 1 := by simp
theorem jF {w W : World} {sa : Int} {ma : Bool} {na pa : Int} {sb : Int} {mb : Bool} {nb pb : Int} (h : Below ((((w.alloc ob).alloc (oV sa ma na pa)).alloc (oV sb mb nb pb)).alloc oz).heap.size ((((w.alloc ob).alloc (oV sa ma na pa)).alloc (oV sb mb nb pb)).alloc oz) W) :
   W.cell? ⟨w.heap.size, 0, none⟩ = some (.int .i64 24) ∧ W.cell? ⟨w.heap.size, 1, none⟩ = some (.int .i64 (-149)) ∧ W.cell? ⟨w.heap.size, 2, none⟩ = some (.int .i64 104) ∧ W.cell? ⟨w.heap.size + 1, 0, none⟩ = some (.int .u8 sa) ∧ W.cell? ⟨w.heap.size + 1, 1, none⟩ = some (.bool ma) ∧ W.cell? ⟨w.heap.size + 1, 2, none⟩ = some (.int .u64 na) ∧ W.cell? ⟨w.heap.size + 1, 3, none⟩ = some (.int .i64 pa) ∧ W.cell? ⟨w.heap.size + 1 + 1, 0, none⟩ = some (.int .u8 sb) ∧ W.cell? ⟨w.heap.size + 1 + 1, 1, none⟩ = some (.bool mb) ∧ W.cell? ⟨w.heap.size + 1 + 1, 2, none⟩ = some (.int .u64 nb) ∧ W.cell? ⟨w.heap.size + 1 + 1, 3, none⟩ = some (.int .i64 pb) := by
 refine ⟨?_, ?_, ?_, ?_, ?_, ?_, ?_, ?_, ?_, ?_, ?_⟩
 · refine (h.cell (p := ⟨w.heap.size, 0, none⟩) (by simp only [sz1]; omega)).trans ?_
   rw [cin _ _ _ (by simp only [sz1]; omega), cin _ _ _ (by simp only [sz1]; omega), cin _ _ _ (by simp only [sz1]; omega)]
   exact World.cell?_alloc_new _ _ _ _
 · refine (h.cell (p := ⟨w.heap.size, 1, none⟩) (by simp only [sz1]; omega)).trans ?_
   rw [cin _ _ _ (by simp only [sz1]; omega), cin _ _ _ (by simp only [sz1]; omega), cin _ _ _ (by simp only [sz1]; omega)]
   exact World.cell?_alloc_new _ _ _ _
 · refine (h.cell (p := ⟨w.heap.size, 2, none⟩) (by simp only [sz1]; omega)).trans ?_
   rw [cin _ _ _ (by simp only [sz1]; omega), cin _ _ _ (by simp only [sz1]; omega), cin _ _ _ (by simp only [sz1]; omega)]
   exact World.cell?_alloc_new _ _ _ _
 · refine (h.cell (p := ⟨w.heap.size + 1, 0, none⟩) (by simp only [sz1]; omega)).trans ?_
   rw [cin _ _ _ (by simp only [sz1]; omega), cin _ _ _ (by simp only [sz1]; omega)]
   rw [show w.heap.size + 1 = (w.alloc ob).heap.size by simp only [sz1]]
   exact World.cell?_alloc_new _ _ _ _
 · refine (h.cell (p := ⟨w.heap.size + 1, 1, none⟩) (by simp only [sz1]; omega)).trans ?_
   rw [cin _ _ _ (by simp only [sz1]; omega), cin _ _ _ (by simp only [sz1]; omega)]
   rw [show w.heap.size + 1 = (w.alloc ob).heap.size by simp only [sz1]]
   exact World.cell?_alloc_new _ _ _ _
 · refine (h.cell (p := ⟨w.heap.size + 1, 2, none⟩) (by simp only [sz1]; omega)).trans ?_
   rw [cin _ _ _ (by simp only [sz1]; omega), cin _ _ _ (by simp only [sz1]; omega)]
   rw [show w.heap.size + 1 = (w.alloc ob).heap.size by simp only [sz1]]
   exact World.cell?_alloc_new _ _ _ _
 · refine (h.cell (p := ⟨w.heap.size + 1, 3, none⟩) (by simp only [sz1]; omega)).trans ?_
   rw [cin _ _ _ (by simp only [sz1]; omega), cin _ _ _ (by simp only [sz1]; omega)]
   rw [show w.heap.size + 1 = (w.alloc ob).heap.size by simp only [sz1]]
   exact World.cell?_alloc_new _ _ _ _
 · refine (h.cell (p := ⟨w.heap.size + 1 + 1, 0, none⟩) (by simp only [sz1]; omega)).trans ?_
   rw [cin _ _ _ (by simp only [sz1]; omega)]
   rw [show w.heap.size + 1 + 1 = ((w.alloc ob).alloc (oV sa ma na pa)).heap.size by simp only [sz1]]
   exact World.cell?_alloc_new _ _ _ _
 · refine (h.cell (p := ⟨w.heap.size + 1 + 1, 1, none⟩) (by simp only [sz1]; omega)).trans ?_
   rw [cin _ _ _ (by simp only [sz1]; omega)]
   rw [show w.heap.size + 1 + 1 = ((w.alloc ob).alloc (oV sa ma na pa)).heap.size by simp only [sz1]]
   exact World.cell?_alloc_new _ _ _ _
 · refine (h.cell (p := ⟨w.heap.size + 1 + 1, 2, none⟩) (by simp only [sz1]; omega)).trans ?_
   rw [cin _ _ _ (by simp only [sz1]; omega)]
   rw [show w.heap.size + 1 + 1 = ((w.alloc ob).alloc (oV sa ma na pa)).heap.size by simp only [sz1]]
   exact World.cell?_alloc_new _ _ _ _
 · refine (h.cell (p := ⟨w.heap.size + 1 + 1, 3, none⟩) (by simp only [sz1]; omega)).trans ?_
   rw [cin _ _ _ (by simp only [sz1]; omega)]
   rw [show w.heap.size + 1 + 1 = ((w.alloc ob).alloc (oV sa ma na pa)).heap.size by simp only [sz1]]
   exact World.cell?_alloc_new _ _ _ _
theorem jA {w W : World} {sa : Int} {ma : Bool} {na pa : Int} {sb : Int} {mb : Bool} {nb pb : Int} (h : Below ((((w.alloc ob).alloc (oV sa ma na pa)).alloc (oV sb mb nb pb)).alloc oz).heap.size ((((w.alloc ob).alloc (oV sa ma na pa)).alloc (oV sb mb nb pb)).alloc oz) W) :
   W.cell? ⟨w.heap.size + 1 + 1 + 1, 0, none⟩ = some (.int .u8 0) ∧ W.cell? ⟨w.heap.size + 1 + 1 + 1, 1, none⟩ = some (.bool false) ∧ W.cell? ⟨w.heap.size + 1 + 1 + 1, 2, none⟩ = some (.int .u64 0) ∧ W.cell? ⟨w.heap.size + 1 + 1 + 1, 3, none⟩ = some (.int .i64 0) ∧ W.frozen? ⟨w.heap.size + 1 + 1 + 1, 0, none⟩ = false ∧ W.frozen? ⟨w.heap.size + 1 + 1 + 1, 1, none⟩ = false ∧ W.frozen? ⟨w.heap.size + 1 + 1 + 1, 2, none⟩ = false ∧ W.frozen? ⟨w.heap.size + 1 + 1 + 1, 3, none⟩ = false := by
 refine ⟨?_, ?_, ?_, ?_, ?_, ?_, ?_, ?_⟩
 · refine (h.cell (p := ⟨w.heap.size + 1 + 1 + 1, 0, none⟩) (by simp only [sz1]; omega)).trans ?_
   rw [show w.heap.size + 1 + 1 + 1 = (((w.alloc ob).alloc (oV sa ma na pa)).alloc (oV sb mb nb pb)).heap.size by simp only [sz1]]
   exact World.cell?_alloc_new _ _ _ _
 · refine (h.cell (p := ⟨w.heap.size + 1 + 1 + 1, 1, none⟩) (by simp only [sz1]; omega)).trans ?_
   rw [show w.heap.size + 1 + 1 + 1 = (((w.alloc ob).alloc (oV sa ma na pa)).alloc (oV sb mb nb pb)).heap.size by simp only [sz1]]
   exact World.cell?_alloc_new _ _ _ _
 · refine (h.cell (p := ⟨w.heap.size + 1 + 1 + 1, 2, none⟩) (by simp only [sz1]; omega)).trans ?_
   rw [show w.heap.size + 1 + 1 + 1 = (((w.alloc ob).alloc (oV sa ma na pa)).alloc (oV sb mb nb pb)).heap.size by simp only [sz1]]
   exact World.cell?_alloc_new _ _ _ _
 · refine (h.cell (p := ⟨w.heap.size + 1 + 1 + 1, 3, none⟩) (by simp only [sz1]; omega)).trans ?_
   rw [show w.heap.size + 1 + 1 + 1 = (((w.alloc ob).alloc (oV sa ma na pa)).alloc (oV sb mb nb pb)).heap.size by simp only [sz1]]
   exact World.cell?_alloc_new _ _ _ _
 · refine (h.frozen (p := ⟨w.heap.size + 1 + 1 + 1, 0, none⟩) (by simp only [sz1]; omega)).trans ?_
   rw [show w.heap.size + 1 + 1 + 1 = (((w.alloc ob).alloc (oV sa ma na pa)).alloc (oV sb mb nb pb)).heap.size by simp only [sz1]]
   exact World.frozen?_alloc_new _ _ _ _
 · refine (h.frozen (p := ⟨w.heap.size + 1 + 1 + 1, 1, none⟩) (by simp only [sz1]; omega)).trans ?_
   rw [show w.heap.size + 1 + 1 + 1 = (((w.alloc ob).alloc (oV sa ma na pa)).alloc (oV sb mb nb pb)).heap.size by simp only [sz1]]
   exact World.frozen?_alloc_new _ _ _ _
 · refine (h.frozen (p := ⟨w.heap.size + 1 + 1 + 1, 2, none⟩) (by simp only [sz1]; omega)).trans ?_
   rw [show w.heap.size + 1 + 1 + 1 = (((w.alloc ob).alloc (oV sa ma na pa)).alloc (oV sb mb nb pb)).heap.size by simp only [sz1]]
   exact World.frozen?_alloc_new _ _ _ _
 · refine (h.frozen (p := ⟨w.heap.size + 1 + 1 + 1, 3, none⟩) (by simp only [sz1]; omega)).trans ?_
   rw [show w.heap.size + 1 + 1 + 1 = (((w.alloc ob).alloc (oV sa ma na pa)).alloc (oV sb mb nb pb)).heap.size by simp only [sz1]]
   exact World.frozen?_alloc_new _ _ _ _
theorem jS {w W : World} {sa : Int} {ma : Bool} {na pa : Int} {sb : Int} {mb : Bool} {nb pb : Int} {a b c d : Value} (h : Below ((((w.alloc ob).alloc (oV sa ma na pa)).alloc (oV sb mb nb pb)).alloc oz).heap.size ((((w.alloc ob).alloc (oV sa ma na pa)).alloc (oV sb mb nb pb)).alloc oz) W) :
   ((((W.setCell ⟨w.heap.size + 1 + 1 + 1, 0, none⟩ a).setCell ⟨w.heap.size + 1 + 1 + 1, 1, none⟩ b).setCell ⟨w.heap.size + 1 + 1 + 1, 2, none⟩ c).setCell ⟨w.heap.size + 1 + 1 + 1, 3, none⟩ d).cell? ⟨w.heap.size, 0, none⟩ = some (.int .i64 24) ∧ ((((W.setCell ⟨w.heap.size + 1 + 1 + 1, 0, none⟩ a).setCell ⟨w.heap.size + 1 + 1 + 1, 1, none⟩ b).setCell ⟨w.heap.size + 1 + 1 + 1, 2, none⟩ c).setCell ⟨w.heap.size + 1 + 1 + 1, 3, none⟩ d).cell? ⟨w.heap.size, 1, none⟩ = some (.int .i64 (-149)) ∧ ((((W.setCell ⟨w.heap.size + 1 + 1 + 1, 0, none⟩ a).setCell ⟨w.heap.size + 1 + 1 + 1, 1, none⟩ b).setCell ⟨w.heap.size + 1 + 1 + 1, 2, none⟩ c).setCell ⟨w.heap.size + 1 + 1 + 1, 3, none⟩ d).cell? ⟨w.heap.size, 2, none⟩ = some (.int .i64 104) ∧ ((((W.setCell ⟨w.heap.size + 1 + 1 + 1, 0, none⟩ a).setCell ⟨w.heap.size + 1 + 1 + 1, 1, none⟩ b).setCell ⟨w.heap.size + 1 + 1 + 1, 2, none⟩ c).setCell ⟨w.heap.size + 1 + 1 + 1, 3, none⟩ d).cell? ⟨w.heap.size + 1, 0, none⟩ = some (.int .u8 sa) ∧ ((((W.setCell ⟨w.heap.size + 1 + 1 + 1, 0, none⟩ a).setCell ⟨w.heap.size + 1 + 1 + 1, 1, none⟩ b).setCell ⟨w.heap.size + 1 + 1 + 1, 2, none⟩ c).setCell ⟨w.heap.size + 1 + 1 + 1, 3, none⟩ d).cell? ⟨w.heap.size + 1, 1, none⟩ = some (.bool ma) ∧ ((((W.setCell ⟨w.heap.size + 1 + 1 + 1, 0, none⟩ a).setCell ⟨w.heap.size + 1 + 1 + 1, 1, none⟩ b).setCell ⟨w.heap.size + 1 + 1 + 1, 2, none⟩ c).setCell ⟨w.heap.size + 1 + 1 + 1, 3, none⟩ d).cell? ⟨w.heap.size + 1, 2, none⟩ = some (.int .u64 na) ∧ ((((W.setCell ⟨w.heap.size + 1 + 1 + 1, 0, none⟩ a).setCell ⟨w.heap.size + 1 + 1 + 1, 1, none⟩ b).setCell ⟨w.heap.size + 1 + 1 + 1, 2, none⟩ c).setCell ⟨w.heap.size + 1 + 1 + 1, 3, none⟩ d).cell? ⟨w.heap.size + 1, 3, none⟩ = some (.int .i64 pa) ∧ ((((W.setCell ⟨w.heap.size + 1 + 1 + 1, 0, none⟩ a).setCell ⟨w.heap.size + 1 + 1 + 1, 1, none⟩ b).setCell ⟨w.heap.size + 1 + 1 + 1, 2, none⟩ c).setCell ⟨w.heap.size + 1 + 1 + 1, 3, none⟩ d).cell? ⟨w.heap.size + 1 + 1, 0, none⟩ = some (.int .u8 sb) ∧ ((((W.setCell ⟨w.heap.size + 1 + 1 + 1, 0, none⟩ a).setCell ⟨w.heap.size + 1 + 1 + 1, 1, none⟩ b).setCell ⟨w.heap.size + 1 + 1 + 1, 2, none⟩ c).setCell ⟨w.heap.size + 1 + 1 + 1, 3, none⟩ d).cell? ⟨w.heap.size + 1 + 1, 1, none⟩ = some (.bool mb) ∧ ((((W.setCell ⟨w.heap.size + 1 + 1 + 1, 0, none⟩ a).setCell ⟨w.heap.size + 1 + 1 + 1, 1, none⟩ b).setCell ⟨w.heap.size + 1 + 1 + 1, 2, none⟩ c).setCell ⟨w.heap.size + 1 + 1 + 1, 3, none⟩ d).cell? ⟨w.heap.size + 1 + 1, 2, none⟩ = some (.int .u64 nb) ∧ ((((W.setCell ⟨w.heap.size + 1 + 1 + 1, 0, none⟩ a).setCell ⟨w.heap.size + 1 + 1 + 1, 1, none⟩ b).setCell ⟨w.heap.size + 1 + 1 + 1, 2, none⟩ c).setCell ⟨w.heap.size + 1 + 1 + 1, 3, none⟩ d).cell? ⟨w.heap.size + 1 + 1, 3, none⟩ = some (.int .i64 pb) := by
 have h0 := jF h
 refine ⟨?_, ?_, ?_, ?_, ?_, ?_, ?_, ?_, ?_, ?_, ?_⟩
 all_goals rw [World.cell?_setCell_other _ _ _ _ (by simp <;> omega), World.cell?_setCell_other _ _ _ _ (by simp <;> omega), World.cell?_setCell_other _ _ _ _ (by simp <;> omega), World.cell?_setCell_other _ _ _ _ (by simp <;> omega)]
 · exact h0.1
 · exact h0.2.1
 · exact h0.2.2.1
 · exact h0.2.2.2.1
 · exact h0.2.2.2.2.1
 · exact h0.2.2.2.2.2.1
 · exact h0.2.2.2.2.2.2.1
 · exact h0.2.2.2.2.2.2.2.1
 · exact h0.2.2.2.2.2.2.2.2.1
 · exact h0.2.2.2.2.2.2.2.2.2.1
 · exact h0.2.2.2.2.2.2.2.2.2.2
theorem jB {w W : World} {sa : Int} {ma : Bool} {na pa : Int} {sb : Int} {mb : Bool} {nb pb : Int} {a b c d : Value} (h : Below ((((w.alloc ob).alloc (oV sa ma na pa)).alloc (oV sb mb nb pb)).alloc oz).heap.size ((((w.alloc ob).alloc (oV sa ma na pa)).alloc (oV sb mb nb pb)).alloc oz) W) :
   Below w.heap.size w ((((W.setCell ⟨w.heap.size + 1 + 1 + 1, 0, none⟩ a).setCell ⟨w.heap.size + 1 + 1 + 1, 1, none⟩ b).setCell ⟨w.heap.size + 1 + 1 + 1, 2, none⟩ c).setCell ⟨w.heap.size + 1 + 1 + 1, 3, none⟩ d) := by
 have h1 : Below w.heap.size w W := (bel (bel (bel (bel (Below.refl _ _))))).trans (h.mono (by simp; omega))
 exact (((h1.setCell (p := ⟨w.heap.size + 1 + 1 + 1, 0, none⟩) (by simp; omega) a).setCell (p := ⟨w.heap.size + 1 + 1 + 1, 1, none⟩) (by simp; omega) b).setCell (p := ⟨w.heap.size + 1 + 1 + 1, 2, none⟩) (by simp; omega) c).setCell (p := ⟨w.heap.size + 1 + 1 + 1, 3, none⟩) (by simp; omega) d
theorem len_pow {zs : List Nat} (hN : Norm zs) {x : Nat} (h : nv zs = x) (k : Nat) (hx : x < 2 ^ (32 * k)) : zs.length ≤ k := norm_len hN k (by rw [h, show (4294967296 : Nat) = 2 ^ 32 from rfl, ← Nat.pow_mul]; exact hx)
theorem up_pow (n X k : Nat) (hn : n < 16777216) (hX : X + 24 ≤ 32 * k) : n * 2 ^ X < 2 ^ (32 * k) := by
 have h1 : n * 2 ^ X < 2 ^ 24 * 2 ^ X := Nat.mul_lt_mul_of_pos_right hn (Nat.two_pow_pos _)
 rw [← Nat.pow_add] at h1
 exact Nat.lt_of_lt_of_le h1 (Nat.pow_le_pow_right (by decide) (by omega))
theorem sum_pow {x y k : Nat} (hx : x < 2 ^ (32 * k)) (hy : y < 2 ^ (32 * k)) : x + y < 2 ^ (32 * (k + 1)) := by
 have h : 2 * 2 ^ (32 * k) ≤ 2 ^ (32 * (k + 1)) := by
   rw [← Nat.pow_succ']; exact Nat.pow_le_pow_right (by decide) (by omega)
 generalize 2 ^ (32 * k) = a at *
 omega
end Go.Proofs.YtibhlcfligfhdaaGreat
namespace Go.Proofs.YtibhlcfligfhdaaGreat
open Go.RowKit
set_option maxRecDepth 100000
set_option maxRecDepth 100000 in
set_option maxHeartbeats 40000000 in
theorem smAl :
   (∀ (ma : Bool) (na nb X Y : Nat) (pa pb : Int) (w : World), (na < 16777216) → (nb < 16777216) → (-149 ≤ pa) → (pa ≤ 104) → (-149 ≤ pb) → (pb ≤ 104) → (pb < pa) → (pa - pb = X) → (0 = Y) → Calls Tryz.prog 138 #[.agg #[.int .i64 24, .int .i64 (-149), .int .i64 104], .agg #[.int .u8 3, .bool ma, .int .u64 na, .int .i64 pa], .agg #[.int .u8 3, .bool ma, .int .u64 nb, .int .i64 pb]] w fun e w' => (∃ n q, e = .returned (hdV ma n q) ∧ Fits n q (rg Ieee.single (na * 2 ^ X + nb * 2 ^ Y) pb)) ∧ Below w.heap.size w w') ∧
   (∀ (ma : Bool) (na nb X Y : Nat) (pa pb : Int) (w : World), (na < 16777216) → (nb < 16777216) → (-149 ≤ pa) → (pa ≤ 104) → (-149 ≤ pb) → (pb ≤ 104) → (¬ pb < pa) → (0 = X) → (pb - pa = Y) → Calls Tryz.prog 138 #[.agg #[.int .i64 24, .int .i64 (-149), .int .i64 104], .agg #[.int .u8 3, .bool ma, .int .u64 na, .int .i64 pa], .agg #[.int .u8 3, .bool ma, .int .u64 nb, .int .i64 pb]] w fun e w' => (∃ n q, e = .returned (hdV ma n q) ∧ Fits n q (rg Ieee.single (na * 2 ^ X + nb * 2 ^ Y) pa)) ∧ Below w.heap.size w w') := by
 refine ⟨?_, ?_⟩
 all_goals intro ma na nb X Y pa pb w hna hnb h1 h2 h3 h4 ho hX hY
 all_goals (have hXl : X ≤ 600 := by omega)
 all_goals (have hYl : Y ≤ 600 := by omega)
 all_goals (have HXw : Hid (IntKind.i64.wrap (X : Int) = X) := by rw [Hid, IntKind.wrap_i64]; omega)
 all_goals (have HYw : Hid (IntKind.i64.wrap (Y : Int) = Y) := by rw [Hid, IntKind.wrap_i64]; omega)
 all_goals (have HPx := up_pow na X 20 hna (by omega))
 all_goals (have HPy := up_pow nb Y 20 hnb (by omega))
 all_goals (have HB : Below ((((w.alloc ob).alloc (oV 3 ma na pa)).alloc (oV 3 ma nb pb)).alloc oz).heap.size ((((w.alloc ob).alloc (oV 3 ma na pa)).alloc (oV 3 ma nb pb)).alloc oz) ((((w.alloc ob).alloc (oV 3 ma na pa)).alloc (oV 3 ma nb pb)).alloc oz) := Below.refl _ _)
 have HZw : Hid (IntKind.i64.wrap 0 = (Y : Int)) := by rw [Hid, ← hY]; rfl
 rotate_left
 have HZw : Hid (IntKind.i64.wrap 0 = (X : Int)) := by rw [Hid, ← hX]; rfl
 rotate_left
 all_goals (have HPz : Hid (na * 2 ^ X + nb * 2 ^ Y < 2 ^ (32 * (20 + 1))) := sum_pow (k := 20) HPx HPy)
 clear hY
 rotate_left
 clear hX
 rotate_left
 all_goals (go_enter Tryz.func138, Tryz.ntmps138)
 all_goals (go_wp2)
 all_goals (
   go_region_held3 (fun w' => w'.cell? ⟨w.heap.size, 0, none⟩ = some (.int .i64 24) ∧ w'.cell? ⟨w.heap.size, 1, none⟩ = some (.int .i64 (-149)) ∧ w'.cell? ⟨w.heap.size, 2, none⟩ = some (.int .i64 104) ∧ w'.cell? ⟨w.heap.size + 1, 0, none⟩ = some (.int .u8 3) ∧ w'.cell? ⟨w.heap.size + 1, 1, none⟩ = some (.bool ma) ∧ w'.cell? ⟨w.heap.size + 1, 2, none⟩ = some (.int .u64 (na : Nat)) ∧ w'.cell? ⟨w.heap.size + 1, 3, none⟩ = some (.int .i64 pa) ∧ w'.cell? ⟨w.heap.size + 1 + 1, 0, none⟩ = some (.int .u8 3) ∧ w'.cell? ⟨w.heap.size + 1 + 1, 1, none⟩ = some (.bool ma) ∧ w'.cell? ⟨w.heap.size + 1 + 1, 2, none⟩ = some (.int .u64 (nb : Nat)) ∧ w'.cell? ⟨w.heap.size + 1 + 1, 3, none⟩ = some (.int .i64 pb)) ((first | ((try dsimp only); with_reducible refine jS ?_; (repeat (first | exact HB | exact Below.refl _ _ | with_reducible first | refine bel ?_ | refine Below.drew ?_ | refine bt3 ?_)); done) | (refine jF ?_; (repeat (first | exact HB | exact Below.refl _ _ | with_reducible first | refine bel ?_ | refine Below.drew ?_ | refine bt3 ?_)); done))) (first
     | (go_at_call 107; with_reducible refine (nat_any na _ (by omega)).mono ?_; rintro e w1 ⟨⟨v1, rfl, hv1⟩, hb1⟩; obtain ⟨ao1, cap1, zs1, rfl, hc1, hn1, hval1, hN1, hW1, hr1⟩ := hv1.dest; replace HB : Below ((((w.alloc ob).alloc (oV 3 ma na pa)).alloc (oV 3 ma nb pb)).alloc oz).heap.size ((((w.alloc ob).alloc (oV 3 ma na pa)).alloc (oV 3 ma nb pb)).alloc oz) w1 := bt2 hb1 (by apply_rules [HB, Below.refl, bel, Below.drew, bt3]); clear hb1 hv1)
     | (go_at_call 130; (first | rw [HXw.out] | rw [HZw.out]); with_reducible refine (up_any ao1 cap1 zs1 X _ (by have := small_len hN1 hval1 (by omega); omega) (by omega) (RU hr1 (by apply_rules [Below.refl, bel, Below.drew, bt3])) hW1).mono ?_; rintro e w2 ⟨⟨v2, rfl, hv2⟩, hb2⟩; obtain ⟨ao2, cap2, zs2, rfl, hc2, hn2, hval2, hN2, hW2, hr2⟩ := hv2.dest; replace HB : Below ((((w.alloc ob).alloc (oV 3 ma na pa)).alloc (oV 3 ma nb pb)).alloc oz).heap.size ((((w.alloc ob).alloc (oV 3 ma na pa)).alloc (oV 3 ma nb pb)).alloc oz) w2 := bt2 hb2 (by apply_rules [HB, Below.refl, bel, Below.drew, bt3]); clear hb2 hv2; rw [hval1] at hval2)))
 all_goals (have HBx : Below w2.heap.size w2 w2 := Below.refl _ _)
 all_goals (obtain ⟨x0, x1, x2, x3, x4, x5, x6, x7, x8, x9, x10⟩ := jF HB)
 all_goals (go_wp2)
 all_goals (
   go_region_held3 (fun w' => w'.cell? ⟨w.heap.size, 0, none⟩ = some (.int .i64 24) ∧ w'.cell? ⟨w.heap.size, 1, none⟩ = some (.int .i64 (-149)) ∧ w'.cell? ⟨w.heap.size, 2, none⟩ = some (.int .i64 104) ∧ w'.cell? ⟨w.heap.size + 1, 0, none⟩ = some (.int .u8 3) ∧ w'.cell? ⟨w.heap.size + 1, 1, none⟩ = some (.bool ma) ∧ w'.cell? ⟨w.heap.size + 1, 2, none⟩ = some (.int .u64 (na : Nat)) ∧ w'.cell? ⟨w.heap.size + 1, 3, none⟩ = some (.int .i64 pa) ∧ w'.cell? ⟨w.heap.size + 1 + 1, 0, none⟩ = some (.int .u8 3) ∧ w'.cell? ⟨w.heap.size + 1 + 1, 1, none⟩ = some (.bool ma) ∧ w'.cell? ⟨w.heap.size + 1 + 1, 2, none⟩ = some (.int .u64 (nb : Nat)) ∧ w'.cell? ⟨w.heap.size + 1 + 1, 3, none⟩ = some (.int .i64 pb)) ((first | ((try dsimp only); with_reducible refine jS ?_; (repeat (first | exact HB | exact Below.refl _ _ | with_reducible first | refine bel ?_ | refine Below.drew ?_ | refine bt3 ?_)); done) | (refine jF ?_; (repeat (first | exact HB | exact Below.refl _ _ | with_reducible first | refine bel ?_ | refine Below.drew ?_ | refine bt3 ?_)); done))) (first
     | (go_at_call 107; with_reducible refine (nat_any nb _ (by omega)).mono ?_; rintro e w3 ⟨⟨v3, rfl, hv3⟩, hb3⟩; obtain ⟨ao3, cap3, zs3, rfl, hc3, hn3, hval3, hN3, hW3, hr3⟩ := hv3.dest; replace HB : Below ((((w.alloc ob).alloc (oV 3 ma na pa)).alloc (oV 3 ma nb pb)).alloc oz).heap.size ((((w.alloc ob).alloc (oV 3 ma na pa)).alloc (oV 3 ma nb pb)).alloc oz) w3 := bt2 hb3 (by apply_rules [HB, Below.refl, bel, Below.drew, bt3]); replace HBx : Below w2.heap.size w2 w3 := bt2 hb3 (by apply_rules [HBx, Below.refl, bel, Below.drew, bt3]); clear hb3 hv3)
     | (go_at_call 130; (first | rw [HYw.out] | rw [HZw.out]); with_reducible refine (up_any ao3 cap3 zs3 Y _ (by have := small_len hN3 hval3 (by omega); omega) (by omega) (RU hr3 (by apply_rules [Below.refl, bel, Below.drew, bt3])) hW3).mono ?_; rintro e w5 ⟨⟨v5, rfl, hv5⟩, hb5⟩; obtain ⟨ao5, cap5, zs5, rfl, hc5, hn5, hval5, hN5, hW5, hr5⟩ := hv5.dest; replace HB : Below ((((w.alloc ob).alloc (oV 3 ma na pa)).alloc (oV 3 ma nb pb)).alloc oz).heap.size ((((w.alloc ob).alloc (oV 3 ma na pa)).alloc (oV 3 ma nb pb)).alloc oz) w5 := bt2 hb5 (by apply_rules [HB, Below.refl, bel, Below.drew, bt3]); replace HBx : Below w2.heap.size w2 w5 := bt2 hb5 (by apply_rules [HBx, Below.refl, bel, Below.drew, bt3]); clear hb5 hv5; rw [hval3] at hval5)))
 all_goals (have hl2 : zs2.length ≤ 20 := len_pow hN2 hval2 20 HPx)
 all_goals (have hl5 : zs5.length ≤ 20 := len_pow hN5 hval5 20 HPy)
 all_goals (clear x0 x1 x2 x3 x4 x5 x6 x7 x8 x9 x10)
 all_goals (obtain ⟨x0, x1, x2, x3, x4, x5, x6, x7, x8, x9, x10⟩ := jF HB)
 all_goals (go_wp2)
 focus
   go_region_held3 (fun w' => w'.cell? ⟨w.heap.size, 0, none⟩ = some (.int .i64 24) ∧ w'.cell? ⟨w.heap.size, 1, none⟩ = some (.int .i64 (-149)) ∧ w'.cell? ⟨w.heap.size, 2, none⟩ = some (.int .i64 104) ∧ w'.cell? ⟨w.heap.size + 1, 0, none⟩ = some (.int .u8 3) ∧ w'.cell? ⟨w.heap.size + 1, 1, none⟩ = some (.bool ma) ∧ w'.cell? ⟨w.heap.size + 1, 2, none⟩ = some (.int .u64 (na : Nat)) ∧ w'.cell? ⟨w.heap.size + 1, 3, none⟩ = some (.int .i64 pa) ∧ w'.cell? ⟨w.heap.size + 1 + 1, 0, none⟩ = some (.int .u8 3) ∧ w'.cell? ⟨w.heap.size + 1 + 1, 1, none⟩ = some (.bool ma) ∧ w'.cell? ⟨w.heap.size + 1 + 1, 2, none⟩ = some (.int .u64 (nb : Nat)) ∧ w'.cell? ⟨w.heap.size + 1 + 1, 3, none⟩ = some (.int .i64 pb)) ((first | ((try dsimp only); with_reducible refine jS ?_; (repeat (first | exact HB | exact Below.refl _ _ | with_reducible first | refine bel ?_ | refine Below.drew ?_ | refine bt3 ?_)); done) | (refine jF ?_; (repeat (first | exact HB | exact Below.refl _ _ | with_reducible first | refine bel ?_ | refine Below.drew ?_ | refine bt3 ?_)); done))) (first
     | (go_at_call 129; with_reducible refine (plus_any ao2 ao5 cap2 cap5 zs2 zs5 _ (by omega) (by omega) (RU hr2 (by apply_rules [HBx, Below.refl, bel, Below.drew, bt3])) (RU hr5 (by apply_rules [Below.refl, bel, Below.drew, bt3])) hW2 hW5).mono ?_; rintro e w8 ⟨⟨v8, rfl, hv8⟩, hb8⟩; obtain ⟨ao8, cap8, zs8, rfl, hc8, hn8, hval8, hN8, hW8, hr8⟩ := hv8.dest; replace HB : Below ((((w.alloc ob).alloc (oV 3 ma na pa)).alloc (oV 3 ma nb pb)).alloc oz).heap.size ((((w.alloc ob).alloc (oV 3 ma na pa)).alloc (oV 3 ma nb pb)).alloc oz) w8 := bt2 hb8 (by apply_rules [HB, Below.refl, bel, Below.drew, bt3]); clear hb8 hv8; rw [hval2, hval5] at hval8)
     | (go_at_call 105; with_reducible refine (rnd_any ma ao8 cap8 zs8 pb _ (by have := len_pow hN8 hval8 (20 + 1) HPz.out; omega) (RU hr8 (by apply_rules [Below.refl, bel, Below.drew, bt3])) hW8 hN8 (by omega) (by omega)).mono ?_; rintro e w9 ⟨⟨n9, p9, rfl, hf9⟩, hb9⟩; rw [hdV_agg]; replace HB : Below ((((w.alloc ob).alloc (oV 3 ma na pa)).alloc (oV 3 ma nb pb)).alloc oz).heap.size ((((w.alloc ob).alloc (oV 3 ma na pa)).alloc (oV 3 ma nb pb)).alloc oz) w9 := bt2 hb9 (by apply_rules [HB, Below.refl, bel, Below.drew, bt3]); obtain ⟨r0, r1, r2, r3, q0, q1, q2, q3⟩ := jA HB; rw [hval8] at hf9))
 rotate_left
 focus
   go_region_held3 (fun w' => w'.cell? ⟨w.heap.size, 0, none⟩ = some (.int .i64 24) ∧ w'.cell? ⟨w.heap.size, 1, none⟩ = some (.int .i64 (-149)) ∧ w'.cell? ⟨w.heap.size, 2, none⟩ = some (.int .i64 104) ∧ w'.cell? ⟨w.heap.size + 1, 0, none⟩ = some (.int .u8 3) ∧ w'.cell? ⟨w.heap.size + 1, 1, none⟩ = some (.bool ma) ∧ w'.cell? ⟨w.heap.size + 1, 2, none⟩ = some (.int .u64 (na : Nat)) ∧ w'.cell? ⟨w.heap.size + 1, 3, none⟩ = some (.int .i64 pa) ∧ w'.cell? ⟨w.heap.size + 1 + 1, 0, none⟩ = some (.int .u8 3) ∧ w'.cell? ⟨w.heap.size + 1 + 1, 1, none⟩ = some (.bool ma) ∧ w'.cell? ⟨w.heap.size + 1 + 1, 2, none⟩ = some (.int .u64 (nb : Nat)) ∧ w'.cell? ⟨w.heap.size + 1 + 1, 3, none⟩ = some (.int .i64 pb)) ((first | ((try dsimp only); with_reducible refine jS ?_; (repeat (first | exact HB | exact Below.refl _ _ | with_reducible first | refine bel ?_ | refine Below.drew ?_ | refine bt3 ?_)); done) | (refine jF ?_; (repeat (first | exact HB | exact Below.refl _ _ | with_reducible first | refine bel ?_ | refine Below.drew ?_ | refine bt3 ?_)); done))) (first
     | (go_at_call 129; with_reducible refine (plus_any ao2 ao5 cap2 cap5 zs2 zs5 _ (by omega) (by omega) (RU hr2 (by apply_rules [HBx, Below.refl, bel, Below.drew, bt3])) (RU hr5 (by apply_rules [Below.refl, bel, Below.drew, bt3])) hW2 hW5).mono ?_; rintro e w8 ⟨⟨v8, rfl, hv8⟩, hb8⟩; obtain ⟨ao8, cap8, zs8, rfl, hc8, hn8, hval8, hN8, hW8, hr8⟩ := hv8.dest; replace HB : Below ((((w.alloc ob).alloc (oV 3 ma na pa)).alloc (oV 3 ma nb pb)).alloc oz).heap.size ((((w.alloc ob).alloc (oV 3 ma na pa)).alloc (oV 3 ma nb pb)).alloc oz) w8 := bt2 hb8 (by apply_rules [HB, Below.refl, bel, Below.drew, bt3]); clear hb8 hv8; rw [hval2, hval5] at hval8)
     | (go_at_call 105; with_reducible refine (rnd_any ma ao8 cap8 zs8 pa _ (by have := len_pow hN8 hval8 (20 + 1) HPz.out; omega) (RU hr8 (by apply_rules [Below.refl, bel, Below.drew, bt3])) hW8 hN8 (by omega) (by omega)).mono ?_; rintro e w9 ⟨⟨n9, p9, rfl, hf9⟩, hb9⟩; rw [hdV_agg]; replace HB : Below ((((w.alloc ob).alloc (oV 3 ma na pa)).alloc (oV 3 ma nb pb)).alloc oz).heap.size ((((w.alloc ob).alloc (oV 3 ma na pa)).alloc (oV 3 ma nb pb)).alloc oz) w9 := bt2 hb9 (by apply_rules [HB, Below.refl, bel, Below.drew, bt3]); obtain ⟨r0, r1, r2, r3, q0, q1, q2, q3⟩ := jA HB; rw [hval8] at hf9))
 rotate_left
 all_goals (go_wp2)
 all_goals (refine bodyPost_ret (v := .agg #[.int .u8 (vS p9), .bool ma, .int .u64 (vM n9 p9), .int .i64 (vP p9)]) (by simp [results, Tryz.f138, go_sem, r0, r1, r2, r3]) rfl ?_)
 all_goals (exact ⟨⟨n9, p9, by rw [hdV_agg], hf9⟩, jB HB⟩)
abbrev sumLp := smAl.1
abbrev sumGp := smAl.2
end Go.Proofs.YtibhlcfligfhdaaGreat
namespace Go.Proofs.YtibhlcfligfhdaaGreat
end Go.Proofs.YtibhlcfligfhdaaGreat
namespace Go.Proofs.YtibhlcfligfhdaaGreat
open Go.RowKit
set_option maxRecDepth 100000
set_option maxRecDepth 100000 in
set_option maxHeartbeats 40000000 in
theorem smCl :
   (∀ (ma : Bool) (mb : Bool), ((ma == mb) = false) → ∀ (na nb X Y : Nat) (pa pb : Int) (w : World), (na < 16777216) → (nb < 16777216) → (-149 ≤ pa) → (pa ≤ 104) → (-149 ≤ pb) → (pb ≤ 104) → (pb < pa) → (pa - pb = X) → (0 = Y) → (na * 2 ^ X = nb * 2 ^ Y) → Calls Tryz.prog 138 #[.agg #[.int .i64 24, .int .i64 (-149), .int .i64 104], .agg #[.int .u8 3, .bool ma, .int .u64 na, .int .i64 pa], .agg #[.int .u8 3, .bool mb, .int .u64 nb, .int .i64 pb]] w fun e w' => (∃ n q, e = .returned (hdV false n q) ∧ Fits n q 0) ∧ Below w.heap.size w w') ∧
   (∀ (ma : Bool) (mb : Bool), ((ma == mb) = false) → ∀ (na nb X Y : Nat) (pa pb : Int) (w : World), (na < 16777216) → (nb < 16777216) → (-149 ≤ pa) → (pa ≤ 104) → (-149 ≤ pb) → (pb ≤ 104) → (¬ pb < pa) → (0 = X) → (pb - pa = Y) → (na * 2 ^ X = nb * 2 ^ Y) → Calls Tryz.prog 138 #[.agg #[.int .i64 24, .int .i64 (-149), .int .i64 104], .agg #[.int .u8 3, .bool ma, .int .u64 na, .int .i64 pa], .agg #[.int .u8 3, .bool mb, .int .u64 nb, .int .i64 pb]] w fun e w' => (∃ n q, e = .returned (hdV false n q) ∧ Fits n q 0) ∧ Below w.heap.size w w') := by
 refine ⟨?_, ?_⟩
 all_goals intro ma mb hmm na nb X Y pa pb w hna hnb h1 h2 h3 h4 ho hX hY hc
 all_goals (have hXl : X ≤ 600 := by omega)
 all_goals (have hYl : Y ≤ 600 := by omega)
 all_goals (have HXw : Hid (IntKind.i64.wrap (X : Int) = X) := by rw [Hid, IntKind.wrap_i64]; omega)
 all_goals (have HYw : Hid (IntKind.i64.wrap (Y : Int) = Y) := by rw [Hid, IntKind.wrap_i64]; omega)
 all_goals (have HPx := up_pow na X 20 hna (by omega))
 all_goals (have HPy := up_pow nb Y 20 hnb (by omega))
 all_goals (have HB : Below ((((w.alloc ob).alloc (oV 3 ma na pa)).alloc (oV 3 mb nb pb)).alloc oz).heap.size ((((w.alloc ob).alloc (oV 3 ma na pa)).alloc (oV 3 mb nb pb)).alloc oz) ((((w.alloc ob).alloc (oV 3 ma na pa)).alloc (oV 3 mb nb pb)).alloc oz) := Below.refl _ _)
 have HZw : Hid (IntKind.i64.wrap 0 = (Y : Int)) := by rw [Hid, ← hY]; rfl
 rotate_left
 have HZw : Hid (IntKind.i64.wrap 0 = (X : Int)) := by rw [Hid, ← hX]; rfl
 rotate_left
 all_goals (have HAG : Hid (ag (na * 2 ^ X) (nb * 2 ^ Y) = 0) := by rw [Hid]; rw [hc]; exact ag_eq _)
 all_goals (clear hc)
 clear hY
 rotate_left
 clear hX
 rotate_left
 all_goals (go_enter Tryz.func138, Tryz.ntmps138)
 all_goals (go_wp2)
 all_goals (
   go_region_held3 (fun w' => w'.cell? ⟨w.heap.size, 0, none⟩ = some (.int .i64 24) ∧ w'.cell? ⟨w.heap.size, 1, none⟩ = some (.int .i64 (-149)) ∧ w'.cell? ⟨w.heap.size, 2, none⟩ = some (.int .i64 104) ∧ w'.cell? ⟨w.heap.size + 1, 0, none⟩ = some (.int .u8 3) ∧ w'.cell? ⟨w.heap.size + 1, 1, none⟩ = some (.bool ma) ∧ w'.cell? ⟨w.heap.size + 1, 2, none⟩ = some (.int .u64 (na : Nat)) ∧ w'.cell? ⟨w.heap.size + 1, 3, none⟩ = some (.int .i64 pa) ∧ w'.cell? ⟨w.heap.size + 1 + 1, 0, none⟩ = some (.int .u8 3) ∧ w'.cell? ⟨w.heap.size + 1 + 1, 1, none⟩ = some (.bool mb) ∧ w'.cell? ⟨w.heap.size + 1 + 1, 2, none⟩ = some (.int .u64 (nb : Nat)) ∧ w'.cell? ⟨w.heap.size + 1 + 1, 3, none⟩ = some (.int .i64 pb)) ((first | ((try dsimp only); with_reducible refine jS ?_; (repeat (first | exact HB | exact Below.refl _ _ | with_reducible first | refine bel ?_ | refine Below.drew ?_ | refine bt3 ?_)); done) | (refine jF ?_; (repeat (first | exact HB | exact Below.refl _ _ | with_reducible first | refine bel ?_ | refine Below.drew ?_ | refine bt3 ?_)); done))) (first
     | (go_at_call 107; with_reducible refine (nat_any na _ (by omega)).mono ?_; rintro e w1 ⟨⟨v1, rfl, hv1⟩, hb1⟩; obtain ⟨ao1, cap1, zs1, rfl, hc1, hn1, hval1, hN1, hW1, hr1⟩ := hv1.dest; replace HB : Below ((((w.alloc ob).alloc (oV 3 ma na pa)).alloc (oV 3 mb nb pb)).alloc oz).heap.size ((((w.alloc ob).alloc (oV 3 ma na pa)).alloc (oV 3 mb nb pb)).alloc oz) w1 := bt2 hb1 (by apply_rules [HB, Below.refl, bel, Below.drew, bt3]); clear hb1 hv1)
     | (go_at_call 130; (first | rw [HXw.out] | rw [HZw.out]); with_reducible refine (up_any ao1 cap1 zs1 X _ (by have := small_len hN1 hval1 (by omega); omega) (by omega) (RU hr1 (by apply_rules [Below.refl, bel, Below.drew, bt3])) hW1).mono ?_; rintro e w2 ⟨⟨v2, rfl, hv2⟩, hb2⟩; obtain ⟨ao2, cap2, zs2, rfl, hc2, hn2, hval2, hN2, hW2, hr2⟩ := hv2.dest; replace HB : Below ((((w.alloc ob).alloc (oV 3 ma na pa)).alloc (oV 3 mb nb pb)).alloc oz).heap.size ((((w.alloc ob).alloc (oV 3 ma na pa)).alloc (oV 3 mb nb pb)).alloc oz) w2 := bt2 hb2 (by apply_rules [HB, Below.refl, bel, Below.drew, bt3]); clear hb2 hv2; rw [hval1] at hval2)))
 all_goals (have HBx : Below w2.heap.size w2 w2 := Below.refl _ _)
 all_goals (obtain ⟨x0, x1, x2, x3, x4, x5, x6, x7, x8, x9, x10⟩ := jF HB)
 all_goals (go_wp2)
 all_goals (
   go_region_held3 (fun w' => w'.cell? ⟨w.heap.size, 0, none⟩ = some (.int .i64 24) ∧ w'.cell? ⟨w.heap.size, 1, none⟩ = some (.int .i64 (-149)) ∧ w'.cell? ⟨w.heap.size, 2, none⟩ = some (.int .i64 104) ∧ w'.cell? ⟨w.heap.size + 1, 0, none⟩ = some (.int .u8 3) ∧ w'.cell? ⟨w.heap.size + 1, 1, none⟩ = some (.bool ma) ∧ w'.cell? ⟨w.heap.size + 1, 2, none⟩ = some (.int .u64 (na : Nat)) ∧ w'.cell? ⟨w.heap.size + 1, 3, none⟩ = some (.int .i64 pa) ∧ w'.cell? ⟨w.heap.size + 1 + 1, 0, none⟩ = some (.int .u8 3) ∧ w'.cell? ⟨w.heap.size + 1 + 1, 1, none⟩ = some (.bool mb) ∧ w'.cell? ⟨w.heap.size + 1 + 1, 2, none⟩ = some (.int .u64 (nb : Nat)) ∧ w'.cell? ⟨w.heap.size + 1 + 1, 3, none⟩ = some (.int .i64 pb)) ((first | ((try dsimp only); with_reducible refine jS ?_; (repeat (first | exact HB | exact Below.refl _ _ | with_reducible first | refine bel ?_ | refine Below.drew ?_ | refine bt3 ?_)); done) | (refine jF ?_; (repeat (first | exact HB | exact Below.refl _ _ | with_reducible first | refine bel ?_ | refine Below.drew ?_ | refine bt3 ?_)); done))) (first
     | (go_at_call 107; with_reducible refine (nat_any nb _ (by omega)).mono ?_; rintro e w3 ⟨⟨v3, rfl, hv3⟩, hb3⟩; obtain ⟨ao3, cap3, zs3, rfl, hc3, hn3, hval3, hN3, hW3, hr3⟩ := hv3.dest; replace HB : Below ((((w.alloc ob).alloc (oV 3 ma na pa)).alloc (oV 3 mb nb pb)).alloc oz).heap.size ((((w.alloc ob).alloc (oV 3 ma na pa)).alloc (oV 3 mb nb pb)).alloc oz) w3 := bt2 hb3 (by apply_rules [HB, Below.refl, bel, Below.drew, bt3]); replace HBx : Below w2.heap.size w2 w3 := bt2 hb3 (by apply_rules [HBx, Below.refl, bel, Below.drew, bt3]); clear hb3 hv3)
     | (go_at_call 130; (first | rw [HYw.out] | rw [HZw.out]); with_reducible refine (up_any ao3 cap3 zs3 Y _ (by have := small_len hN3 hval3 (by omega); omega) (by omega) (RU hr3 (by apply_rules [Below.refl, bel, Below.drew, bt3])) hW3).mono ?_; rintro e w5 ⟨⟨v5, rfl, hv5⟩, hb5⟩; obtain ⟨ao5, cap5, zs5, rfl, hc5, hn5, hval5, hN5, hW5, hr5⟩ := hv5.dest; replace HB : Below ((((w.alloc ob).alloc (oV 3 ma na pa)).alloc (oV 3 mb nb pb)).alloc oz).heap.size ((((w.alloc ob).alloc (oV 3 ma na pa)).alloc (oV 3 mb nb pb)).alloc oz) w5 := bt2 hb5 (by apply_rules [HB, Below.refl, bel, Below.drew, bt3]); replace HBx : Below w2.heap.size w2 w5 := bt2 hb5 (by apply_rules [HBx, Below.refl, bel, Below.drew, bt3]); clear hb5 hv5; rw [hval3] at hval5)))
 all_goals (have hl2 : zs2.length ≤ 20 := len_pow hN2 hval2 20 HPx)
 all_goals (have hl5 : zs5.length ≤ 20 := len_pow hN5 hval5 20 HPy)
 all_goals (clear x0 x1 x2 x3 x4 x5 x6 x7 x8 x9 x10)
 all_goals (obtain ⟨x0, x1, x2, x3, x4, x5, x6, x7, x8, x9, x10⟩ := jF HB)
 all_goals (
   go_wp2_with (first
     | (go_at_call 135; with_reducible refine (against_any ao2 ao5 cap2 cap5 zs2 zs5 _ (by omega) (by omega) (RU hr2 (by apply_rules [HBx, Below.refl, bel, Below.drew, bt3])) (RU hr5 (by apply_rules [Below.refl, bel, Below.drew, bt3])) hW2 hW5 hN2 hN5).mono ?_; rintro e wq ⟨rfl, kq, hq⟩; subst wq; rw [hval2, hval5, HAG.out])
     | (go_at_call 131; with_reducible refine (nought_any false _).mono ?_; rintro e w9 ⟨rfl, hb9⟩; replace HB : Below ((((w.alloc ob).alloc (oV 3 ma na pa)).alloc (oV 3 mb nb pb)).alloc oz).heap.size ((((w.alloc ob).alloc (oV 3 ma na pa)).alloc (oV 3 mb nb pb)).alloc oz) w9 := bt2 hb9 (by apply_rules [HB, Below.refl, bel, Below.drew, bt3]); obtain ⟨r0, r1, r2, r3, q0, q1, q2, q3⟩ := jA HB)))
 all_goals (refine bodyPost_ret (v := .agg #[.int .u8 3, .bool false, .int .u64 0, .int .i64 (-149)]) (by simp [results, Tryz.f138, go_sem, r0, r1, r2, r3]) rfl ?_)
 all_goals (exact ⟨⟨0, -149, by rw [hdV, if_neg (by omega)]; rfl, 0, by omega, by omega, Or.inl rfl, rfl⟩, jB HB⟩)
abbrev sumLz := smCl.1
abbrev sumGz := smCl.2
end Go.Proofs.YtibhlcfligfhdaaGreat
namespace Go.Proofs.YtibhlcfligfhdaaGreat
end Go.Proofs.YtibhlcfligfhdaaGreat
