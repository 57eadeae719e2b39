import Derived.Test.YtdpghhkimnifjaaSBound
namespace Go.Proofs.Ytdpghhkimnifjaa
open Go.RowKit
set_option maxRecDepth 100000

/-! to the nearest whole number, of two the even one -/
def rne (n g : Nat) : Nat := n / g + (if g < 2 * (n % g) ∨ (g = 2 * (n % g) ∧ n / g % 2 = 1) then 1 else 0)
theorem rne_up (n g : Nat) (hg : 0 < g) : 2 * n ≤ (2 * rne n g + 1) * g ∧ (2 * n = (2 * rne n g + 1) * g → rne n g % 2 = 0) := by
  have h1 := Nat.div_add_mod n g
  have h2 := Nat.mod_lt n hg
  unfold rne
  generalize n / g = t at *
  generalize n % g = s at *
  rw [Nat.add_mul, Nat.mul_assoc, Nat.one_mul, Nat.add_mul, Nat.mul_comm t g]
  split
  · simp only [Nat.one_mul]
    omega
  · simp only [Nat.zero_mul, Nat.add_zero]
    omega
theorem rne_dn (n g : Nat) (hg : 0 < g) : 2 * rne n g * g ≤ 2 * n + g ∧ (2 * rne n g * g = 2 * n + g → rne n g % 2 = 0) := by
  have h1 := Nat.div_add_mod n g
  have h2 := Nat.mod_lt n hg
  unfold rne
  generalize n / g = t at *
  generalize n % g = s at *
  rw [Nat.mul_assoc, Nat.add_mul, Nat.mul_comm t g]
  split
  · simp only [Nat.one_mul]
    omega
  · simp only [Nat.zero_mul, Nat.add_zero]
    omega
theorem rne_ge (n g : Nat) : n / g ≤ rne n g := by unfold rne; omega
theorem rne_le (n g : Nat) : rne n g ≤ n / g + 1 := by unfold rne; split <;> omega
theorem cut_eq (neg : Bool) (n drop : Nat) : Ieee.Toward.even.cut neg n drop = rne n (2 ^ drop) := by
  unfold Ieee.Toward.cut rne
  dsimp only
  rw [Nat.shiftLeft_eq, Nat.one_mul]
  by_cases h : drop ≤ n.log2 + 2
  · rw [Nat.min_eq_left h]
    congr 1
    generalize 2 ^ drop = g
    by_cases a : g < 2 * (n % g)
    · rw [if_pos (Or.inl a), decide_eq_true a]; rfl
    · by_cases b : g = 2 * (n % g) ∧ n / g % 2 = 1
      · rw [if_pos (Or.inr b), decide_eq_false a]
        have e1 : (g == 2 * (n % g)) = true := by rw [← b.1]; exact beq_self_eq_true g
        rw [e1, b.2]; rfl
      · rw [if_neg (fun h => h.elim a b), decide_eq_false a]
        have : (g == 2 * (n % g) && n / g % 2 == 1) = false := by
          rw [← Bool.not_eq_true]
          intro hh
          rw [Bool.and_eq_true, beq_iff_eq, beq_iff_eq] at hh
          exact b hh
        rw [this]; rfl
  · rw [Nat.min_eq_right (by omega)]
    have h1 : n < 2 ^ (n.log2 + 1) := Nat.lt_log2_self
    have h2 : 2 ^ (n.log2 + 2) = 2 * 2 ^ (n.log2 + 1) := by rw [Nat.pow_succ, Nat.mul_comm]
    have h3 : 2 ^ (n.log2 + 2) ≤ 2 ^ drop := Nat.pow_le_pow_right (by decide) (by omega)
    have h4 : n < 2 ^ (n.log2 + 2) := by omega
    have h5 : n < 2 ^ drop := by omega
    rw [Nat.div_eq_of_lt h4, Nat.mod_eq_of_lt h4, Nat.div_eq_of_lt h5, Nat.mod_eq_of_lt h5, if_neg (by omega)]
    rw [decide_eq_false (by omega), show (2 ^ (n.log2 + 2) == 2 * n) = false by simp; omega]
    rfl

/-! the rungs' sizes -/
def vl (B r : Nat) : Nat := if r < B then r else (B + r % B) * 2 ^ (r / B - 1)
theorem vl_at (B : Nat) (hB : 0 < B) (q k : Nat) (h : q = 0 ∨ B ≤ k) (hk : k ≤ 2 * B) : vl B (q * B + k) = k * 2 ^ q := by
  unfold vl
  by_cases h1 : k < B
  · have : q = 0 := by omega
    subst this
    rw [Nat.zero_mul, Nat.zero_add, if_pos h1]; simp
  · obtain ⟨j, rfl⟩ : ∃ j, k = B + j := ⟨k - B, by omega⟩
    have e : q * B + (B + j) = B * (q + 1) + j := by rw [Nat.mul_add, Nat.mul_comm]; omega
    rw [e, if_neg (by have := Nat.le_mul_of_pos_right B (show 0 < q + 1 by omega); omega)]
    by_cases h2 : j < B
    · rw [Nat.mul_add_mod, Nat.mod_eq_of_lt h2, Nat.mul_add_div hB, Nat.div_eq_of_lt h2]
      simp
    · have : j = B := by omega
      subst this
      rw [show j * (q + 1) + j = j * (q + 2) by rw [Nat.mul_add, Nat.mul_add]; omega, Nat.mul_mod_right, Nat.mul_div_cancel_left _ hB]
      rw [show q + 2 - 1 = q + 1 by omega, Nat.pow_succ]
      simp only [Nat.add_zero]
      rw [← Nat.two_mul, Nat.mul_comm 2 j, Nat.mul_assoc, Nat.mul_comm (2 ^ q) 2]
theorem rung_form (B : Nat) (hB : 0 < B) (r : Nat) : ∃ q k, r = q * B + k ∧ (q = 0 ∨ B ≤ k) ∧ k < 2 * B := by
  by_cases h : r < B
  · exact ⟨0, r, by simp, Or.inl rfl, by omega⟩
  · refine ⟨r / B - 1, B + r % B, ?_, Or.inr (Nat.le_add_right _ _), by have := Nat.mod_lt r hB; omega⟩
    have h1 := Nat.div_add_mod r B
    have h2 : 1 ≤ r / B := (Nat.le_div_iff_mul_le hB).2 (by omega)
    obtain ⟨t, ht⟩ : ∃ t, r / B = t + 1 := ⟨r / B - 1, by omega⟩
    rw [ht] at h1 ⊢
    rw [Nat.mul_add, Nat.mul_comm] at h1
    simp only [Nat.add_sub_cancel]
    omega
theorem vl_succ (B : Nat) (hB : 0 < B) (r : Nat) : vl B r < vl B (r + 1) := by
  obtain ⟨q, k, rfl, h1, h2⟩ := rung_form B hB r
  rw [vl_at B hB q k h1 (by omega), Nat.add_assoc, vl_at B hB q (k + 1) (by omega) (by omega)]
  exact Nat.mul_lt_mul_of_pos_right (by omega) (Nat.two_pow_pos _)
theorem vl_lt (B : Nat) (hB : 0 < B) {r s : Nat} (h : r < s) : vl B r < vl B s := by
  obtain ⟨k, rfl⟩ : ∃ k, s = r + 1 + k := ⟨s - (r + 1), by omega⟩
  clear h
  induction k with
  | zero => exact vl_succ B hB r
  | succ k ih => exact Nat.lt_trans ih (vl_succ B hB _)
theorem vl_le (B : Nat) (hB : 0 < B) {r s : Nat} (h : r ≤ s) : vl B r ≤ vl B s := by
  rcases Nat.lt_or_eq_of_le h with h' | h'
  · exact Nat.le_of_lt (vl_lt B hB h')
  · rw [h']; exact Nat.le_refl _

/-- the rung nearest to N, which counts in 2^-d of the least step -/
def Near (B d N r : Nat) : Prop :=
  (2 * N ≤ (vl B r + vl B (r + 1)) * 2 ^ d ∧ (2 * N = (vl B r + vl B (r + 1)) * 2 ^ d → r % 2 = 0)) ∧
  ∀ r', r' + 1 = r → (vl B r' + vl B r) * 2 ^ d ≤ 2 * N ∧ ((vl B r' + vl B r) * 2 ^ d = 2 * N → r % 2 = 0)
theorem Near.mono {B d N N' r r' : Nat} (hB : 0 < B) (h : Near B d N r) (h' : Near B d N' r') (hN : N ≤ N') : r ≤ r' := by
  apply Nat.le_of_not_lt
  intro hlt
  obtain ⟨t, rfl⟩ : ∃ t, r = t + 1 := ⟨r - 1, by omega⟩
  obtain ⟨h1, h2⟩ := h.2 t rfl
  obtain ⟨h3, h4⟩ := h'.1
  have hp := Nat.two_pow_pos d
  by_cases e : r' = t
  · subst e
    have e1 := h2 (by omega)
    have e2 := h4 (by omega)
    omega
  · have a1 := vl_lt B hB (show r' < t by omega)
    have a2 := vl_lt B hB (show r' + 1 < t + 1 by omega)
    have := Nat.mul_lt_mul_of_pos_right (show vl B r' + vl B (r' + 1) < vl B t + vl B (t + 1) by omega) hp
    omega
theorem Near.unique {B d N r r' : Nat} (hB : 0 < B) (h : Near B d N r) (h' : Near B d N r') : r = r' :=
  Nat.le_antisymm (h.mono hB h' (Nat.le_refl _)) (h'.mono hB h (Nat.le_refl _))
theorem near_self (B d r : Nat) (hB : 0 < B) : Near B d (vl B r * 2 ^ d) r := by
  have hp := Nat.two_pow_pos d
  refine ⟨?_, fun t ht => ?_⟩
  · have := Nat.mul_lt_mul_of_pos_right (vl_succ B hB r) hp
    rw [Nat.add_mul]
    exact ⟨by omega, fun e => by omega⟩
  · subst ht
    have := Nat.mul_lt_mul_of_pos_right (vl_succ B hB t) hp
    rw [Nat.add_mul]
    exact ⟨by omega, fun e => by omega⟩

/-! the rung that Ieee takes -/
def lastOf (f : Ieee.Format) (mag : Nat) (place : Int) : Int := max (place + mag.log2 - f.fractionBits) f.leastPlace
def rg (f : Ieee.Format) (mag : Nat) (place : Int) : Nat :=
  if mag = 0 then 0 else (lastOf f mag place - f.leastPlace).toNat * f.binade + rne (mag <<< (place - lastOf f mag place).toNat) (2 ^ (lastOf f mag place - place).toNat)
theorem nearest_rg (f : Ieee.Format) (neg : Bool) (mag : Nat) (place : Int) : f.nearest neg mag place = f.word neg (min (rg f mag place) f.infRung) := by
  unfold Ieee.Format.nearest rg
  split
  · rw [Nat.zero_min]
  · dsimp only
    rw [cut_eq]; rfl
theorem near_kept (p q d n g N k : Nat) (hg : 0 < g) (hN : N * g = n * 2 ^ (q + d)) (hk : k = rne n g) (hlo : q = 0 ∨ 2 ^ p ≤ n / g) (hhi : n / g < 2 * 2 ^ p) (hp : 0 < p) :
    Near (2 ^ p) d N (q * 2 ^ p + k) := by
  have hB := Nat.two_pow_pos p
  have hup := rne_up n g hg
  have hdn := rne_dn n g hg
  have hge := rne_ge n g
  have hle := rne_le n g
  rw [← hk] at hup hdn hge hle
  have hkB : k ≤ 2 * 2 ^ p := by omega
  have hkl : q = 0 ∨ 2 ^ p ≤ k := by omega
  have hpq := Nat.two_pow_pos (q + d)
  have hv := vl_at (2 ^ p) hB q k hkl hkB
  have hpar : (q * 2 ^ p + k) % 2 = k % 2 := by
    obtain ⟨p', rfl⟩ : ∃ p', p = p' + 1 := ⟨p - 1, by omega⟩
    rw [Nat.pow_succ, ← Nat.mul_assoc]; omega
  -- what is held against the middles
  have up2 : 2 * N ≤ (2 * k + 1) * 2 ^ (q + d) ∧ (2 * N = (2 * k + 1) * 2 ^ (q + d) → k % 2 = 0) := by
    have e : (2 * N) * g = (2 * n) * 2 ^ (q + d) := by rw [Nat.mul_assoc, hN, Nat.mul_assoc]
    have e2 : (2 * k + 1) * 2 ^ (q + d) * g = (2 * k + 1) * g * 2 ^ (q + d) := by rw [Nat.mul_assoc, Nat.mul_comm (2 ^ (q + d)) g, ← Nat.mul_assoc]
    refine ⟨?_, fun h => hup.2 ?_⟩
    · refine Nat.le_of_mul_le_mul_right (c := g) ?_ hg
      rw [e, e2]
      exact Nat.mul_le_mul_right _ hup.1
    · have : (2 * N) * g = (2 * k + 1) * 2 ^ (q + d) * g := by rw [h]
      rw [e, e2] at this
      exact Nat.eq_of_mul_eq_mul_right hpq this
  have dn2 : 2 * k * 2 ^ (q + d) ≤ 2 * N + 2 ^ (q + d) ∧ (2 * k * 2 ^ (q + d) = 2 * N + 2 ^ (q + d) → k % 2 = 0) := by
    have e : (2 * N + 2 ^ (q + d)) * g = (2 * n + g) * 2 ^ (q + d) := by
      rw [Nat.add_mul, Nat.mul_assoc, hN, Nat.add_mul, Nat.mul_assoc, Nat.mul_comm g]
    have e2 : 2 * k * 2 ^ (q + d) * g = 2 * k * g * 2 ^ (q + d) := by rw [Nat.mul_assoc, Nat.mul_comm (2 ^ (q + d)) g, ← Nat.mul_assoc]
    refine ⟨?_, fun h => hdn.2 ?_⟩
    · refine Nat.le_of_mul_le_mul_right (c := g) ?_ hg
      rw [e, e2]
      exact Nat.mul_le_mul_right _ hdn.1
    · have : 2 * k * 2 ^ (q + d) * g = (2 * N + 2 ^ (q + d)) * g := by rw [h]
      rw [e, e2] at this
      exact Nat.eq_of_mul_eq_mul_right hpq this
  have hpd := Nat.two_pow_pos d
  have hpqd : 2 ^ (q + d) = 2 ^ q * 2 ^ d := Nat.pow_add _ _ _
  refine ⟨?_, fun t ht => ?_⟩
  · rw [hv, hpar]
    by_cases hk2 : k < 2 * 2 ^ p
    · have hv1 := vl_at (2 ^ p) hB q (k + 1) (by omega) (by omega)
      rw [Nat.add_assoc, hv1]
      have e : (k * 2 ^ q + (k + 1) * 2 ^ q) * 2 ^ d = (2 * k + 1) * 2 ^ (q + d) := by
        rw [← Nat.add_mul, hpqd, Nat.mul_assoc]; congr 1; omega
      rw [e]
      exact up2
    · have hv1 := vl_lt (2 ^ p) hB (show q * 2 ^ p + k < q * 2 ^ p + k + 1 by omega)
      -- one step of twice the width
      have hk3 : k = 2 * 2 ^ p := by omega
      have hv2 := vl_at (2 ^ p) hB (q + 1) (2 ^ p + 1) (Or.inr (by omega)) (by omega)
      have e0 : q * 2 ^ p + k + 1 = (q + 1) * 2 ^ p + (2 ^ p + 1) := by rw [hk3, Nat.add_mul]; omega
      rw [e0, hv2]
      have e : (k * 2 ^ q + (2 ^ p + 1) * 2 ^ (q + 1)) * 2 ^ d = (2 * k + 2) * 2 ^ (q + d) := by
        rw [Nat.pow_succ, Nat.mul_comm (2 ^ q) 2, ← Nat.mul_assoc, ← Nat.add_mul, hpqd, Nat.mul_assoc]; congr 1; omega
      rw [e]
      have : (2 * k + 1) * 2 ^ (q + d) < (2 * k + 2) * 2 ^ (q + d) := Nat.mul_lt_mul_of_pos_right (by omega) hpq
      exact ⟨by omega, fun h => by omega⟩
  · rw [hv, hpar]
    by_cases hq : q = 0 ∨ 2 ^ p + 1 ≤ k
    · have hk0 : 1 ≤ k := by rcases hq with rfl | h; omega; omega
      have hv1 := vl_at (2 ^ p) hB q (k - 1) (by omega) (by omega)
      have e0 : t = q * 2 ^ p + (k - 1) := by omega
      rw [e0, hv1]
      obtain ⟨j, rfl⟩ : ∃ j, k = j + 1 := ⟨k - 1, by omega⟩
      simp only [Nat.add_sub_cancel]
      have e : (j * 2 ^ q + (j + 1) * 2 ^ q) * 2 ^ d = (2 * j + 1) * 2 ^ (q + d) := by
        rw [← Nat.add_mul, hpqd, Nat.mul_assoc]; congr 1; omega
      rw [e]
      have e1 : 2 * (j + 1) * 2 ^ (q + d) = (2 * j + 1) * 2 ^ (q + d) + 2 ^ (q + d) := by
        rw [show 2 * (j + 1) = (2 * j + 1) + 1 by omega, Nat.add_mul (2 * j + 1) 1, Nat.one_mul]
      rw [e1] at dn2
      exact ⟨by omega, fun h => dn2.2 (by omega)⟩
    · have hkp : k = 2 ^ p := by omega
      have hq0 : 0 < q := by omega
      obtain ⟨q', rfl⟩ : ∃ q', q = q' + 1 := ⟨q - 1, by omega⟩
      have hnk : 2 ^ p ≤ n / g := by omega
      have hng : k * g ≤ n := by rw [hkp]; exact (Nat.le_div_iff_mul_le hg).1 hnk
      have hNk : k * 2 ^ (q' + 1 + d) ≤ N := by
        refine Nat.le_of_mul_le_mul_right (c := g) ?_ hg
        rw [hN, Nat.mul_assoc, Nat.mul_comm (2 ^ (q' + 1 + d)) g, ← Nat.mul_assoc]
        exact Nat.mul_le_mul_right _ hng
      have hvt := vl_lt (2 ^ p) hB (show t < (q' + 1) * 2 ^ p + k by omega)
      rw [hv] at hvt
      have : (vl (2 ^ p) t + k * 2 ^ (q' + 1)) * 2 ^ d < (k * 2 ^ (q' + 1) + k * 2 ^ (q' + 1)) * 2 ^ d := Nat.mul_lt_mul_of_pos_right (by omega) hpd
      have e : (k * 2 ^ (q' + 1) + k * 2 ^ (q' + 1)) * 2 ^ d = 2 * (k * 2 ^ (q' + 1 + d)) := by
        rw [hpqd, ← Nat.two_mul, Nat.mul_assoc, Nat.mul_assoc]
      rw [e] at this
      exact ⟨by omega, fun h => by omega⟩
theorem rg_near (f : Ieee.Format) (hp : 0 < f.fractionBits) (mag : Nat) (place : Int) (d : Nat) (hd : f.leastPlace ≤ place + d) :
    Near f.binade d (mag * 2 ^ (place - f.leastPlace + d).toNat) (rg f mag place) := by
  have hB : 0 < f.binade := Nat.two_pow_pos _
  unfold rg
  by_cases hm : mag = 0
  · rw [if_pos hm, hm, Nat.zero_mul]
    have := near_self f.binade d 0 hB
    rwa [show vl f.binade 0 = 0 by unfold vl; rw [if_pos hB], Nat.zero_mul] at this
  rw [if_neg hm]
  have hlt : mag < 2 ^ (mag.log2 + 1) := Nat.lt_log2_self
  have hge : 2 ^ mag.log2 ≤ mag := Nat.log2_self_le hm
  have hl : lastOf f mag place = max (place + mag.log2 - f.fractionBits) f.leastPlace := rfl
  generalize lastOf f mag place = last at hl ⊢
  generalize mag.log2 = L at *
  refine near_kept f.fractionBits (last - f.leastPlace).toNat d (mag <<< (place - last).toNat) (2 ^ (last - place).toNat) _ _ (Nat.two_pow_pos _) ?_ rfl ?_ ?_ hp
  · rw [Nat.shiftLeft_eq, Nat.mul_assoc, Nat.mul_assoc, ← Nat.pow_add, ← Nat.pow_add]
    congr 2
    omega
  · by_cases hq : (last - f.leastPlace).toNat = 0
    · exact Or.inl hq
    · refine Or.inr ?_
      rw [Nat.le_div_iff_mul_le (Nat.two_pow_pos _), ← Nat.pow_add, Nat.shiftLeft_eq]
      refine Nat.le_trans ?_ (Nat.mul_le_mul_right _ hge)
      rw [← Nat.pow_add]
      exact Nat.pow_le_pow_right (by decide) (by omega)
  · rw [Nat.div_lt_iff_lt_mul (Nat.two_pow_pos _), Nat.shiftLeft_eq, Nat.mul_comm 2, ← Nat.pow_succ, ← Nat.pow_add]
    refine Nat.lt_of_lt_of_le (Nat.mul_lt_mul_of_pos_right hlt (Nat.two_pow_pos _)) ?_
    rw [← Nat.pow_add]
    exact Nat.pow_le_pow_right (by decide) (by omega)
end Go.Proofs.Ytdpghhkimnifjaa
