import Derived.Test.YtkkflgiepfenpaaSNrR
namespace Go.Proofs.Ytkkflgiepfenpaa
open Go.RowKit

theorem pow_lt_of {x y A B : Nat} (hx : x * 2 ^ A < y * 2 ^ B) {p q : Nat} (h1 : 2 ^ p ≤ x) (h2 : y ≤ 2 ^ q) : p + A < q + B := by
  have a1 : 2 ^ (p + A) ≤ x * 2 ^ A := by rw [Nat.pow_add]; exact Nat.mul_le_mul_right _ h1
  have a2 : y * 2 ^ B ≤ 2 ^ (q + B) := by rw [Nat.pow_add]; exact Nat.mul_le_mul_right _ h2
  exact (Nat.pow_lt_pow_iff_right (a := 2) (by decide)).1 (Nat.lt_of_le_of_lt a1 (Nat.lt_of_lt_of_le hx a2))
theorem pow_le_of {x y A B : Nat} (hx : x * 2 ^ A ≤ y * 2 ^ B) {p q : Nat} (h1 : 2 ^ p ≤ x) (h2 : y < 2 ^ q) : p + A < q + B := by
  have a1 : 2 ^ (p + A) ≤ x * 2 ^ A := by rw [Nat.pow_add]; exact Nat.mul_le_mul_right _ h1
  have a2 : y * 2 ^ B < 2 ^ (q + B) := by rw [Nat.pow_add]; exact Nat.mul_lt_mul_of_pos_right h2 (Nat.two_pow_pos _)
  exact (Nat.pow_lt_pow_iff_right (a := 2) (by decide)).1 (Nat.lt_of_le_of_lt (Nat.le_trans a1 hx) a2)
/-- a step above a rung of binary64 is small -/
theorem step64 (g : Nat) (hg : 4503599627370496 ≤ vl 4503599627370496 g) : ∃ s, vl 4503599627370496 (g + 1) = vl 4503599627370496 g + s ∧ 4503599627370496 * s ≤ vl 4503599627370496 g ∧ ∀ g', g' + 1 = g → vl 4503599627370496 g ≤ vl 4503599627370496 g' + s := by
  obtain ⟨q, k, rfl, h1, h2⟩ := rung_form 4503599627370496 (by decide) g
  have v0 := vl_at 4503599627370496 (by decide) q k h1 (by omega)
  have v1 := vl_at 4503599627370496 (by decide) q (k + 1) (by omega) (by omega)
  refine ⟨2 ^ q, by rw [Nat.add_assoc, v1, v0, Nat.add_mul, Nat.one_mul], ?_, fun g' hg' => ?_⟩
  · rw [v0] at hg ⊢
    rcases h1 with rfl | h1
    · omega
    · exact Nat.mul_le_mul_right _ h1
  · rw [v0]
    by_cases hk : q = 0 ∨ 4503599627370496 ≤ k - 1
    · have hk1 : 1 ≤ k := by
        rcases h1 with rfl | h1
        · rw [v0, Nat.pow_zero, Nat.mul_one] at hg; omega
        · omega
      have : g' = q * 4503599627370496 + (k - 1) := by omega
      rw [this, vl_at 4503599627370496 (by decide) q (k - 1) hk (by omega)]
      obtain ⟨j, rfl⟩ : ∃ j, k = j + 1 := ⟨k - 1, by omega⟩
      rw [Nat.add_sub_cancel, Nat.add_mul, Nat.one_mul]; exact Nat.le_refl _
    · have hk2 : k = 4503599627370496 := by omega
      obtain ⟨p, rfl⟩ : ∃ p, q = p + 1 := ⟨q - 1, by omega⟩
      have : g' = p * 4503599627370496 + 9007199254740991 := by omega
      rw [this, vl_at 4503599627370496 (by decide) p 9007199254740991 (Or.inr (by decide)) (by decide), hk2, Nat.pow_succ]
      omega
theorem sq_mul (G e : Nat) : G * 2 ^ e * (G * 2 ^ e) = G * G * 2 ^ (2 * e) := by
  rw [Nat.mul_mul_mul_comm, ← Nat.pow_add, Nat.two_mul]
theorem sticky_lt {n G : Nat} (h : sticky n < 2 * G) : n < G * G := by
  unfold sticky at h
  have h1 := isq_gt n
  have h2 : isq n + 1 ≤ G := by omega
  exact Nat.lt_of_lt_of_le h1 (Nat.mul_le_mul h2 h2)
theorem sticky_gt {n G : Nat} (h : 2 * G < sticky n) : G * G < n := by
  unfold sticky at h
  have h1 := isq_le n
  have b1 : (isq n * isq n != n).toNat ≤ 1 := by cases (isq n * isq n != n) <;> decide
  by_cases e : isq n = G
  · subst e
    by_cases e2 : isq n * isq n = n
    · have e3 : (isq n * isq n != n) = false := by simp [e2]
      rw [e3] at h
      simp at h
    · omega
  · have h2 : G + 1 ≤ isq n := by omega
    have h3 := Nat.mul_le_mul h2 h2
    have h4 : (G + 1) * (G + 1) = G * G + 2 * G + 1 := by rw [Nat.add_mul, Nat.mul_add]; omega
    omega
/-- held against what has 25 digits, two roundings of a root do no harm -/
theorem core (n e β f rd g : Nat) (h1 : 2 ^ 108 ≤ n) (h2 : n < 2 ^ 110) (hm : ∃ c, n = c * 2 ^ 58) (hN : Near 4503599627370496 0 (sticky n * 2 ^ e) rd) (hg : vl 4503599627370496 g = β * 2 ^ f) (hβ : β < 2 ^ 25) (hβ0 : 0 < β) (hf : 52 ≤ f) (hfe : e + 1 ≤ f) :
    (vl 4503599627370496 rd < β * 2 ^ f → n * 2 ^ (2 * e) < β * 2 ^ (f - 1) * (β * 2 ^ (f - 1))) ∧ (β * 2 ^ f < vl 4503599627370496 rd → β * 2 ^ (f - 1) * (β * 2 ^ (f - 1)) < n * 2 ^ (2 * e)) ∧ (vl 4503599627370496 rd = β * 2 ^ f → n * 2 ^ (2 * e) = β * 2 ^ (f - 1) * (β * 2 ^ (f - 1))) := by
  obtain ⟨u, hu⟩ : ∃ u, f = e + 1 + u := ⟨f - (e + 1), by omega⟩
  have hst := sticky_bounds (k := 54) h1 h2
  have hpe := Nat.two_pow_pos e
  have hpe2 := Nat.two_pow_pos (2 * e)
  obtain ⟨G, hG⟩ : ∃ G, G = β * 2 ^ u := ⟨_, rfl⟩
  have eB : β * 2 ^ f = 2 * G * 2 ^ e := by
    rw [hG, hu, show e + 1 + u = u + 1 + e by omega, Nat.pow_add, Nat.pow_succ, ← Nat.mul_assoc, ← Nat.mul_assoc, Nat.mul_comm _ 2, Nat.mul_assoc 2]
  have eB' : β * 2 ^ (f - 1) = G * 2 ^ e := by
    rw [hG, hu, show e + 1 + u - 1 = u + e by omega, Nat.pow_add, Nat.mul_assoc]
  rw [eB', sq_mul, eB]
  rw [eB] at hg
  obtain ⟨⟨n1, -⟩, n3⟩ := hN
  rw [Nat.pow_zero, Nat.mul_one] at n1
  have mono := fun {x y : Nat} (h : x < y) => vl_lt 4503599627370496 (by decide) h
  have moni := fun {x y : Nat} (h : x ≤ y) => vl_le 4503599627370496 (by decide) h
  refine ⟨fun h => ?_, fun h => ?_, fun h => ?_⟩
  · have hlt : rd < g := by
      apply Nat.lt_of_not_le
      intro hle
      have := moni hle
      omega
    have := moni (show rd + 1 ≤ g by omega)
    have h3 : sticky n * 2 ^ e < 2 * G * 2 ^ e := by omega
    exact Nat.mul_lt_mul_of_pos_right (sticky_lt (Nat.lt_of_mul_lt_mul_right h3)) hpe2
  · have hlt : g < rd := by
      apply Nat.lt_of_not_le
      intro hle
      have := moni hle
      omega
    obtain ⟨r', hr'⟩ : ∃ r', r' + 1 = rd := ⟨rd - 1, by omega⟩
    have h4 := (n3 r' hr').1
    rw [Nat.pow_zero, Nat.mul_one] at h4
    have := moni (show g ≤ r' by omega)
    have h3 : 2 * G * 2 ^ e < sticky n * 2 ^ e := by omega
    exact Nat.mul_lt_mul_of_pos_right (sticky_gt (Nat.lt_of_mul_lt_mul_right h3)) hpe2
  · have hrd : rd = g := by
      rcases Nat.lt_trichotomy rd g with h' | h' | h'
      · have := mono h'; omega
      · exact h'
      · have := mono h'; omega
    subst hrd
    have hbig : 4503599627370496 ≤ vl 4503599627370496 rd := by
      rw [hg, ← eB]
      have a1 : 2 ^ 52 ≤ 2 ^ f := Nat.pow_le_pow_right (by decide) hf
      have a2 : 2 ^ f ≤ β * 2 ^ f := Nat.le_mul_of_pos_left _ hβ0
      omega
    obtain ⟨s, s1, s2, s3⟩ := step64 rd hbig
    have hG0 : 0 < G := by rw [hG]; exact Nat.mul_pos hβ0 (Nat.two_pow_pos _)
    have hrd0 : 0 < rd := by
      rcases Nat.eq_zero_or_pos rd with e0 | e0
      · rw [e0, show vl 4503599627370496 0 = 0 from rfl] at hbig; omega
      · exact e0
    obtain ⟨r', hr'⟩ : ∃ r', r' + 1 = rd := ⟨rd - 1, by omega⟩
    have h4 := (n3 r' hr').1
    rw [Nat.pow_zero, Nat.mul_one] at h4
    have s3' := s3 r' hr'
    rw [s1, hg] at n1
    rw [hg] at h4 s2 s3'
    -- both sides, in units
    have up : 4503599627370496 * (2 * (sticky n * 2 ^ e)) ≤ 4503599627370496 * (4 * G * 2 ^ e) + 2 * G * 2 ^ e := by
      have : 4 * G * 2 ^ e = 2 * (2 * G * 2 ^ e) := by rw [show 4 * G = 2 * (2 * G) by omega, Nat.mul_assoc 2]
      rw [this]; omega
    have dn : 4503599627370496 * (4 * G * 2 ^ e) ≤ 4503599627370496 * (2 * (sticky n * 2 ^ e)) + 2 * G * 2 ^ e := by
      have : 4 * G * 2 ^ e = 2 * (2 * G * 2 ^ e) := by rw [show 4 * G = 2 * (2 * G) by omega, Nat.mul_assoc 2]
      rw [this]; omega
    have up2 : 4503599627370496 * (2 * sticky n) ≤ 4503599627370496 * (4 * G) + 2 * G := by
      refine Nat.le_of_mul_le_mul_right (c := 2 ^ e) ?_ hpe
      rw [Nat.add_mul, Nat.mul_assoc, Nat.mul_assoc 4503599627370496, Nat.mul_assoc 2 (sticky n)]; exact up
    have dn2 : 4503599627370496 * (4 * G) ≤ 4503599627370496 * (2 * sticky n) + 2 * G := by
      refine Nat.le_of_mul_le_mul_right (c := 2 ^ e) ?_ hpe
      rw [Nat.add_mul, Nat.mul_assoc, Nat.mul_assoc 4503599627370496, Nat.mul_assoc 2 (sticky n)]; exact dn
    clear up dn
    have hGlo : 18014398509481900 ≤ G := by omega
    have hGhi : G ≤ 36028797018963980 := by omega
    -- how many noughts it ends with
    have hu30 : 30 ≤ u := by
      apply Nat.le_of_not_lt
      intro hlt
      have a1 : 2 ^ u ≤ 2 ^ 29 := Nat.pow_le_pow_right (by decide) (by omega)
      have a2 : G ≤ (2 ^ 25 - 1) * 2 ^ 29 := by rw [hG]; exact Nat.mul_le_mul (by omega) a1
      omega
    obtain ⟨v, hv⟩ : ∃ v, u = v + 30 := ⟨u - 30, by omega⟩
    obtain ⟨γ, hγ⟩ : ∃ γ, G = γ * 1073741824 := ⟨β * 2 ^ v, by rw [hG, hv, Nat.pow_add, ← Nat.mul_assoc]⟩
    have hGG : G * G = γ * γ * 4 * 2 ^ 58 := by
      rw [hγ, Nat.mul_mul_mul_comm]; omega
    obtain ⟨c, hc⟩ := hm
    have i1 := isq_le n
    have i2 := isq_gt n
    have b1 : (isq n * isq n != n).toNat ≤ 1 := by cases (isq n * isq n != n) <;> decide
    have hsd : sticky n = 2 * isq n + (isq n * isq n != n).toNat := rfl
    have hGn : G * G = n := by
      apply Classical.byContradiction
      intro hne
      generalize hX : γ * γ * 4 = X at hGG
      rcases Nat.lt_or_gt_of_ne hne with hlt | hgt
      · -- the root would be greater
        have hd : G * G + 2 ^ 58 ≤ n := by omega
        have h55 : G < 2 ^ 55 := sq_lt (Nat.lt_trans hlt (Nat.lt_of_lt_of_eq h2 (by decide)))
        have hGs : G ≤ 36028797018963966 := by omega
        have hq : (G + 4) * (G + 4) = G * G + 8 * G + 16 := by rw [Nat.add_mul, Nat.mul_add]; omega
        have h6 : (G + 4) * (G + 4) ≤ n := by omega
        have h7 := sq_lt (Nat.lt_of_le_of_lt h6 i2)
        omega
      · have hd : n + 2 ^ 58 ≤ G * G := by omega
        have hGs : G ≤ 36028797018963968 := by omega
        obtain ⟨w, hw⟩ : ∃ w, G = w + 4 := ⟨G - 4, by omega⟩
        have hq : (w + 4) * (w + 4) = w * w + 8 * w + 16 := by rw [Nat.add_mul, Nat.mul_add]; omega
        rw [hw, hq] at hd
        have h6 : n < w * w := by omega
        have h7 := sq_lt (Nat.lt_of_le_of_lt i1 h6)
        omega
    rw [hGn]
end Go.Proofs.Ytkkflgiepfenpaa
