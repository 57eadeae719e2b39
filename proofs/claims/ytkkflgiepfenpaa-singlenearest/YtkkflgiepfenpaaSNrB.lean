import Derived.Test.YtkkflgiepfenpaaSNrQ
namespace Go.Proofs.Ytkkflgiepfenpaa
open Go.RowKit

theorem root_btw (a : Nat) (h0 : 0 < a) (ha : a < 2139095040) :
    froot a < 2139095040 ∧ 0 < froot a ∧ Btw (rdm a) (-149 + (rdk a : Int)) (hlo (froot a) * hlo (froot a)) ((4 * rdm (froot a) + 2) * (4 * rdm (froot a) + 2)) (2 * (-151 + (rdk (froot a) : Int))) (rdm (froot a) % 2 == 0) := by
  obtain ⟨more, E, M, K, rd, rs, vM, hE, hlo1, hhi1, hN, -, hE0, hn2, ef⟩ := froot_pos a h0 ha
  have hmod : a % 2147483648 = a := Nat.mod_eq_of_lt (by omega)
  obtain ⟨va, -, ma, -⟩ := rd_val a
  rw [hmod] at va
  obtain ⟨e, he⟩ : ∃ e : Nat, (e : Int) = E + 1073 := ⟨(E + 1073).toNat, by omega⟩
  rw [show (E + 1073).toNat = e by omega] at hN
  obtain ⟨d, hd⟩ : ∃ d : Nat, d = 925 := ⟨_, rfl⟩
  rw [← hd] at hn2 vM
  obtain ⟨n, hn⟩ : ∃ n, n = M * 2 ^ more := ⟨_, rfl⟩
  rw [← hn] at hlo1 hhi1 hN
  obtain ⟨T, hT⟩ : ∃ T, T = rdk a + 1997 := ⟨_, rfl⟩
  have R1 : n * 2 ^ (2 * e) = rdm a * 2 ^ T := by
    have e1 : n * 2 ^ (2 * e) = M * 2 ^ K * 2 ^ (1997 - d) := by
      rw [hn, Nat.mul_assoc, Nat.mul_assoc, ← Nat.pow_add, ← Nat.pow_add]; congr 2; omega
    rw [e1, vM, ← va, Nat.mul_assoc, Nat.mul_assoc, ← Nat.pow_add, ← Nat.pow_add]; congr 2; omega
  have hra : 0 < rdm a := by
    rcases Nat.eq_zero_or_pos (rdm a) with z | z
    · rw [z, Nat.zero_mul] at va
      have := val_lt h0
      rw [show val 0 = 0 from rfl] at this
      omega
    · exact z
  have ra24 : rdm a < 2 ^ 24 := ma
  have b1 := pow_le_of (Nat.le_of_eq R1) (p := 108) (q := 24) hlo1 ra24
  have b2 := pow_le_of (Nat.le_of_eq R1.symm) (p := 0) (q := 110) (show 2 ^ 0 ≤ rdm a from hra) hhi1
  have hm : ∃ c, n = c * 2 ^ 58 := by
    obtain ⟨x, hx⟩ : ∃ x, T = x + 58 + 2 * e := ⟨T - 58 - 2 * e, by omega⟩
    refine ⟨rdm a * 2 ^ x, ?_⟩
    refine Nat.eq_of_mul_eq_mul_right (Nat.two_pow_pos (2 * e)) ?_
    rw [R1, hx, Nat.pow_add, Nat.pow_add, ← Nat.mul_assoc, ← Nat.mul_assoc]
  have hst := sticky_bounds (k := 54) hlo1 hhi1
  have hka : rdk a ≤ 253 := by have := (rd_val a).2; omega
  have he1 : 944 ≤ e := by omega
  have he2 : e ≤ 1083 := by omega
  have hNN := hN
  obtain ⟨⟨n1, -⟩, n3⟩ := hN
  rw [Nat.pow_zero, Nat.mul_one] at n1
  have moni := fun {x y : Nat} (h : x ≤ y) => vl_le 4503599627370496 (by decide) h
  -- it is not nought
  have hrs0 : 0 < rs := by
    rcases Nat.eq_zero_or_pos rs with z | z
    · exfalso
      subst z
      have u1 := hn2.1.1
      rw [show vl 8388608 0 + vl 8388608 (0 + 1) = 1 from rfl, Nat.one_mul] at u1
      obtain ⟨g, vg, -⟩ := rung_of64 1 d (by decide) (by omega) (by omega)
      rw [Nat.one_mul] at vg
      have hpd := Nat.two_pow_pos d
      have hlt : rd < g := by
        apply Nat.lt_of_not_le
        intro hle
        have := moni hle
        omega
      have := moni (show rd + 1 ≤ g by omega)
      have h5 : sticky n * 2 ^ e ≤ 1 * 2 ^ d := by omega
      have := pow_le_of h5 (p := 55) (q := 1) hst.1 (by decide)
      omega
    · exact z
  -- it has an end
  have hrsi : rs < 2139095040 := by
    apply Nat.lt_of_not_le
    intro hge
    have u1 := (near_great hn2).2 hge
    have hrd0 : 0 < rd := by
      rcases Nat.eq_zero_or_pos rd with z | z
      · exfalso
        rw [z, show vl 4503599627370496 0 = 0 from rfl] at u1
        have := Nat.mul_pos (Nat.mul_pos (show 0 < 33554431 by decide) (Nat.two_pow_pos 252)) (Nat.two_pow_pos d)
        omega
      · exact z
    obtain ⟨r', hr'⟩ : ∃ r', r' + 1 = rd := ⟨rd - 1, by omega⟩
    have h4 := (n3 r' hr').1
    rw [Nat.pow_zero, Nat.mul_one] at h4
    have h5 : 33554431 * 2 ^ (252 + d) ≤ 2 * sticky n * 2 ^ e := by
      rw [Nat.pow_add, ← Nat.mul_assoc, Nat.mul_assoc 2]; omega
    have := pow_le_of h5 (p := 24) (q := 57) (by decide) (by have := hst.2; omega)
    omega
  rw [Nat.min_eq_left (Nat.le_of_lt hrsi)] at ef
  have er : froot a = rs := by rw [ef]; rfl
  rw [er]
  refine ⟨hrsi, hrs0, ?_⟩
  have hmr : rs % 2147483648 = rs := Nat.mod_eq_of_lt (by omega)
  have hn2' : Near 8388608 d (vl 4503599627370496 rd) (rs % 2147483648) := by rw [hmr]; exact hn2
  have h0r : 0 < rs % 2147483648 := by omega
  obtain ⟨⟨l1, l2⟩, u1, u2⟩ := near_quart h0r hn2'
  obtain ⟨-, -, hm0, hl0, -⟩ := halves_val rs h0r
  obtain ⟨-, rv, rm, rn⟩ := rd_val rs
  have hkr : rdk rs ≤ 253 := by omega
  obtain ⟨κ, hκ⟩ : ∃ κ, κ = rdk rs := ⟨_, rfl⟩
  rw [← hκ] at l1 l2 u1 u2 hkr ⊢
  -- the upper middle
  obtain ⟨f, hf⟩ : ∃ f, f = κ + d - 1 := ⟨_, rfl⟩
  obtain ⟨β, hβ⟩ : ∃ β, β = 2 * rdm rs + 1 := ⟨_, rfl⟩
  have eU : (4 * rdm rs + 2) * 2 ^ (κ + d) = 4 * (β * 2 ^ f) := by
    rw [show κ + d = f + 1 by omega, Nat.pow_succ, show 4 * rdm rs + 2 = 2 * β by omega, Nat.mul_comm (2 ^ f) 2, Nat.mul_mul_mul_comm]
  rw [eU] at u1 u2
  obtain ⟨g, vg, -⟩ := rung_of64 β f (by omega) (by omega) (by omega)
  have hpf := Nat.two_pow_pos f
  have hβf : 2 ^ f ≤ β * 2 ^ f := Nat.le_mul_of_pos_left _ (by omega)
  have h52 : 2 ^ 52 ≤ 2 ^ f := Nat.pow_le_pow_right (by decide) (by omega)
  have hfe : e + 29 < f := by
    obtain ⟨s, s1, s2, -⟩ := step64 g (by rw [vg]; omega)
    have hle : rd ≤ g := by
      apply Nat.le_of_not_lt
      intro hlt
      have := vl_lt 4503599627370496 (by decide) hlt
      omega
    have h6 := moni (show rd + 1 ≤ g + 1 by omega)
    rw [s1] at h6
    have h5 : 2 * sticky n * 2 ^ e ≤ 3 * β * 2 ^ f := by
      rw [Nat.mul_assoc, Nat.mul_assoc]; omega
    have := pow_le_of h5 (p := 56) (q := 27) (by have := hst.1; omega) (by omega)
    omega
  have cu := core n e β f rd g hlo1 hhi1 hm hNN vg (by omega) (by omega) (by omega) (by omega)
  have sqU : (4 * rdm rs + 2) * (4 * rdm rs + 2) * 2 ^ (2 * (κ + d - 3)) = β * 2 ^ (f - 1) * (β * 2 ^ (f - 1)) := by
    rw [← sq_mul]
    have : (4 * rdm rs + 2) * 2 ^ (κ + d - 3) = β * 2 ^ (f - 1) := by
      rw [show f - 1 = κ + d - 3 + 1 by omega, Nat.pow_succ, show 4 * rdm rs + 2 = β * 2 by omega, Nat.mul_assoc, Nat.mul_comm 2]
    rw [this]
  refine btw_of (E1 := T) (E2 := 2 * (κ + d - 3)) (by omega) ?_ ?_
  · -- below
    have fin : ∀ β' f' : Nat, hlo rs * 2 ^ (κ + d) = 4 * (β' * 2 ^ f') → hlo rs * 2 ^ (κ + d - 3) = β' * 2 ^ (f' - 1) → β' < 2 ^ 25 → 0 < β' → f ≤ f' + 1 → f' ≤ f →
        (hlo rs * hlo rs * 2 ^ (2 * (κ + d - 3)) < rdm a * 2 ^ T ∨ hlo rs * hlo rs * 2 ^ (2 * (κ + d - 3)) = rdm a * 2 ^ T ∧ (rdm rs % 2 == 0) = true) := by
      intro β' f' w1 w2 w3 w4 w5 w6
      obtain ⟨g', vg', -⟩ := rung_of64 β' f' (by omega) (by omega) (by omega)
      have cl := core n e β' f' rd g' hlo1 hhi1 hm hNN vg' w3 w4 (by omega) (by omega)
      rw [← sq_mul, w2, ← R1]
      rw [w1] at l1 l2
      rcases Nat.lt_or_eq_of_le (show β' * 2 ^ f' ≤ vl 4503599627370496 rd by omega) with h | h
      · exact Or.inl (cl.2.1 h)
      · exact Or.inr ⟨(cl.2.2 h.symm).symm, l2 (by rw [h])⟩
    by_cases hodd : rdm rs = 8388608 ∧ 0 < rdk rs
    · have hlq : hlo rs = 33554431 := by unfold hlo; rw [if_pos hodd, hodd.1]
      refine fin 33554431 (κ + d - 2) ?_ ?_ (by decide) (by decide) (by omega) (by omega)
      · rw [hlq, show κ + d = κ + d - 2 + 2 by omega, Nat.pow_add, show κ + d - 2 + 2 - 2 = κ + d - 2 by omega, ← Nat.mul_assoc]; omega
      · rw [hlq, show κ + d - 2 - 1 = κ + d - 3 by omega]
    · have hlq : hlo rs = 2 * (2 * rdm rs - 1) := by unfold hlo; rw [if_neg hodd]; omega
      obtain ⟨b', hb'⟩ : ∃ b', b' = 2 * rdm rs - 1 := ⟨_, rfl⟩
      rw [← hb'] at hlq
      refine fin b' f ?_ ?_ (by omega) (by omega) (by omega) (Nat.le_refl _)
      · rw [hlq, show κ + d = f + 1 by omega, Nat.pow_succ, Nat.mul_comm (2 ^ f) 2, Nat.mul_mul_mul_comm]
      · rw [hlq, show f - 1 = κ + d - 3 + 1 by omega, Nat.pow_succ, Nat.mul_comm 2 b', Nat.mul_assoc, Nat.mul_comm 2]
  · -- above
    rw [sqU, ← R1]
    rcases Nat.lt_or_eq_of_le (show vl 4503599627370496 rd ≤ β * 2 ^ f by omega) with h | h
    · exact Or.inl (cu.1 h)
    · exact Or.inr ⟨cu.2.2 h, u2 (by rw [h])⟩
end Go.Proofs.Ytkkflgiepfenpaa
