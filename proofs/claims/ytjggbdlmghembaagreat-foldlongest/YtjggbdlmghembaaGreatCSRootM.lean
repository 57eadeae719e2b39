import Derived.Test.YtjggbdlmghembaaGreatCSFin
namespace Go.Proofs.YtjggbdlmghembaaGreat
open Go.RowKit
set_option maxRecDepth 100000

theorem rootFrom_gt (n : Nat) : ∀ todo root : Nat, n < (root + 2 ^ todo) * (root + 2 ^ todo) → n < (Ieee.Datum.rootFrom n todo root + 1) * (Ieee.Datum.rootFrom n todo root + 1) := by
  intro todo
  induction todo with
  | zero => intro root h; exact h
  | succ k ih =>
    intro root h
    unfold Ieee.Datum.rootFrom
    dsimp only
    apply ih
    rw [Nat.shiftLeft_eq, Nat.one_mul]
    split
    · have e : root + 2 ^ k + 2 ^ k = root + 2 ^ (k + 1) := by rw [Nat.pow_succ]; omega
      rw [e]; exact h
    · omega
/-- the whole root -/
def isq (n : Nat) : Nat := Ieee.Datum.rootFrom n (n.log2 / 2 + 1) 0
theorem isq_le (n : Nat) : isq n * isq n ≤ n := rootFrom_le _ _ _ (by simp)
theorem isq_gt (n : Nat) : n < (isq n + 1) * (isq n + 1) := by
  refine rootFrom_gt _ _ _ ?_
  rw [Nat.zero_add, ← Nat.pow_add]
  exact Nat.lt_of_lt_of_le Nat.lt_log2_self (Nat.pow_le_pow_right (by decide) (by omega))
theorem sq_lt {a b : Nat} (h : a * a < b * b) : a < b := by
  apply Nat.lt_of_not_le
  intro hle
  have := Nat.mul_le_mul hle hle
  omega
theorem isq_mono {n m : Nat} (h : n ≤ m) : isq n ≤ isq m := by
  have h1 := isq_le n
  have h2 := isq_gt m
  have := sq_lt (a := isq n) (b := isq m + 1) (by omega)
  omega
/-- the whole root twice, and one more where something is left -/
def sticky (n : Nat) : Nat := 2 * isq n + (isq n * isq n != n).toNat
theorem sticky_mono {n m : Nat} (h : n ≤ m) : sticky n ≤ sticky m := by
  have h1 := isq_mono h
  unfold sticky
  have b1 : (isq n * isq n != n).toNat ≤ 1 := by cases (isq n * isq n != n) <;> decide
  by_cases e : isq n = isq m
  · by_cases e2 : isq m * isq m = m
    · have : isq n * isq n = n := by
        have := isq_le n
        rw [e] at this ⊢
        omega
      have e3 : (isq n * isq n != n) = false := by simp [this]
      rw [e3, e]
      simp
    · have e3 : (isq m * isq m != m) = true := by simp [e2]
      rw [e3, e]
      have b1' : (isq m * isq m != n).toNat ≤ 1 := by cases (isq m * isq m != n) <;> decide
      show 2 * isq m + _ ≤ 2 * isq m + 1
      omega
  · omega
theorem sticky_bounds {n k : Nat} (h1 : 2 ^ (2 * k) ≤ n) (h2 : n < 2 ^ (2 * k + 2)) : 2 ^ (k + 1) ≤ sticky n ∧ sticky n < 2 ^ (k + 2) := by
  have a1 := isq_gt n
  have a2 := isq_le n
  have e1 : 2 ^ k < isq n + 1 := sq_lt (by rw [← Nat.pow_add, ← Nat.two_mul]; omega)
  have e2 : isq n < 2 ^ (k + 1) := sq_lt (by rw [← Nat.pow_add, show k + 1 + (k + 1) = 2 * k + 2 by omega]; omega)
  unfold sticky
  have b1 : (isq n * isq n != n).toNat ≤ 1 := by cases (isq n * isq n != n) <;> decide
  rw [Nat.pow_succ 2 k, Nat.pow_succ 2 (k + 1)]
  omega
/-- the root's number: what is rooted has 108 or 109 binary digits and an even place -/
theorem root_form (M : Nat) (P : Int) (hM : M ≠ 0) (hl : M.log2 ≤ 108) :
    ∃ more : Nat, ∃ E : Int, (Ieee.Datum.number false M P).root 54 = some (.number false (sticky (M * 2 ^ more)) (E - 1)) ∧ P - more = 2 * E ∧ 2 ^ 108 ≤ M * 2 ^ more ∧ M * 2 ^ more < 2 ^ 110 := by
  have hlt : M < 2 ^ (M.log2 + 1) := Nat.lt_log2_self
  have hge : 2 ^ M.log2 ≤ M := Nat.log2_self_le hM
  refine ⟨2 * 54 - M.log2 + ((P - (2 * 54 - M.log2 : Nat)) % 2).toNat, (P - (2 * 54 - M.log2 + ((P - (2 * 54 - M.log2 : Nat)) % 2).toNat : Nat)) / 2, ?_, ?_, ?_, ?_⟩
  · simp only [Ieee.Datum.root, if_neg hM, Bool.false_eq_true, if_false]
    rw [Nat.shiftLeft_eq]
    rfl
  · generalize M.log2 = L at *
    omega
  · generalize hm : 2 * 54 - M.log2 + ((P - (2 * 54 - M.log2 : Nat)) % 2).toNat = more
    have : 2 ^ (M.log2 + more) ≤ M * 2 ^ more := by rw [Nat.pow_add]; exact Nat.mul_le_mul_right _ hge
    refine Nat.le_trans (Nat.pow_le_pow_right (by decide) ?_) this
    omega
  · generalize hm : 2 * 54 - M.log2 + ((P - (2 * 54 - M.log2 : Nat)) % 2).toNat = more
    have : M * 2 ^ more < 2 ^ (M.log2 + 1 + more) := by rw [Nat.pow_add]; exact Nat.mul_lt_mul_of_pos_right hlt (Nat.two_pow_pos _)
    refine Nat.lt_of_lt_of_le this (Nat.pow_le_pow_right (by decide) ?_)
    omega
theorem log_sum {M K v p q x : Nat} (hM : M ≠ 0) (h : M * 2 ^ K = v * 2 ^ x) (hv : v < 2 ^ p * 2 ^ q) : M.log2 + K < p + q + x := by
  have h2 : 2 ^ M.log2 ≤ M := Nat.log2_self_le hM
  have h4 : 2 ^ (M.log2 + K) ≤ M * 2 ^ K := by rw [Nat.pow_add]; exact Nat.mul_le_mul_right _ h2
  have h5 : v * 2 ^ x < 2 ^ (p + q + x) := by rw [Nat.pow_add 2 (p + q) x, Nat.pow_add]; exact Nat.mul_lt_mul_of_pos_right hv (Nat.two_pow_pos _)
  rw [h] at h4
  exact (Nat.pow_lt_pow_iff_right (a := 2) (by decide)).1 (Nat.lt_of_le_of_lt h4 h5)
theorem read_fin64 (a : Nat) (h : a % 9223372036854775808 < 9218868437227405312) : ∃ m : Nat, ∃ k : Nat, Ieee.double.read a = .number (a / 9223372036854775808 % 2 == 1) m (-1074 + (k : Int)) ∧ m * 2 ^ k = vl 4503599627370496 (a % 9223372036854775808) ∧ m < 9007199254740992 ∧ k ≤ 2045 := by
  rw [read_double]
  unfold vl
  split
  · exact ⟨a % 9223372036854775808, 0, by simp, by simp, by omega, by omega⟩
  · exact ⟨_, _, rfl, rfl, by omega, by omega⟩
theorem word_facts64 (neg : Bool) (r : Nat) (h : r < 9223372036854775808) : Ieee.double.word neg r % 9223372036854775808 = r ∧ (Ieee.double.word neg r / 9223372036854775808 % 2 == 1) = neg := by
  refine ⟨word_mod64 neg r h, ?_⟩
  have e1 : Ieee.double.signWeight = 9223372036854775808 := rfl
  unfold Ieee.Format.word
  rw [e1]
  cases neg
  · simp only [Bool.false_eq_true, if_false]; rw [show r / 9223372036854775808 % 2 = 0 by omega]; rfl
  · simp only [if_true]; rw [show (9223372036854775808 + r) / 9223372036854775808 % 2 = 1 by omega]; rfl
theorem nearest_word64 (neg : Bool) (mag : Nat) (place : Int) : Ieee.double.write (.number neg mag place) = Ieee.double.word neg (min (rg Ieee.double mag place) 9218868437227405312) := nearest_rg _ _ _ _
/-- what has few digits is exact in binary64 -/
theorem rung_of64 (m k : Nat) (hm : m ≤ 9007199254740992) (hk : 52 ≤ k) (hk2 : k ≤ 2000) : ∃ r, vl 4503599627370496 r = m * 2 ^ k ∧ r < 9218868437227405312 := by
  by_cases h0 : m = 0
  · exact ⟨0, by subst h0; simp [vl], by decide⟩
  have hlt : m < 2 ^ (m.log2 + 1) := Nat.lt_log2_self
  have hge : 2 ^ m.log2 ≤ m := Nat.log2_self_le h0
  have hL := log_lt (n := m) (k := 54) (by decide) (by omega)
  generalize m.log2 = L at *
  by_cases h1 : L ≤ 52
  · obtain ⟨j, hj⟩ : ∃ j, j = 52 - L := ⟨_, rfl⟩
    have e1 : (4503599627370496 : Nat) ≤ m * 2 ^ j := by
      have : 2 ^ (L + j) ≤ m * 2 ^ j := by rw [Nat.pow_add]; exact Nat.mul_le_mul_right _ hge
      rw [show L + j = 52 by omega] at this; exact this
    have e2 : m * 2 ^ j < 2 * 4503599627370496 := by
      have : m * 2 ^ j < 2 ^ (L + 1 + j) := by rw [Nat.pow_add]; exact Nat.mul_lt_mul_of_pos_right hlt (Nat.two_pow_pos _)
      rw [show L + 1 + j = 53 by omega] at this; exact this
    refine ⟨(k - j) * 4503599627370496 + m * 2 ^ j, ?_, by omega⟩
    rw [vl_at 4503599627370496 (by decide) (k - j) (m * 2 ^ j) (Or.inr e1) (by omega), Nat.mul_assoc, ← Nat.pow_add]
    congr 2; omega
  · have hL53 : L = 53 := by omega
    subst hL53
    have : m = 9007199254740992 := by omega
    subst this
    refine ⟨k * 4503599627370496 + 2 * 4503599627370496, ?_, by omega⟩
    rw [vl_at 4503599627370496 (by decide) k (2 * 4503599627370496) (Or.inr (by omega)) (by omega)]
/-- a finite word made wide: the same number -/
theorem wide_fin (a : Nat) (ha : a % 2147483648 < 2139095040) : ∃ r, wide a = Ieee.double.word (sn a) r ∧ vl 4503599627370496 r = val (a % 2147483648) * 2 ^ 925 ∧ r < 9218868437227405312 := by
  obtain ⟨m, k, e1, v1, hm, hk, -⟩ := read_fin a ha
  obtain ⟨r0, v0, l0⟩ := rung_of64 m (k + 925) (by omega) (by omega) (by omega)
  have hw : wide a = Ieee.double.write (.number (sn a) m (-149 + (k : Int))) := by unfold wide; rw [e1]; rfl
  rw [nearest_word64] at hw
  have hnr := rg_near Ieee.double (by decide) m (-149 + (k : Int)) 0 (by show (-1074 : Int) ≤ _; omega)
  have e5 : (-149 + (k : Int) - Ieee.double.leastPlace + (0 : Nat)).toNat = k + 925 := by
    rw [show Ieee.double.leastPlace = -1074 from rfl]; omega
  rw [e5, ← v0] at hnr
  have hs := near_self 4503599627370496 0 r0 (by decide)
  rw [Nat.pow_zero, Nat.mul_one] at hs
  have := hnr.unique (by decide) hs
  rw [this, Nat.min_eq_left (Nat.le_of_lt l0)] at hw
  exact ⟨r0, hw, by rw [v0, Nat.pow_add, ← Nat.mul_assoc, v1], l0⟩
/-- a finite binary64 made narrow -/
theorem narrow_fin (b : Nat) (hb : b % 9223372036854775808 < 9218868437227405312) : ∃ r, narrow b = Ieee.single.word (b / 9223372036854775808 % 2 == 1) (min r 2139095040) ∧ Near 8388608 925 (vl 4503599627370496 (b % 9223372036854775808)) r := by
  obtain ⟨m, k, e1, v1, -, -⟩ := read_fin64 b hb
  have hw : narrow b = Ieee.single.write (.number (b / 9223372036854775808 % 2 == 1) m (-1074 + (k : Int))) := by unfold narrow; rw [e1]
  rw [nearest_word] at hw
  have hnr := rg_near Ieee.single (by decide) m (-1074 + (k : Int)) 925 (by show (-149 : Int) ≤ _; omega)
  have e5 : (-1074 + (k : Int) - Ieee.single.leastPlace + (925 : Nat)).toNat = k := by
    rw [show Ieee.single.leastPlace = -149 from rfl]; omega
  rw [e5, v1] at hnr
  exact ⟨_, hw, hnr⟩
theorem word_sn (a : Nat) (h : a < 4294967296) : Ieee.single.word (sn a) (a % 2147483648) = a := by
  have e1 : Ieee.single.signWeight = 2147483648 := rfl
  unfold Ieee.Format.word sn
  rw [e1]
  by_cases h' : a < 2147483648
  · rw [show a / 2147483648 % 2 = 0 by omega]; simp; omega
  · rw [show a / 2147483648 % 2 = 1 by omega]; simp; omega
theorem narrow_wide (a : Nat) (h : a < 4294967296) (oa : ok a = true) : narrow (wide a) = a ∧ (Ieee.double.read (wide a)).isNaN = false ∧ nfine (wide a) = true := by
  have hm := ok_mod oa
  by_cases hf : a % 2147483648 < 2139095040
  · obtain ⟨r, e, v, l⟩ := wide_fin a hf
    obtain ⟨f1, f2⟩ := word_facts64 (sn a) r (by omega)
    obtain ⟨r', e', hr'⟩ := narrow_fin (wide a) (by rw [e, f1]; exact l)
    rw [e, f1, f2, v] at *
    have := hr'.unique (by decide) (near_self 8388608 925 (a % 2147483648) (by decide))
    subst this
    rw [Nat.min_eq_left hm, word_sn a h] at e'
    refine ⟨e', word_ok64 _ _ (by omega), ?_⟩
    unfold nfine
    rw [e']
    have hi := inf_single a hf
    split <;> simp [hi]
  · have : a = 2139095040 ∨ a = 4286578688 := by omega
    rcases this with rfl | rfl <;> decide +kernel
/-- the root of a finite number above 0 -/
theorem froot_pos (a : Nat) (h0 : 0 < a) (h1 : a < 2139095040) : ∃ more : Nat, ∃ E : Int, ∃ M : Nat, ∃ K : Nat, ∃ rd rs : Nat,
    M * 2 ^ K = val a * 2 ^ 925 ∧ (-1074 + (K : Int)) - more = 2 * E ∧ 2 ^ 108 ≤ M * 2 ^ more ∧ M * 2 ^ more < 2 ^ 110 ∧
    Near 4503599627370496 0 (sticky (M * 2 ^ more) * 2 ^ (E + 1073).toNat) rd ∧ rd < 9218868437227405312 ∧ 0 ≤ E + 1073 ∧
    Near 8388608 925 (vl 4503599627370496 rd) rs ∧ froot a = Ieee.single.word false (min rs 2139095040) := by
  have hmod : a % 2147483648 = a := Nat.mod_eq_of_lt (by omega)
  have oa : ok a = true := mod_ok (by omega)
  obtain ⟨r, e, v, l⟩ := wide_fin a (by omega)
  have hs : sn a = false := by unfold sn; rw [show a / 2147483648 % 2 = 0 by omega]; rfl
  rw [hs] at e
  rw [hmod] at v
  obtain ⟨f1, f2⟩ := word_facts64 false r (by omega)
  obtain ⟨M, K, eR, vR, hM, hK⟩ := read_fin64 (wide a) (by rw [e, f1]; exact l)
  have f1' : wide a % 9223372036854775808 = r := by rw [e]; exact f1
  have f2' : (wide a / 9223372036854775808 % 2 == 1) = false := by rw [e]; exact f2
  rw [f1', v] at vR
  rw [f2'] at eR
  have hv0 : 0 < val a := by have := val_lt h0; rwa [show val 0 = 0 from rfl] at this
  have hM0 : M ≠ 0 := by
    intro hz
    rw [hz, Nat.zero_mul] at vR
    have := Nat.mul_pos hv0 (Nat.two_pow_pos 925)
    omega
  obtain ⟨more, E, hroot, hE, hlo, hhi⟩ := root_form M (-1074 + (K : Int)) hM0 (by have := log_lt (n := M) (k := 53) (by decide) (by omega); omega)
  have hsq : Ieee.double.sqrt (wide a) = some (Ieee.double.write (.number false (sticky (M * 2 ^ more)) (E - 1))) := by
    unfold Ieee.Format.sqrt
    rw [eR, show Ieee.double.fractionBits + 2 = 54 from rfl, hroot]; rfl
  -- where the place lies
  have hval : (2 : Nat) ^ 925 ≤ M * 2 ^ K := by
    rw [vR]; exact Nat.le_mul_of_pos_left _ hv0
  have hK1 : 872 ≤ K := by
    apply Nat.le_of_not_lt
    intro hlt
    have : M * 2 ^ K < 2 ^ 53 * 2 ^ K := Nat.mul_lt_mul_of_pos_right hM (Nat.two_pow_pos _)
    rw [← Nat.pow_add] at this
    have := Nat.pow_lt_pow_iff_right (a := 2) (n := 925) (m := 53 + K) (by decide)
    omega
  have hmore : more ≤ 109 := by
    apply Nat.le_of_not_lt
    intro hlt
    have h2 : 2 ^ 110 ≤ 2 ^ more := Nat.pow_le_pow_right (by decide) (by omega)
    have h3 : 2 ^ more ≤ M * 2 ^ more := Nat.le_mul_of_pos_left _ (by omega)
    omega
  have hE0 : 0 ≤ E + 1073 := by omega
  have hnd := rg_near Ieee.double (by decide) (sticky (M * 2 ^ more)) (E - 1) 0 (by show (-1074 : Int) ≤ _; omega)
  have e5 : (E - 1 - Ieee.double.leastPlace + (0 : Nat)).toNat = (E + 1073).toNat := by
    rw [show Ieee.double.leastPlace = -1074 from rfl]; omega
  rw [e5] at hnd
  have hfro : froot a = narrow (Ieee.double.write (.number false (sticky (M * 2 ^ more)) (E - 1))) := by
    unfold froot; rw [if_pos oa, hsq]
  rw [nearest_word64] at hfro
  have hst := (sticky_bounds (k := 54) hlo hhi).2
  have hstl := log_lt (by decide) hst
  -- it is not without end
  have h3 : val a < 2 ^ 23 * 2 ^ 254 := Nat.lt_of_lt_of_eq (val_lt (show a < 2139095040 by omega)) (vl_at 8388608 (by decide) 254 8388608 (Or.inr (Nat.le_refl _)) (by decide))
  have hKhi := log_sum hM0 vR h3
  clear h3
  have hml : 108 ≤ M.log2 + 1 + more := by
    have hlt : M < 2 ^ (M.log2 + 1) := Nat.lt_log2_self
    have h6 : M * 2 ^ more < 2 ^ (M.log2 + 1 + more) := by rw [Nat.pow_add]; exact Nat.mul_lt_mul_of_pos_right hlt (Nat.two_pow_pos _)
    have := Nat.pow_lt_pow_iff_right (a := 2) (n := 108) (m := M.log2 + 1 + more) (by decide)
    omega
  have hsmall := (double_small false (sticky (M * 2 ^ more)) (E - 1) 1200 (by omega) (by omega)).1
  rw [nearest_word64, word_mod64 _ _ (by omega)] at hsmall
  have hrd : rg Ieee.double (sticky (M * 2 ^ more)) (E - 1) < 9218868437227405312 := by omega
  rw [Nat.min_eq_left (Nat.le_of_lt hrd)] at hfro
  obtain ⟨g1, g2⟩ := word_facts64 false (rg Ieee.double (sticky (M * 2 ^ more)) (E - 1)) (by omega)
  obtain ⟨rs, e', hr'⟩ := narrow_fin (Ieee.double.word false (rg Ieee.double (sticky (M * 2 ^ more)) (E - 1))) (by rw [g1]; exact hrd)
  rw [g1] at hr'
  rw [g2] at e'
  exact ⟨more, E, M, K, _, rs, vR, hE, hlo, hhi, hnd, hrd, hE0, hr', by rw [hfro, e']⟩
/-- roots keep the order -/
theorem froot_mono (a b : Nat) (h0 : 0 < a) (hab : a ≤ b) (hb : b < 2139095040) : ∃ r s, froot a = Ieee.single.word false (min r 2139095040) ∧ froot b = Ieee.single.word false (min s 2139095040) ∧ r ≤ s := by
  obtain ⟨mo, E, M, K, rd, rs, v, hE, hlo, hhi, hn, -, hE0, hn2, e⟩ := froot_pos a h0 (by omega)
  obtain ⟨mo', E', M', K', rd', rs', v', hE', hlo', hhi', hn', -, hE0', hn2', e'⟩ := froot_pos b (by omega) hb
  refine ⟨rs, rs', e, e', ?_⟩
  have hv : val a ≤ val b := by
    rcases Nat.lt_or_eq_of_le hab with h | h
    · exact Nat.le_of_lt (val_lt h)
    · rw [h]; exact Nat.le_refl _
  have hMK : M * 2 ^ K ≤ M' * 2 ^ K' := by rw [v, v']; exact Nat.mul_le_mul_right _ hv
  have hst := sticky_bounds (k := 54) hlo hhi
  have hst' := sticky_bounds (k := 54) hlo' hhi'
  have hkey : sticky (M * 2 ^ mo) * 2 ^ (E + 1073).toNat ≤ sticky (M' * 2 ^ mo') * 2 ^ (E' + 1073).toNat := by
    -- the values, at a common place
    obtain ⟨Z, hZ⟩ : ∃ Z : Nat, Z = 2000 := ⟨_, rfl⟩
    have hK1 : (K : Int) = 1074 + mo + 2 * E := by omega
    have hK2 : (K' : Int) = 1074 + mo' + 2 * E' := by omega
    rcases Int.lt_trichotomy E E' with hlt | heq | hgt
    · refine Nat.le_trans (Nat.le_of_lt (Nat.mul_lt_mul_of_pos_right hst.2 (Nat.two_pow_pos _))) (Nat.le_trans ?_ (Nat.mul_le_mul_right _ hst'.1))
      rw [← Nat.pow_add, ← Nat.pow_add]
      exact Nat.pow_le_pow_right (by decide) (by omega)
    · subst heq
      refine Nat.mul_le_mul_right _ (sticky_mono ?_)
      obtain ⟨c, hc⟩ : ∃ c : Nat, (c : Int) = 1074 + 2 * E + Z := ⟨(1074 + 2 * E + Z).toNat, by omega⟩
      have e1 : M * 2 ^ mo * 2 ^ c = M * 2 ^ K * 2 ^ Z := by rw [Nat.mul_assoc, Nat.mul_assoc, ← Nat.pow_add, ← Nat.pow_add]; congr 2; omega
      have e2 : M' * 2 ^ mo' * 2 ^ c = M' * 2 ^ K' * 2 ^ Z := by rw [Nat.mul_assoc, Nat.mul_assoc, ← Nat.pow_add, ← Nat.pow_add]; congr 2; omega
      refine Nat.le_of_mul_le_mul_right (c := 2 ^ c) ?_ (Nat.two_pow_pos _)
      rw [e1, e2]
      exact Nat.mul_le_mul_right _ hMK
    · exfalso
      obtain ⟨c, hc⟩ : ∃ c : Nat, (c : Int) = 1074 + 2 * E + Z := ⟨(1074 + 2 * E + Z).toNat, by omega⟩
      obtain ⟨c', hc'⟩ : ∃ c' : Nat, (c' : Int) = 1074 + 2 * E' + Z := ⟨(1074 + 2 * E' + Z).toNat, by omega⟩
      have e1 : M * 2 ^ mo * 2 ^ c = M * 2 ^ K * 2 ^ Z := by rw [Nat.mul_assoc, Nat.mul_assoc, ← Nat.pow_add, ← Nat.pow_add]; congr 2; omega
      have e2 : M' * 2 ^ mo' * 2 ^ c' = M' * 2 ^ K' * 2 ^ Z := by rw [Nat.mul_assoc, Nat.mul_assoc, ← Nat.pow_add, ← Nat.pow_add]; congr 2; omega
      have a1 : 2 ^ 108 * 2 ^ c ≤ M * 2 ^ mo * 2 ^ c := Nat.mul_le_mul_right _ hlo
      have a2 : M' * 2 ^ mo' * 2 ^ c' < 2 ^ 110 * 2 ^ c' := Nat.mul_lt_mul_of_pos_right hhi' (Nat.two_pow_pos _)
      have a3 : M * 2 ^ K * 2 ^ Z ≤ M' * 2 ^ K' * 2 ^ Z := Nat.mul_le_mul_right _ hMK
      rw [← Nat.pow_add] at a1 a2
      have a4 : 2 ^ (110 + c') ≤ 2 ^ (108 + c) := Nat.pow_le_pow_right (by decide) (by omega)
      omega
  have h1 := hn.mono (by decide) hn' hkey
  exact hn2.mono (by decide) hn2' (vl_le _ (by decide) h1)
end Go.Proofs.YtjggbdlmghembaaGreat
namespace Go.Proofs.YtjggbdlmghembaaGreat
open Go.RowKit
set_option maxRecDepth 100000

/-- x is not above y, or one is no number -/
def na (x y : Nat) : Prop := ok x = true → ok y = true → key x ≤ key y
theorem inf_read {z : Nat} (h : z % 2147483648 = 2139095040) : Ieee.single.read z = .infinity (sn z) := by
  rw [read_single, if_neg (by omega), if_neg (by omega), if_pos h]; rfl
theorem inf_write {z : Nat} (hz : z < 4294967296) (h : z % 2147483648 = 2139095040) : Ieee.single.write (.infinity (sn z)) = z := by
  have := word_sn z hz
  rw [h] at this; exact this
theorem fin_or {z : Nat} (h : ok z = true) : z % 2147483648 < 2139095040 ∨ z % 2147483648 = 2139095040 := by have := ok_mod h; omega
theorem nan_ok : ok 2143289344 = false := by decide
theorem sum_comm' (d e : Ieee.Datum) : d.sum e = e.sum d := by
  cases d <;> cases e <;> simp only [Ieee.Datum.sum]
  · rename_i s m i t n j
    rw [Int.min_comm i j, Int.add_comm (Ieee.signed s _ _), Bool.and_comm]
  · rename_i s t
    by_cases h : s = t
    · subst h; rfl
    · rw [if_neg h, if_neg (Ne.symm h)]
theorem fsum_inf_l {x c : Nat} (hx : x < 4294967296) (hi : x % 2147483648 = 2139095040) (oc : ok c = true) (ho : ok (fsum x c) = true) : fsum x c = x := by
  have h0 : Ieee.single.add x c = ((Ieee.single.read x).sum (Ieee.single.read c)).map Ieee.single.write := rfl
  rw [inf_read hi] at h0
  unfold fsum at ho ⊢
  rw [h0] at ho ⊢
  rcases fin_or oc with hf | hf
  · obtain ⟨m, k, e, -⟩ := read_fin c hf
    rw [e]
    exact inf_write hx hi
  · rw [inf_read hf] at ho ⊢
    by_cases e : sn x = sn c
    · simp only [Ieee.Datum.sum, if_pos e]; exact inf_write hx hi
    · simp only [Ieee.Datum.sum, if_neg e] at ho
      exact absurd (show ok 2143289344 = true from ho) (by decide)
theorem fsum_inf_r {x c : Nat} (hc : c < 4294967296) (hi : c % 2147483648 = 2139095040) (ox : ok x = true) (ho : ok (fsum x c) = true) : fsum x c = c := by
  have e : fsum x c = fsum c x := by unfold fsum Ieee.Format.add; rw [sum_comm']
  rw [e] at ho ⊢
  exact fsum_inf_l hc hi ox ho
theorem sum_args {x c : Nat} (ho : ok (fsum x c) = true) : ok x = true ∧ ok c = true := by
  cases h1 : ok x
  · rw [fsum_nan (Or.inl h1)] at ho; exact absurd ho (by decide)
  · cases h2 : ok c
    · rw [fsum_nan (Or.inr h2)] at ho; exact absurd ho (by decide)
    · exact ⟨rfl, rfl⟩
theorem mul_args {x c : Nat} (ho : ok (fmul x c) = true) : ok x = true ∧ ok c = true := by
  cases h1 : ok x
  · rw [fmul_nan (Or.inl h1)] at ho; exact absurd ho (by decide)
  · cases h2 : ok c
    · rw [fmul_nan (Or.inr h2)] at ho; exact absurd ho (by decide)
    · exact ⟨rfl, rfl⟩
theorem near_zero {d r : Nat} (h : Near 8388608 d 0 r) : r = 0 := by
  have := near_self 8388608 d 0 (by decide)
  rw [show vl 8388608 0 = 0 from rfl, Nat.zero_mul] at this
  exact h.unique (by decide) this
theorem signed_mono {d C r r' : Nat} {S S' : Int} {neg neg' : Bool} (h : S ≤ S') (hr : Near 8388608 d (S.natAbs * C) r) (hr' : Near 8388608 d (S'.natAbs * C) r') (hn : S ≠ 0 → neg = decide (S < 0)) (hn' : S' ≠ 0 → neg' = decide (S' < 0)) :
    key (Ieee.single.word neg (min r 2139095040)) ≤ key (Ieee.single.word neg' (min r' 2139095040)) := by
  rw [key_word _ _ (by omega), key_word _ _ (by omega)]
  have z1 : S = 0 → r = 0 := fun e => near_zero (d := d) (by rw [e, Int.natAbs_zero, Nat.zero_mul] at hr; exact hr)
  have z2 : S' = 0 → r' = 0 := fun e => near_zero (d := d) (by rw [e, Int.natAbs_zero, Nat.zero_mul] at hr'; exact hr')
  by_cases e1 : S = 0
  · rw [z1 e1]
    by_cases e2 : S' = 0
    · rw [z2 e2]; split <;> split <;> simp
    · rw [hn' e2, decide_eq_false (by omega)]; simp only [Bool.false_eq_true, if_false]; split <;> simp <;> omega
  · by_cases e2 : S' = 0
    · rw [z2 e2, hn e1, decide_eq_true (by omega)]; simp only [if_true]; split <;> simp <;> omega
    · rw [hn e1, hn' e2]
      by_cases n1 : S < 0 <;> by_cases n2 : S' < 0
      · have := hr'.mono (by decide) hr (Nat.mul_le_mul_right _ (by omega))
        rw [decide_eq_true n1, decide_eq_true n2]; simp only [if_true]; omega
      · rw [decide_eq_true n1, decide_eq_false n2]; simp only [if_true, Bool.false_eq_true, if_false]; omega
      · omega
      · have := hr.mono (by decide) hr' (Nat.mul_le_mul_right _ (by omega))
        rw [decide_eq_false n1, decide_eq_false n2]; simp only [Bool.false_eq_true, if_false]; omega
theorem key_inf {z : Nat} (hz : z < 4294967296) (h : z % 2147483648 = 2139095040) : key z = 2139095040 ∨ key z = -2139095040 := by
  by_cases h' : z < 2147483648
  · rw [key_pos h']; omega
  · rw [key_neg (by omega)]; omega
theorem key_fin {z : Nat} (h : z % 2147483648 < 2139095040) : -2139095040 < key z ∧ key z < 2139095040 := by
  by_cases h' : z < 2147483648
  · rw [key_pos h']; omega
  · rw [key_neg (by omega)]; omega
theorem sum_keeps {x y c : Nat} (hx : x < 4294967296) (hy : y < 4294967296) (hc : c < 4294967296) (h : na x y) : na (fsum x c) (fsum y c) := by
  intro o1 o2
  obtain ⟨ox, oc⟩ := sum_args o1
  obtain ⟨oy, -⟩ := sum_args o2
  have hk := h ox oy
  rcases fin_or oc with fc | fc
  · rcases fin_or ox with fx | fx <;> rcases fin_or oy with fy | fy
    · obtain ⟨n1, r1, e1, q1, p1, -⟩ := fsum_fin x c fx fc
      obtain ⟨n2, r2, e2, q2, p2, -⟩ := fsum_fin y c fy fc
      rw [e1, e2]
      have hs : sval x ≤ sval y := by
        have hsk := sval_key y x hy hx
        apply Int.le_of_not_gt
        intro hlt
        have := hsk.1.1 hlt
        omega
      exact signed_mono (C := 1) (by omega) (by rw [Nat.mul_one]; exact q1) (by rw [Nat.mul_one]; exact q2) p1 p2
    · rw [fsum_inf_l hy fy oc o2]
      have b := key_bound (fsum_lt x c) o1
      have k1 := key_fin fx
      rcases key_inf hy fy with e | e <;> omega
    · rw [fsum_inf_l hx fx oc o1]
      have b := key_bound (fsum_lt y c) o2
      have k1 := key_fin fy
      rcases key_inf hx fx with e | e <;> omega
    · rw [fsum_inf_l hx fx oc o1, fsum_inf_l hy fy oc o2]; exact hk
  · rw [fsum_inf_r hc fc ox o1, fsum_inf_r hc fc oy o2]; exact Int.le_refl _
theorem sval_zero {z : Nat} (h : z % 2147483648 = 0) : sval z = 0 := by unfold sval; rw [h]; split <;> rfl
theorem sval_abs (z : Nat) : (sval z).natAbs = val (z % 2147483648) := by unfold sval; split <;> simp
theorem sval_sign {z : Nat} (hz : z < 4294967296) (h : sval z ≠ 0) : sn z = decide (sval z < 0) := by
  have hv : 0 < val (z % 2147483648) := by
    rcases Nat.eq_zero_or_pos (val (z % 2147483648)) with e | e
    · exfalso; apply h; unfold sval; rw [e]; split <;> rfl
    · exact e
  by_cases h' : z < 2147483648
  · rw [sval_pos h', decide_eq_false (by omega)]; unfold sn; rw [show z / 2147483648 % 2 = 0 by omega]; rfl
  · rw [sval_neg (by omega) hz, decide_eq_true (by omega)]; unfold sn; rw [show z / 2147483648 % 2 = 1 by omega]; rfl
theorem mul_keeps {x y c : Nat} (hx : x < 4294967296) (hy : y < 4294967296) (hc : c < 2147483648) (hc0 : 0 < c) (h : na x y) : na (fmul x c) (fmul y c) := by
  intro o1 o2
  obtain ⟨ox, oc⟩ := mul_args o1
  obtain ⟨oy, -⟩ := mul_args o2
  have hk := h ox oy
  have sc : sn c = false := by unfold sn; rw [show c / 2147483648 % 2 = 0 by omega]; rfl
  have hm : c % 2147483648 = c := Nat.mod_eq_of_lt hc
  have infx : ∀ z, z < 4294967296 → z % 2147483648 = 2139095040 → fmul z c = z := by
    intro z hz fz
    have h0 : Ieee.single.mul z c = ((Ieee.single.read z).product (Ieee.single.read c)).map Ieee.single.write := rfl
    rw [inf_read fz] at h0
    unfold fmul
    rw [h0]
    rcases fin_or oc with fc | fc
    · obtain ⟨m, k, e, v, -⟩ := read_fin c fc
      have hm0 : m ≠ 0 := by
        intro e0
        rw [e0, Nat.zero_mul, hm] at v
        have := val_lt hc0
        rw [show val 0 = 0 from rfl] at this
        omega
      rw [e]
      simp only [Ieee.Datum.product, if_neg hm0]
      have : (c / 2147483648 % 2 == 1) = false := sc
      rw [this, Bool.xor_false]; exact inf_write hz fz
    · rw [inf_read fc, sc]
      simp only [Ieee.Datum.product, Bool.xor_false]; exact inf_write hz fz
  rcases fin_or oc with fc | fc
  · rcases fin_or ox with fx | fx <;> rcases fin_or oy with fy | fy
    · obtain ⟨r1, e1, q1⟩ := fmul_fin x c fx fc
      obtain ⟨r2, e2, q2⟩ := fmul_fin y c fy fc
      rw [e1, e2, sc, Bool.xor_false, Bool.xor_false]
      rw [← sval_abs] at q1 q2
      have hs : sval x ≤ sval y := by
        have hsk := sval_key y x hy hx
        apply Int.le_of_not_gt
        intro hlt
        have := hsk.1.1 hlt
        omega
      exact signed_mono hs q1 q2 (sval_sign hx) (sval_sign hy)
    · rw [infx y hy fy]
      have b := key_bound (fmul_lt x c) o1
      have k1 := key_fin fx
      rcases key_inf hy fy with e | e <;> omega
    · rw [infx x hx fx]
      have b := key_bound (fmul_lt y c) o2
      have k1 := key_fin fy
      rcases key_inf hx fx with e | e <;> omega
    · rw [infx x hx fx, infx y hy fy]; exact hk
  · -- times what is without end
    have hci : c = 2139095040 := by omega
    have fz : ∀ z, z < 4294967296 → ok z = true → ok (fmul z c) = true → fmul z c = Ieee.single.word (sn z) 2139095040 ∧ z % 2147483648 ≠ 0 := by
      intro z hz oz o
      rcases fin_or oz with fz | fz
      · obtain ⟨m, k, e, v, -⟩ := read_fin z fz
        have h0 : Ieee.single.mul z c = ((Ieee.single.read z).product (Ieee.single.read c)).map Ieee.single.write := rfl
        rw [e, inf_read fc, sc] at h0
        by_cases hm0 : m = 0
        · simp only [Ieee.Datum.product, if_pos hm0] at h0
          unfold fmul at o
          rw [h0] at o
          exact absurd (show ok 2143289344 = true from o) (by decide)
        · simp only [Ieee.Datum.product, if_neg hm0] at h0
          refine ⟨by unfold fmul; rw [h0, Bool.false_xor]; rfl, fun e0 => hm0 ?_⟩
          rw [e0, show val 0 = 0 from rfl] at v
          rcases Nat.mul_eq_zero.1 v with h | h
          · exact h
          · have := Nat.two_pow_pos k; omega
      · have := word_sn z hz
        rw [fz] at this
        exact ⟨by rw [infx z hz fz, this], by omega⟩
    obtain ⟨e1, z1⟩ := fz x hx ox o1
    obtain ⟨e2, z2⟩ := fz y hy oy o2
    rw [e1, e2, key_word _ _ (by decide), key_word _ _ (by decide)]
    have kx : sn x = decide (key x < 0) := by
      by_cases h' : x < 2147483648
      · rw [key_pos h', decide_eq_false (by omega)]; unfold sn; rw [show x / 2147483648 % 2 = 0 by omega]; rfl
      · rw [key_neg (by omega), decide_eq_true (by omega)]; unfold sn; rw [show x / 2147483648 % 2 = 1 by omega]; rfl
    have ky : sn y = decide (key y < 0) := by
      by_cases h' : y < 2147483648
      · rw [key_pos h', decide_eq_false (by omega)]; unfold sn; rw [show y / 2147483648 % 2 = 0 by omega]; rfl
      · rw [key_neg (by omega), decide_eq_true (by omega)]; unfold sn; rw [show y / 2147483648 % 2 = 1 by omega]; rfl
    rw [kx, ky]
    by_cases n1 : key x < 0 <;> by_cases n2 : key y < 0
    · rw [decide_eq_true n1, decide_eq_true n2]; exact Int.le_refl _
    · rw [decide_eq_true n1, decide_eq_false n2]; decide
    · omega
    · rw [decide_eq_false n1, decide_eq_false n2]; exact Int.le_refl _
theorem of_keeps {n m : Int} (h : n ≤ m) : na (fof n) (fof m) := by
  intro _ _
  obtain ⟨r, e, hr⟩ := fof_near n
  obtain ⟨r', e', hr'⟩ := fof_near m
  rw [e, e']
  exact signed_mono (C := 2 ^ 149) h hr hr' (fun _ => rfl) (fun _ => rfl)
theorem froot_neg {x : Nat} (hx : x < 4294967296) (ox : ok x = true) (h : key x < 0) : froot x = 2143289344 := by
  have hs : 2147483648 ≤ x := by
    apply Nat.le_of_not_lt
    intro h'
    rw [key_pos h'] at h; omega
  have hk := key_neg hs
  rcases fin_or ox with f | f
  · obtain ⟨r, e, v, l⟩ := wide_fin x f
    have s1 : sn x = true := by unfold sn; rw [show x / 2147483648 % 2 = 1 by omega]; rfl
    rw [s1] at e
    obtain ⟨f1, f2⟩ := word_facts64 true r (by omega)
    obtain ⟨M, K, eR, vR, -, -⟩ := read_fin64 (wide x) (by rw [e, f1]; exact l)
    have f1' : wide x % 9223372036854775808 = r := by rw [e]; exact f1
    have f2' : (wide x / 9223372036854775808 % 2 == 1) = true := by rw [e]; exact f2
    rw [f1', v] at vR
    rw [f2'] at eR
    have hv0 : 0 < val (x % 2147483648) := by have := val_lt (show 0 < x % 2147483648 by omega); rwa [show val 0 = 0 from rfl] at this
    have hM0 : M ≠ 0 := by
      intro hz
      rw [hz, Nat.zero_mul] at vR
      have := Nat.mul_pos hv0 (Nat.two_pow_pos 925)
      omega
    have hsq : Ieee.double.sqrt (wide x) = none := by
      unfold Ieee.Format.sqrt
      rw [eR]
      simp [Ieee.Datum.root, hM0]
    unfold froot
    rw [if_pos ox, hsq]
  · have : x = 4286578688 := by omega
    subst this
    decide +kernel
theorem root_keeps {x y : Nat} (hx : x < 4294967296) (hy : y < 4294967296) (h : na x y) : na (froot x) (froot y) := by
  intro o1 o2
  have ox : ok x = true := by
    cases h1 : ok x
    · rw [froot_nan h1] at o1; exact absurd o1 (by decide)
    · rfl
  have oy : ok y = true := by
    cases h1 : ok y
    · rw [froot_nan h1] at o2; exact absurd o2 (by decide)
    · rfl
  have hk := h ox oy
  have kx : 0 ≤ key x := by
    apply Int.le_of_not_gt
    intro hlt
    rw [froot_neg hx ox hlt] at o1; exact absurd o1 (by decide)
  have zero : ∀ z, z < 4294967296 → key z = 0 → key (froot z) = 0 := by
    intro z hz e
    have : z = 0 ∨ z = 2147483648 := by
      by_cases h' : z < 2147483648
      · rw [key_pos h'] at e; omega
      · rw [key_neg (by omega)] at e; omega
    rcases this with rfl | rfl <;> decide +kernel
  have pos : ∀ z, z < 4294967296 → ok z = true → 0 < key z → z < 2147483648 ∧ 0 < z ∧ z ≤ 2139095040 := by
    intro z hz oz e
    have := ok_mod oz
    by_cases h' : z < 2147483648
    · rw [key_pos h'] at e; omega
    · rw [key_neg (by omega)] at e; omega
  have inf : key (froot 2139095040) = 2139095040 := by decide +kernel
  by_cases ex : key x = 0
  · rw [zero x hx ex]
    by_cases ey : key y = 0
    · rw [zero y hy ey]; exact Int.le_refl _
    · obtain ⟨p1, p2, p3⟩ := pos y hy oy (by omega)
      by_cases ei : y = 2139095040
      · rw [ei, inf]; decide
      · obtain ⟨_, s, _, e, _⟩ := froot_mono y y p2 (Nat.le_refl _) (by omega)
        rw [e, key_word _ _ (by omega)]; simp only [Bool.false_eq_true, if_false]; omega
  · obtain ⟨p1, p2, p3⟩ := pos x hx ox (by omega)
    obtain ⟨q1, q2, q3⟩ := pos y hy oy (by omega)
    rw [key_pos p1, key_pos q1] at hk
    by_cases ei : y = 2139095040
    · rw [ei, inf]
      exact (key_bound (froot_lt x) o1).2
    · obtain ⟨r, s, e1, e2, hrs⟩ := froot_mono x y p2 (by omega) (by omega)
      rw [e1, e2, key_word _ _ (by omega), key_word _ _ (by omega)]
      simp only [Bool.false_eq_true, if_false]; omega
end Go.Proofs.YtjggbdlmghembaaGreat
