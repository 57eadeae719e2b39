import Derived.Test.YtkkflgiepfenpaaSNsumL
import Derived.Test.YtkkflgiepfenpaaSRootM
namespace Go.Proofs.Ytkkflgiepfenpaa
open Go.RowKit

/-- what Near says, in quarters of a step -/
theorem near_quart {a d N : Nat} (h0 : 0 < a % 2147483648) (hn : Near 8388608 d N (a % 2147483648)) :
    (hlo a * 2 ^ (rdk a + d) ≤ 4 * N ∧ (hlo a * 2 ^ (rdk a + d) = 4 * N → (rdm a % 2 == 0) = true)) ∧ (4 * N ≤ (4 * rdm a + 2) * 2 ^ (rdk a + d) ∧ (4 * N = (4 * rdm a + 2) * 2 ^ (rdk a + d) → (rdm a % 2 == 0) = true)) := by
  obtain ⟨e1, e2, -, -, e5⟩ := halves_val a h0
  obtain ⟨⟨u1, u2⟩, u3⟩ := hn
  rw [← val_vl, ← val_vl] at u1 u2
  have hpar : ∀ {x : Nat}, x % 2 = 0 → x % 2 = rdm a % 2 → (rdm a % 2 == 0) = true := fun p q => by rw [← q, p]; rfl
  constructor
  · obtain ⟨r', hr'⟩ : ∃ r', r' + 1 = a % 2147483648 := ⟨a % 2147483648 - 1, by omega⟩
    have l := e2 r' hr'
    obtain ⟨l1, l2⟩ := u3 r' hr'
    rw [← val_vl, ← val_vl] at l1 l2
    have t : hlo a * 2 ^ (rdk a + d) = (val r' + val (a % 2147483648)) * 2 ^ d * 2 := by
      rw [Nat.pow_add, ← Nat.mul_assoc, ← l, Nat.mul_assoc, Nat.mul_comm 2 (2 ^ d), ← Nat.mul_assoc]
    rw [t]
    exact ⟨by omega, fun h => hpar (l2 (by omega)) e5⟩
  · have t : (4 * rdm a + 2) * 2 ^ (rdk a + d) = (val (a % 2147483648) + val (a % 2147483648 + 1)) * 2 ^ d * 2 := by
      rw [Nat.pow_add, ← Nat.mul_assoc, ← e1, Nat.mul_assoc, Nat.mul_comm 2 (2 ^ d), ← Nat.mul_assoc]
    rw [t]
    exact ⟨by omega, fun h => hpar (u2 (by omega)) e5⟩
/-- a quotient with its mark, held against a multiple of the unit -/
theorem mark_hi {X y H : Nat} (hy : 0 < y) : (2 * (X / y) + (X % y != 0).toNat < 2 * H → X < H * y) ∧ (2 * (X / y) + (X % y != 0).toNat = 2 * H → X = H * y) := by
  have h1 := Nat.div_add_mod X y
  have h2 := Nat.mod_lt X hy
  rw [Nat.mul_comm] at h1
  by_cases e : X % y = 0
  · have e2 : (X % y != 0).toNat = 0 := by simp [e]
    rw [e2]
    refine ⟨fun h => ?_, fun h => ?_⟩
    · have : X / y * y < H * y := Nat.mul_lt_mul_of_pos_right (by omega) hy
      omega
    · have : X / y = H := by omega
      rw [← this]; omega
  · have e2 : (X % y != 0).toNat = 1 := by simp [e]
    rw [e2]
    refine ⟨fun h => ?_, fun h => by omega⟩
    have : (X / y + 1) * y ≤ H * y := Nat.mul_le_mul_right _ (by omega)
    rw [Nat.add_mul, Nat.one_mul] at this
    omega
theorem mark_lo {X y H : Nat} (hy : 0 < y) : (2 * H < 2 * (X / y) + (X % y != 0).toNat → H * y < X) ∧ (2 * H = 2 * (X / y) + (X % y != 0).toNat → H * y = X) := by
  have h1 := Nat.div_add_mod X y
  have h2 := Nat.mod_lt X hy
  rw [Nat.mul_comm] at h1
  by_cases e : X % y = 0
  · have e2 : (X % y != 0).toNat = 0 := by simp [e]
    rw [e2]
    refine ⟨fun h => ?_, fun h => ?_⟩
    · have : H * y < X / y * y := Nat.mul_lt_mul_of_pos_right (by omega) hy
      omega
    · have : X / y = H := by omega
      rw [← this]; omega
  · have e2 : (X % y != 0).toNat = 1 := by simp [e]
    rw [e2]
    refine ⟨fun h => ?_, fun h => by omega⟩
    have : H * y ≤ X / y * y := Nat.mul_le_mul_right _ (by omega)
    omega
theorem fdiv_fin (a b : Nat) (fa : a % 2147483648 < 2139095040) (fb : b % 2147483648 < 2139095040) (hb : 0 < rdm b) (ha : 0 < rdm a) :
    ∃ (more E r : Nat), fdiv a b = Ieee.single.word (sn a ^^ sn b) (min r 2139095040) ∧ Near 8388608 200 ((2 * (rdm a * 2 ^ more / rdm b) + (rdm a * 2 ^ more % rdm b != 0).toNat) * 2 ^ E) r ∧ (E : Int) = (rdk a : Int) - rdk b - more + 348 ∧ 16777216 ≤ rdm a * 2 ^ more / rdm b := by
  obtain ⟨-, va, ma, -⟩ := rd_val a
  obtain ⟨-, vb, mb, nb⟩ := rd_val b
  have e1 := read_rd a fa
  have e2 := read_rd b fb
  have h0 : Ieee.single.div a b = ((Ieee.single.read a).quotient 25 (Ieee.single.read b)).map Ieee.single.write := rfl
  have hb' : rdm b ≠ 0 := by omega
  rw [e1, e2] at h0
  simp only [Ieee.Datum.quotient, if_neg hb', Option.map_some] at h0
  generalize hm : 25 + (rdm b).log2 - (rdm a).log2 = more at h0
  rw [Nat.shiftLeft_eq] at h0
  have hla := log_lt (n := rdm a) (k := 24) (by decide) (by omega)
  have hlb := log_lt (n := rdm b) (k := 24) (by decide) (by omega)
  have hkb : rdk b ≤ 253 := by omega
  have hnr := rg_near Ieee.single (by decide) (2 * (rdm a * 2 ^ more / rdm b) + (rdm a * 2 ^ more % rdm b != 0).toNat) (-149 + (rdk a : Int) - (-149 + (rdk b : Int)) - more - 1) 200 (by show (-149 : Int) ≤ _; omega)
  refine ⟨more, (-149 + (rdk a : Int) - (-149 + (rdk b : Int)) - more - 1 - Ieee.single.leastPlace + (200 : Nat)).toNat, _, ?_, hnr, ?_, ?_⟩
  · unfold fdiv; rw [h0]; exact nearest_word _ _ _
  · rw [show Ieee.single.leastPlace = -149 from rfl]; omega
  · have hlt : rdm b < 2 ^ ((rdm b).log2 + 1) := Nat.lt_log2_self
    have hge : 2 ^ (rdm a).log2 ≤ rdm a := Nat.log2_self_le (by omega)
    rw [Nat.le_div_iff_mul_le hb]
    have h3 : 2 ^ ((rdm a).log2 + more) ≤ rdm a * 2 ^ more := by rw [Nat.pow_add]; exact Nat.mul_le_mul_right _ hge
    have h4 : 2 ^ (24 + ((rdm b).log2 + 1)) ≤ 2 ^ ((rdm a).log2 + more) := Nat.pow_le_pow_right (by decide) (by omega)
    have h5 : 16777216 * rdm b ≤ 16777216 * 2 ^ ((rdm b).log2 + 1) := Nat.mul_le_mul_left _ (Nat.le_of_lt hlt)
    rw [Nat.pow_add 2 24] at h4
    omega
theorem al1 (u T : Nat) : 2 * u * (4 * T) = 4 * (2 * (u * T)) := by
  rw [Nat.mul_mul_mul_comm]; omega
theorem al2 (H b : Nat) : 4 * (2 * H) * b = H * b * 8 := by
  rw [show 4 * (2 * H) = H * 8 by omega, Nat.mul_right_comm]
theorem al3 (c T : Nat) : c * (4 * (T * 2)) = 4 * (2 * (c * T)) := by
  rw [show 4 * (T * 2) = 8 * T by omega, Nat.mul_left_comm]; omega
/-- the quotient lies between the halves -/
theorem ratio_btw (a b q : Nat) (hb : 0 < rdm b) (more E : Nat) (h0 : 0 < q % 2147483648)
    (hn : Near 8388608 200 ((2 * (rdm a * 2 ^ more / rdm b) + (rdm a * 2 ^ more % rdm b != 0).toNat) * 2 ^ E) (q % 2147483648)) (hE : (E : Int) = (rdk a : Int) - rdk b - more + 348) (hD : 16777216 ≤ rdm a * 2 ^ more / rdm b) :
    Btw (rdm a) ((rdk a : Int) - rdk b) (hlo q * rdm b) ((4 * rdm q + 2) * rdm b) (-151 + (rdk q : Int)) (rdm q % 2 == 0) := by
  obtain ⟨⟨l1, l2⟩, u1, u2⟩ := near_quart h0 hn
  obtain ⟨-, qv, qm, qn⟩ := rd_val q
  obtain ⟨-, -, hm0, -, -⟩ := halves_val q h0
  have hmk := fun H => mark_hi (X := rdm a * 2 ^ more) (H := H) hb
  have hml := fun H => mark_lo (X := rdm a * 2 ^ more) (H := H) hb
  generalize hQ : 2 * (rdm a * 2 ^ more / rdm b) + (rdm a * 2 ^ more % rdm b != 0).toNat = Q at *
  have hQ25 : 33554432 ≤ Q := by omega
  -- how fine the unit is
  have hEk : E ≤ rdk q + 198 := by
    apply Nat.le_of_not_lt
    intro hlt
    have h1 : 33554432 * 2 ^ E ≤ Q * 2 ^ E := Nat.mul_le_mul_right _ hQ25
    have h2 : (4 * rdm q + 2) * 2 ^ (rdk q + 200) < 2 ^ 26 * 2 ^ (rdk q + 200) := Nat.mul_lt_mul_of_pos_right (by omega) (Nat.two_pow_pos _)
    have h3 : 2 ^ 27 * 2 ^ (rdk q + 199) ≤ 2 ^ 27 * 2 ^ E := Nat.mul_le_mul_left _ (Nat.pow_le_pow_right (by decide) (by omega))
    have h4 : 2 ^ (rdk q + 200) = 2 * 2 ^ (rdk q + 199) := by rw [show rdk q + 200 = rdk q + 199 + 1 by omega, Nat.pow_succ, Nat.mul_comm]
    rw [h4] at h2 u1
    omega
  obtain ⟨t, ht⟩ : ∃ t, rdk q + 198 = E + t := ⟨rdk q + 198 - E, by omega⟩
  have e200 : 2 ^ (rdk q + 200) = 4 * 2 ^ t * 2 ^ E := by
    rw [show rdk q + 200 = 2 + t + E by omega, Nat.pow_add, Nat.pow_add]
  have hp := Nat.two_pow_pos E
  have E1 : ∀ x : Nat, x * 2 ^ (more + E + 3) = x * 2 ^ more * 8 * 2 ^ E := fun x => by
    rw [show more + E + 3 = more + 3 + E by omega, Nat.pow_add, Nat.pow_add, ← Nat.mul_assoc, ← Nat.mul_assoc]
  have upH : (4 * rdm q + 2) * 2 ^ (rdk q + 200) = 4 * (2 * ((2 * rdm q + 1) * 2 ^ t)) * 2 ^ E := by
    rw [e200, ← Nat.mul_assoc, show 4 * rdm q + 2 = 2 * (2 * rdm q + 1) by omega, al1]
  have eN : 4 * (Q * 2 ^ E) = 4 * Q * 2 ^ E := by rw [Nat.mul_assoc]
  rw [eN] at l1 l2 u1 u2
  rw [upH] at u1 u2
  refine btw_of (E1 := more + E + 3) (E2 := rdk q + 200) (by omega) ?_ ?_
  · -- below
    rw [E1]
    have fin : ∀ H : Nat, hlo q * 2 ^ (rdk q + 200) = 4 * (2 * H) * 2 ^ E → (hlo q * rdm b * 2 ^ (rdk q + 200) < rdm a * 2 ^ more * 8 * 2 ^ E ∨ hlo q * rdm b * 2 ^ (rdk q + 200) = rdm a * 2 ^ more * 8 * 2 ^ E ∧ (rdm q % 2 == 0) = true) := by
      intro H loH
      rw [loH] at l1 l2
      have eL : hlo q * rdm b * 2 ^ (rdk q + 200) = H * rdm b * 8 * 2 ^ E := by
        rw [Nat.mul_right_comm, loH, Nat.mul_right_comm, al2]
      rw [eL]
      have h3 := Nat.le_of_mul_le_mul_right l1 hp
      rcases Nat.lt_or_eq_of_le (show 2 * H ≤ Q by omega) with h | h
      · exact Or.inl (Nat.mul_lt_mul_of_pos_right (Nat.mul_lt_mul_of_pos_right ((hml H).1 h) (by decide)) hp)
      · refine Or.inr ⟨?_, l2 (by rw [h])⟩
        rw [(hml H).2 h]
    by_cases hodd : rdm q = 8388608 ∧ 0 < rdk q
    · have hlq : hlo q = 33554431 := by unfold hlo; rw [if_pos hodd, hodd.1]
      by_cases ht0 : t = 0
      · subst ht0
        refine Or.inl ?_
        have h1 : 16777216 * rdm b ≤ rdm a * 2 ^ more := (Nat.le_div_iff_mul_le hb).1 hD
        have h2 : 33554431 * rdm b * 4 < rdm a * 2 ^ more * 8 := by omega
        rw [hlq, e200, Nat.pow_zero, Nat.mul_one, ← Nat.mul_assoc]
        exact Nat.mul_lt_mul_of_pos_right h2 hp
      · obtain ⟨j, rfl⟩ : ∃ j, t = j + 1 := ⟨t - 1, by omega⟩
        refine fin (33554431 * 2 ^ j) ?_
        rw [hlq, e200, Nat.pow_succ, ← Nat.mul_assoc, al3]
    · have hlq : hlo q = 2 * (2 * rdm q - 1) := by unfold hlo; rw [if_neg hodd]; omega
      obtain ⟨g, hg⟩ : ∃ g, 2 * rdm q - 1 = g := ⟨_, rfl⟩
      rw [hg] at hlq
      refine fin (g * 2 ^ t) ?_
      rw [hlq, e200, ← Nat.mul_assoc, al1]
  · -- above
    rw [E1]
    have eU : (4 * rdm q + 2) * rdm b * 2 ^ (rdk q + 200) = (2 * rdm q + 1) * 2 ^ t * rdm b * 8 * 2 ^ E := by
      rw [Nat.mul_right_comm, upH, Nat.mul_right_comm, al2]
    rw [eU]
    have h3 := Nat.le_of_mul_le_mul_right u1 hp
    rcases Nat.lt_or_eq_of_le (show Q ≤ 2 * ((2 * rdm q + 1) * 2 ^ t) by omega) with h | h
    · exact Or.inl (Nat.mul_lt_mul_of_pos_right (Nat.mul_lt_mul_of_pos_right ((hmk ((2 * rdm q + 1) * 2 ^ t)).1 h) (by decide)) hp)
    · refine Or.inr ⟨?_, u2 (by rw [h])⟩
      rw [(hmk ((2 * rdm q + 1) * 2 ^ t)).2 h]
end Go.Proofs.Ytkkflgiepfenpaa
