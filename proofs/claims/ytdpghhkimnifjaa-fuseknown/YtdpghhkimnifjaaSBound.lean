import Derived.Test.YtdpghhkimnifjaaCSOps
namespace Go.Proofs.Ytdpghhkimnifjaa
open Go.RowKit
set_option maxRecDepth 100000

theorem cut_le (neg : Bool) (n drop : Nat) : Ieee.Toward.even.cut neg n drop ≤ n / 2 ^ drop + 1 := by
  unfold Ieee.Toward.cut
  dsimp only
  have hb : ∀ b : Bool, b.toNat ≤ 1 := by intro b; cases b <;> decide
  refine Nat.add_le_add ?_ (hb _)
  rw [Nat.shiftLeft_eq, Nat.one_mul]
  by_cases h : drop ≤ n.log2 + 2
  · rw [Nat.min_eq_left h]; exact Nat.le_refl _
  · rw [Nat.min_eq_right (by omega)]
    have : n < 2 ^ (n.log2 + 2) := Nat.lt_of_lt_of_le Nat.lt_log2_self (Nat.pow_le_pow_right (by decide) (by omega))
    rw [Nat.div_eq_of_lt this]; exact Nat.zero_le _
theorem nearest_le (f : Ieee.Format) (neg : Bool) (mag : Nat) (place : Int) (K : Nat) (h : place + mag.log2 - f.fractionBits - f.leastPlace ≤ K) :
    ∃ rung, f.nearest neg mag place = f.word neg (min rung f.infRung) ∧ rung ≤ (K + 2) * f.binade := by
  unfold Ieee.Format.nearest
  by_cases hm : mag = 0
  · exact ⟨0, by simp [hm], Nat.zero_le _⟩
  rw [if_neg hm]
  refine ⟨_, rfl, ?_⟩
  generalize hl : max (place + mag.log2 - f.fractionBits) f.leastPlace = last
  have hlt : mag < 2 ^ (mag.log2 + 1) := Nat.lt_log2_self
  generalize mag.log2 = L at h hl hlt
  have h1 : (last - f.leastPlace).toNat ≤ K := by omega
  have h2 : Ieee.Toward.even.cut neg (mag <<< (place - last).toNat) (last - place).toNat ≤ 2 * f.binade := by
    refine Nat.le_trans (cut_le _ _ _) ?_
    refine Nat.succ_le_of_lt ?_
    rw [Nat.shiftLeft_eq]
    have hbin : 2 * f.binade = 2 ^ (f.fractionBits + 1) := by unfold Ieee.Format.binade; rw [Nat.pow_succ, Nat.mul_comm]
    rw [hbin]
    rw [Nat.div_lt_iff_lt_mul (Nat.two_pow_pos _), ← Nat.pow_add]
    refine Nat.lt_of_lt_of_le (Nat.mul_lt_mul_of_pos_right hlt (Nat.two_pow_pos _)) ?_
    rw [← Nat.pow_add]
    exact Nat.pow_le_pow_right (by decide) (by omega)
  calc _ ≤ K * f.binade + 2 * f.binade := Nat.add_le_add (Nat.mul_le_mul_right _ h1) h2
    _ = (K + 2) * f.binade := by rw [Nat.add_mul]

theorem word_mod (neg : Bool) (r : Nat) (h : r < 2147483648) : Ieee.single.word neg r % 2147483648 = r := by
  unfold Ieee.Format.word
  have e1 : Ieee.single.signWeight = 2147483648 := rfl
  rw [e1]; split <;> omega
theorem word_mod64 (neg : Bool) (r : Nat) (h : r < 9223372036854775808) : Ieee.double.word neg r % 9223372036854775808 = r := by
  unfold Ieee.Format.word
  have e1 : Ieee.double.signWeight = 9223372036854775808 := rfl
  rw [e1]; split <;> omega
theorem inf_single (x : Nat) (h : x % 2147483648 < 2139095040) : (Ieee.single.read x).isInfinity = false := by
  rw [read_single]; split
  · rfl
  · rfl
theorem inf_double (x : Nat) (h : x % 9223372036854775808 < 9218868437227405312) : (Ieee.double.read x).isInfinity = false := by
  rw [read_double]; split
  · rfl
  · rfl
theorem log_lt {n k : Nat} (hk : 0 < k) (h : n < 2 ^ k) : n.log2 < k := by
  by_cases h0 : n = 0
  · subst h0; simpa using hk
  · exact (Nat.log2_lt h0).2 h
theorem read_single_log {x : Nat} {s : Bool} {m : Nat} {p : Int} (h : Ieee.single.read x = .number s m p) (K : Nat) (hx : x % 2147483648 ≤ (K + 2) * 8388608) : m < 16777216 ∧ p + m.log2 ≤ K - 125 ∧ -149 ≤ p := by
  rw [read_single] at h
  split at h
  · cases h
    have := log_lt (n := x % 2147483648) (k := 23) (by decide) (by omega)
    omega
  · split at h
    · cases h
      have := log_lt (n := 8388608 + x % 2147483648 % 8388608) (k := 24) (by decide) (by omega)
      omega
    · split at h <;> cases h
theorem read_double_log {x : Nat} {s : Bool} {m : Nat} {p : Int} (h : Ieee.double.read x = .number s m p) (K : Nat) (hx : x % 9223372036854775808 ≤ (K + 2) * 4503599627370496) : m < 9007199254740992 ∧ p + m.log2 ≤ K - 1021 ∧ -1074 ≤ p := by
  rw [read_double] at h
  split at h
  · cases h
    have := log_lt (n := x % 9223372036854775808) (k := 52) (by decide) (by omega)
    omega
  · split at h
    · cases h
      have := log_lt (n := 4503599627370496 + x % 9223372036854775808 % 4503599627370496) (k := 53) (by decide) (by omega)
      omega
    · split at h <;> cases h

theorem double_small (neg : Bool) (mag : Nat) (place : Int) (K : Nat) (hK : K ≤ 2000) (h : place + mag.log2 ≤ K - 1022) :
    (Ieee.double.write (.number neg mag place)) % 9223372036854775808 ≤ (K + 2) * 4503599627370496 ∧ (Ieee.double.read (Ieee.double.write (.number neg mag place))).isInfinity = false := by
  obtain ⟨rung, h1, h2⟩ := nearest_le Ieee.double neg mag place K (by
    have e1 : Ieee.double.leastPlace = -1074 := rfl
    have e2 : (Ieee.double.fractionBits : Int) = 52 := rfl
    rw [e1, e2]; omega)
  have e3 : Ieee.double.infRung = 9218868437227405312 := rfl
  have e4 : Ieee.double.binade = 4503599627370496 := rfl
  rw [e4] at h2
  rw [e3] at h1
  have hlt : rung < 9218868437227405312 := by omega
  rw [Nat.min_eq_left (Nat.le_of_lt hlt)] at h1
  have e5 : Ieee.double.write (.number neg mag place) = Ieee.double.word neg rung := h1
  have e6 := word_mod64 neg rung (by omega)
  rw [e5]
  exact ⟨by rw [e6]; exact h2, inf_double _ (by rw [e6]; exact hlt)⟩
theorem single_small (neg : Bool) (mag : Nat) (place : Int) (K : Nat) (hK : K ≤ 250) (h : place + mag.log2 ≤ K - 126) :
    (Ieee.single.write (.number neg mag place)) % 2147483648 ≤ (K + 2) * 8388608 ∧ (Ieee.single.read (Ieee.single.write (.number neg mag place))).isInfinity = false := by
  obtain ⟨rung, h1, h2⟩ := nearest_le Ieee.single neg mag place K (by
    have e1 : Ieee.single.leastPlace = -149 := rfl
    have e2 : (Ieee.single.fractionBits : Int) = 23 := rfl
    rw [e1, e2]; omega)
  have e3 : Ieee.single.infRung = 2139095040 := rfl
  have e4 : Ieee.single.binade = 8388608 := rfl
  rw [e4] at h2
  rw [e3] at h1
  have hlt : rung < 2139095040 := by omega
  rw [Nat.min_eq_left (Nat.le_of_lt hlt)] at h1
  have e5 : Ieee.single.write (.number neg mag place) = Ieee.single.word neg rung := h1
  have e6 := word_mod neg rung (by omega)
  rw [e5]
  exact ⟨by rw [e6]; exact h2, inf_single _ (by rw [e6]; exact hlt)⟩

theorem wfine_all (a : Nat) : wfine a = true := by
  unfold wfine wide
  cases e : Ieee.single.read a with
  | infinity s => rfl
  | nan s f => rfl
  | number s m p =>
    have h := read_single_log e 254 (by have := Nat.mod_lt a (show 2147483648 > 0 by decide); omega)
    have := (double_small s m p 1152 (by omega) (by omega)).2
    simp [this]
theorem rootFrom_le (n : Nat) : ∀ todo root : Nat, root * root ≤ n → Ieee.Datum.rootFrom n todo root * Ieee.Datum.rootFrom n todo root ≤ n := by
  intro todo
  induction todo with
  | zero => intro root h; exact h
  | succ k ih =>
    intro root h
    unfold Ieee.Datum.rootFrom
    dsimp only
    apply ih
    split
    · assumption
    · exact h
theorem root_log {d : Nat} {m : Nat} {i : Int} {s t : Bool} {M : Nat} {P : Int} (h : (Ieee.Datum.number s m i).root d = some (.number t M P)) (hm : m ≠ 0) : 2 * (P + M.log2) ≤ i + m.log2 + 2 := by
  simp only [Ieee.Datum.root, if_neg hm] at h
  split at h
  · cases h
  · generalize hmo : 2 * d - m.log2 + ((i - (2 * d - m.log2 : Nat)) % 2).toNat = more at h
    simp only [Option.some.injEq, Ieee.Datum.number.injEq] at h
    obtain ⟨-, hM, hP⟩ := h
    generalize hw : Ieee.Datum.rootFrom (m <<< more) ((m <<< more).log2 / 2 + 1) 0 = whole at hM
    have hsq : whole * whole ≤ m <<< more := by rw [← hw]; exact rootFrom_le _ _ _ (by simp)
    rw [Nat.shiftLeft_eq] at hsq hM
    have hlt : m < 2 ^ (m.log2 + 1) := Nat.lt_log2_self
    have hn : whole * whole < 2 ^ (m.log2 + 1 + more) := by
      refine Nat.lt_of_le_of_lt hsq ?_
      rw [Nat.pow_add]
      exact Nat.mul_lt_mul_of_pos_right hlt (Nat.two_pow_pos _)
    generalize m.log2 = L at hn hmo hlt ⊢
    have hwl : whole < 2 ^ ((L + more) / 2 + 1) := by
      apply Nat.lt_of_not_le
      intro hge
      have h2 := Nat.mul_le_mul hge hge
      rw [← Nat.pow_add] at h2
      have h3 : 2 ^ (L + 1 + more) ≤ 2 ^ ((L + more) / 2 + 1 + ((L + more) / 2 + 1)) := Nat.pow_le_pow_right (by decide) (by omega)
      omega
    have hMl : M < 2 ^ ((L + more) / 2 + 2) := by
      rw [← hM, show (L + more) / 2 + 2 = (L + more) / 2 + 1 + 1 by omega, Nat.pow_succ]
      have : (whole * whole != m * 2 ^ more).toNat ≤ 1 := by cases (whole * whole != m * 2 ^ more) <;> decide
      omega
    have := log_lt (by omega) hMl
    omega
theorem rfine_all (a : Nat) : rfine a = true := by
  unfold rfine
  rw [wfine_all, Bool.true_and]
  cases hq : Ieee.double.sqrt (wide a) with
  | none => rfl
  | some r =>
    show nfine r = true
    unfold Ieee.Format.sqrt at hq
    cases er : (Ieee.double.read (wide a)).root (Ieee.double.fractionBits + 2) with
    | none => rw [er] at hq; cases hq
    | some D =>
      rw [er] at hq
      have hr : Ieee.double.write D = r := by simpa using hq
      -- what the wide number is
      have hwide : ∀ s m p, Ieee.double.read (wide a) = .number s m p → p + m.log2 ≤ 131 := by
        intro s m p e
        unfold wide at e
        cases ea : Ieee.single.read a with
        | infinity s' =>
          rw [ea] at e
          exfalso
          have : Ieee.double.read (Ieee.double.write (.infinity s')) = .infinity s' := by cases s' <;> decide +kernel
          rw [this] at e; cases e
        | nan s' f =>
          rw [ea] at e
          exfalso
          have e0 : Ieee.double.write (.nan s' f) = Ieee.double.word s' (9218868437227405312 + f % 4503599627370496) := rfl
          have hf : f % 4503599627370496 < 4503599627370496 := Nat.mod_lt _ (by decide)
          have e1 := word_mod64 s' (9218868437227405312 + f % 4503599627370496) (by omega)
          rw [e0, read_double, e1, if_neg (by omega), if_neg (by omega)] at e
          split at e <;> cases e
        | number s' m' p' =>
          rw [ea] at e
          have h := read_single_log ea 254 (by have := Nat.mod_lt a (show 2147483648 > 0 by decide); omega)
          have h1 := (double_small s' m' p' 1152 (by omega) (by omega)).1
          have := read_double_log e 1152 h1
          omega
      unfold nfine narrow
      cases eR : Ieee.double.read r with
      | infinity s => rfl
      | nan s f => rfl
      | number s m p =>
        have hsm : ∀ q : Int, q + m.log2 ≤ 90 → q = p → (!(Ieee.single.read (Ieee.single.write (.number s m p))).isInfinity) = true := by
          intro q hq' e
          subst e
          have := (single_small s m q 220 (by omega) (by omega)).2
          simp [this]
        refine hsm p ?_ rfl
        cases eW : Ieee.double.read (wide a) with
        | nan s' f => rw [eW] at er; cases er
        | infinity s' =>
          rw [eW] at er
          unfold Ieee.Datum.root at er
          dsimp only at er
          split at er
          · cases er
          · cases er
            exfalso
            rw [← hr] at eR
            have : Ieee.double.read (Ieee.double.write (.infinity s')) = .infinity s' := by cases s' <;> decide +kernel
            rw [this] at eR; cases eR
        | number s' m' i =>
          have hw := hwide s' m' i eW
          rw [eW] at er
          by_cases hm : m' = 0
          · subst hm
            have er' : some (Ieee.Datum.number s' 0 i) = some D := by rw [← er]; rfl
            cases er'
            have hz : Ieee.double.write (.number s' 0 i) = Ieee.double.word s' 0 := rfl
            rw [← hr, hz] at eR
            have h1 := word_mod64 s' 0 (by decide)
            have := read_double_log eR 0 (by rw [h1]; decide)
            omega
          · cases eD : D with
            | nan t f => rw [eD] at er; have := root_not_nan er; simp [Ieee.Datum.isNaN] at this
            | infinity t =>
              rw [eD] at er
              simp only [Ieee.Datum.root, if_neg hm] at er
              split at er <;> cases er
            | number t M P =>
              rw [eD] at er hr
              have hl := root_log er hm
              have h1 := (double_small t M P 1089 (by omega) (by omega)).1
              rw [hr] at h1
              have := read_double_log eR 1089 h1
              omega
end Go.Proofs.Ytdpghhkimnifjaa
