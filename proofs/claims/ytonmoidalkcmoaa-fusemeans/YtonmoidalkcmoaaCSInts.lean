import Derived.Test.YtonmoidalkcmoaaCSConv
namespace Go.Proofs.Ytonmoidalkcmoaa
open Go.RowKit
set_option maxRecDepth 100000
/-- a whole number as a word -/
def fof (n : Int) : Nat := Ieee.single.write (.number (n < 0) n.natAbs 0)
theorem of_any (n : Int) (w : World) :
    Calls Try.prog 30 #[.int .i32 n] w fun e w' => e = .returned (.int .u32 (fof n)) ∧ w' = w := by
  have e1 : floatOfInt .f32 n = fof n := rfl
  have e2 : wd (fof n) = fof n := by simp [wd, fof, write_ok (.number (n < 0) n.natAbs 0) rfl]
  go_enter Try.func30, Try.ntmps30
  go_wp2_with (first
    | (go_at_call 55; refine (sword_any _ _).mono ?_; (first | rw [e2] | rw [e1, e2]); rintro e wq ⟨rfl, hq⟩; subst wq))
  go_ret
  exact ⟨rfl, rfl⟩

theorem toward_nan (a : Nat) (w : World) (ho : ok a = false) :
    Calls Try.prog 31 #[.int .u32 a] w fun e w' => e = .returned (.int .i32 0) ∧ w' = w := by
  have h0 := order_self a
  rw [ho] at h0
  have h1 : (FloatKind.f32.format.order a a != some .eq) = true := by show (Ieee.single.order a a != some .eq) = true; rw [h0]; rfl
  go_enter Try.func31, Try.ntmps31
  go_wp2_with (go_at_call 56; refine (number_any _ _).mono ?_; rintro e wq ⟨rfl, hq⟩; subst wq)
  go_ret
  exact ⟨rfl, rfl⟩
theorem toward_max (a : Nat) (w : World) (ho : ok a = true) (hg : Ieee.single.order a 1325400064 = some .gt ∨ Ieee.single.order a 1325400064 = some .eq) :
    Calls Try.prog 31 #[.int .u32 a] w fun e w' => e = .returned (.int .i32 2147483647) ∧ w' = w := by
  have h0 := order_self a
  rw [ho] at h0
  have h1 : (FloatKind.f32.format.order a a != some .eq) = false := by show (Ieee.single.order a a != some .eq) = false; rw [h0]; rfl
  have h2 : (FloatKind.f32.format.order a 1325400064 == some .gt || FloatKind.f32.format.order a 1325400064 == some .eq) = true := by
    show (Ieee.single.order a 1325400064 == some .gt || Ieee.single.order a 1325400064 == some .eq) = true
    rcases hg with h | h <;> rw [h] <;> rfl
  go_enter Try.func31, Try.ntmps31
  go_wp2_with (go_at_call 56; refine (number_any _ _).mono ?_; rintro e wq ⟨rfl, hq⟩; subst wq)
  go_ret
  exact ⟨rfl, rfl⟩
theorem toward_min (a : Nat) (w : World) (ho : ok a = true) (hg : Ieee.single.order a 1325400064 = some .lt) (hl : Ieee.single.order a 3472883712 = some .lt ∨ Ieee.single.order a 3472883712 = some .eq) :
    Calls Try.prog 31 #[.int .u32 a] w fun e w' => e = .returned (.int .i32 (-2147483648)) ∧ w' = w := by
  have h0 := order_self a
  rw [ho] at h0
  have h1 : (FloatKind.f32.format.order a a != some .eq) = false := by show (Ieee.single.order a a != some .eq) = false; rw [h0]; rfl
  have h2 : (FloatKind.f32.format.order a 1325400064 == some .gt || FloatKind.f32.format.order a 1325400064 == some .eq) = false := by
    show (Ieee.single.order a 1325400064 == some .gt || Ieee.single.order a 1325400064 == some .eq) = false
    rw [hg]; rfl
  have h3 : (FloatKind.f32.format.order a 3472883712 == some .lt || FloatKind.f32.format.order a 3472883712 == some .eq) = true := by
    show (Ieee.single.order a 3472883712 == some .lt || Ieee.single.order a 3472883712 == some .eq) = true
    rcases hl with h | h <;> rw [h] <;> rfl
  go_enter Try.func31, Try.ntmps31
  go_wp2_with (go_at_call 56; refine (number_any _ _).mono ?_; rintro e wq ⟨rfl, hq⟩; subst wq)
  go_ret
  exact ⟨rfl, rfl⟩
theorem toward_int (a : Nat) (n : Int) (w : World) (ho : ok a = true) (hg : Ieee.single.order a 1325400064 = some .lt) (hl : Ieee.single.order a 3472883712 = some .gt) (hn : floatToIntVal .f32 a .i32 = some n) :
    Calls Try.prog 31 #[.int .u32 a] w fun e w' => e = .returned (.int .i32 n) ∧ w' = w := by
  have h0 := order_self a
  rw [ho] at h0
  have h1 : (FloatKind.f32.format.order a a != some .eq) = false := by show (Ieee.single.order a a != some .eq) = false; rw [h0]; rfl
  have h2 : (FloatKind.f32.format.order a 1325400064 == some .gt || FloatKind.f32.format.order a 1325400064 == some .eq) = false := by
    show (Ieee.single.order a 1325400064 == some .gt || Ieee.single.order a 1325400064 == some .eq) = false
    rw [hg]; rfl
  have h3 : (FloatKind.f32.format.order a 3472883712 == some .lt || FloatKind.f32.format.order a 3472883712 == some .eq) = false := by
    show (Ieee.single.order a 3472883712 == some .lt || Ieee.single.order a 3472883712 == some .eq) = false
    rw [hl]; rfl
  have hl := fun (w : World) => run_convert_float_int (P := Try.prog) w 100 21 .f32 .i32 a n (by kernel_rfl) (by kernel_rfl) hn
  go_enter Try.func31, Try.ntmps31
  go_wp2_with (go_at_call 56; refine (number_any _ _).mono ?_; rintro e wq ⟨rfl, hq⟩; subst wq)
  go_ret
  exact ⟨rfl, rfl⟩

/-! the few answers that are fixed -/
theorem read_nan {a : Nat} (h : ok a = false) : (Ieee.single.read a).isNaN = true := by rw [nan_single, h]; rfl
theorem sum_nan_l {d e : Ieee.Datum} (h : d.isNaN = true) : d.sum e = none := by
  cases d <;> first | (simp [Ieee.Datum.isNaN] at h; done) | rfl
theorem sum_nan_r {d e : Ieee.Datum} (h : e.isNaN = true) : d.sum e = none := by
  cases e <;> first | (simp [Ieee.Datum.isNaN] at h; done) | (cases d <;> rfl)
theorem product_nan_l {d e : Ieee.Datum} (h : d.isNaN = true) : d.product e = none := by
  cases d <;> first | (simp [Ieee.Datum.isNaN] at h; done) | rfl
theorem product_nan_r {d e : Ieee.Datum} (h : e.isNaN = true) : d.product e = none := by
  cases e <;> first | (simp [Ieee.Datum.isNaN] at h; done) | (cases d <;> rfl)
theorem quotient_nan_l {n : Nat} {d e : Ieee.Datum} (h : d.isNaN = true) : d.quotient n e = none := by
  cases d <;> first | (simp [Ieee.Datum.isNaN] at h; done) | rfl
theorem quotient_nan_r {n : Nat} {d e : Ieee.Datum} (h : e.isNaN = true) : d.quotient n e = none := by
  cases e <;> first | (simp [Ieee.Datum.isNaN] at h; done) | (cases d <;> rfl)
theorem order_nan_l {d e : Ieee.Datum} (h : d.isNaN = true) : d.order e = none := by
  cases d <;> first | (simp [Ieee.Datum.isNaN] at h; done) | rfl
theorem order_nan_r {d e : Ieee.Datum} (h : e.isNaN = true) : d.order e = none := by
  cases e <;> first | (simp [Ieee.Datum.isNaN] at h; done) | (cases d <;> rfl)
theorem fsum_nan {a b : Nat} (h : ok a = false ∨ ok b = false) : fsum a b = 2143289344 := by
  unfold fsum Ieee.Format.add
  rcases h with h | h
  · rw [sum_nan_l (read_nan h)]; rfl
  · rw [sum_nan_r (read_nan h)]; rfl
theorem fmul_nan {a b : Nat} (h : ok a = false ∨ ok b = false) : fmul a b = 2143289344 := by
  unfold fmul Ieee.Format.mul
  rcases h with h | h
  · rw [product_nan_l (read_nan h)]; rfl
  · rw [product_nan_r (read_nan h)]; rfl
theorem fdiv_nan {a b : Nat} (h : ok a = false ∨ ok b = false) : fdiv a b = 2143289344 := by
  unfold fdiv Ieee.Format.div
  rcases h with h | h
  · rw [quotient_nan_l (read_nan h)]; rfl
  · rw [quotient_nan_r (read_nan h)]; rfl
theorem fstand_nan {a b : Nat} (h : ok a = false ∨ ok b = false) : fstand a b = 1 := by
  unfold fstand Ieee.Format.order
  rcases h with h | h
  · rw [order_nan_l (read_nan h)]
  · rw [order_nan_r (read_nan h)]
theorem froot_nan {a : Nat} (h : ok a = false) : froot a = 2143289344 := by simp [froot, h]
/-- the one NaN, or a number -/
def cln (a : Nat) : Prop := a = 2143289344 ∨ ok a = true
theorem fsum_cln (a b : Nat) : cln (fsum a b) := by
  unfold fsum
  cases h : Ieee.single.add a b with
  | none => exact Or.inl rfl
  | some r => exact Or.inr (add_ok h)
theorem fmul_cln (a b : Nat) : cln (fmul a b) := by
  unfold fmul
  cases h : Ieee.single.mul a b with
  | none => exact Or.inl rfl
  | some r => exact Or.inr (mul_ok h)
theorem fdiv_cln (a b : Nat) : cln (fdiv a b) := by
  unfold fdiv
  cases h : Ieee.single.div a b with
  | none => exact Or.inl rfl
  | some r => exact Or.inr (div_ok h)
theorem sqrt_ok64 {x r : Nat} (h : Ieee.double.sqrt x = some r) : (Ieee.double.read r).isNaN = false := by
  unfold Ieee.Format.sqrt at h
  cases e : (Ieee.double.read x).root (Ieee.double.fractionBits + 2) with
  | none => rw [e] at h; cases h
  | some d => rw [e] at h; cases h; exact write_ok64 _ (root_not_nan e)
theorem froot_cln (a : Nat) : cln (froot a) := by
  unfold froot
  split
  · cases h : Ieee.double.sqrt (wide a) with
    | none => exact Or.inl rfl
    | some r => exact Or.inr (write_ok _ (sqrt_ok64 h))
  · exact Or.inl rfl
theorem word_lt32 (neg : Bool) (r : Nat) (h : r ≤ 2139095040) : Ieee.single.word neg r < 4294967296 := by
  unfold Ieee.Format.word
  have e1 : Ieee.single.signWeight = 2147483648 := rfl
  rw [e1]; split <;> omega
theorem write_lt32 (d : Ieee.Datum) : Ieee.single.write d < 4294967296 := Ieee.single.write_lt d
theorem fsum_lt (a b : Nat) : fsum a b < 4294967296 := by
  unfold fsum
  cases h : Ieee.single.add a b with
  | none => decide
  | some r => exact Ieee.single.add_lt h
theorem fmul_lt (a b : Nat) : fmul a b < 4294967296 := by
  unfold fmul
  cases h : Ieee.single.mul a b with
  | none => decide
  | some r => exact Ieee.single.mul_lt h
theorem fdiv_lt (a b : Nat) : fdiv a b < 4294967296 := by
  unfold fdiv
  cases h : Ieee.single.div a b with
  | none => decide
  | some r => exact Ieee.single.div_lt h
theorem froot_lt (a : Nat) : froot a < 4294967296 := by
  unfold froot
  split
  · cases h : Ieee.double.sqrt (wide a) with
    | none => decide
    | some r => exact write_lt32 _
  · decide
theorem fab_cln {a : Nat} (h : a < 4294967296) : cln (fab a) := by
  unfold fab
  by_cases ho : ok a = false
  · rw [if_pos ho]; exact Or.inl rfl
  have ho' : ok a = true := by simpa using ho
  have hm : a % 2147483648 ≤ 2139095040 := by simpa [ok] using ho'
  rw [if_neg ho]
  refine Or.inr ?_
  have hk : ∀ x : Nat, x % 2147483648 ≤ 2139095040 → ok x = true := fun x hx => by simpa [ok] using hx
  split
  · decide
  · split
    · decide
    · split
      · apply hk; omega
      · apply hk; omega
theorem ok_tn (a : Nat) (h : a < 4294967296) : ok (tn a) = ok a := by
  unfold ok tn
  congr 1
  split <;> rw [show ∀ x y : Nat, x = y → (x ≤ 2139095040) = (y ≤ 2139095040) from fun _ _ e => by rw [e]] <;> omega
theorem fbe_cln {a : Nat} (h : a < 4294967296) : cln (fbe a) := by
  unfold fbe
  by_cases ho : ok a = false
  · rw [if_pos ho]; exact Or.inl rfl
  rw [if_neg ho]
  refine Or.inr ?_
  rw [ok_tn _ (fab_lt (tn_lt h))]
  rcases fab_cln (tn_lt h) with e | e
  · exfalso
    have ho' : ok a = true := by simpa using ho
    have ht := ok_tn a h
    rw [ho'] at ht
    unfold fab at e
    rw [ht] at e
    have hm : tn a % 2147483648 ≤ 2139095040 := by simpa [ok] using ht
    have := tn_lt h
    simp only [Bool.true_eq_false, if_false] at e
    split at e
    · omega
    · split at e
      · omega
      · split at e <;> omega
  · exact e
theorem fbe_lt {a : Nat} (h : a < 4294967296) : fbe a < 4294967296 := by
  unfold fbe; split
  · decide
  · exact tn_lt (fab_lt (tn_lt h))

theorem on_lt {a : Nat} (h : a < 4294967296) : on a < 4294967296 := by unfold on; split <;> omega
/-- a size, in steps of the least number -/
def val (r : Nat) : Nat := if r < 8388608 then r else (8388608 + r % 8388608) * 2 ^ (r / 8388608 - 1)
theorem val_succ (r : Nat) : val r < val (r + 1) := by
  unfold val
  by_cases h1 : r + 1 < 8388608
  · rw [if_pos (by omega), if_pos h1]; omega
  by_cases h2 : r < 8388608
  · have : r = 8388607 := by omega
    subst this
    decide
  rw [if_neg h2, if_neg h1]
  by_cases h3 : r % 8388608 + 1 < 8388608
  · rw [show (r + 1) / 8388608 = r / 8388608 by omega, show (r + 1) % 8388608 = r % 8388608 + 1 by omega]
    exact Nat.mul_lt_mul_of_pos_right (by omega) (Nat.two_pow_pos _)
  · rw [show (r + 1) / 8388608 = r / 8388608 + 1 by omega, show (r + 1) % 8388608 = 0 by omega]
    have hq : r / 8388608 + 1 - 1 = r / 8388608 - 1 + 1 := by omega
    rw [hq, Nat.pow_succ, Nat.mul_comm (2 ^ _) 2, ← Nat.mul_assoc]
    exact Nat.mul_lt_mul_of_pos_right (by omega) (Nat.two_pow_pos _)
theorem val_lt {r s : Nat} (h : r < s) : val r < val s := by
  obtain ⟨k, rfl⟩ : ∃ k, s = r + 1 + k := ⟨s - (r + 1), by omega⟩
  clear h
  induction k with
  | zero => exact val_succ r
  | succ k ih => exact Nat.lt_trans ih (val_succ _)
theorem val_lt_iff (r s : Nat) : val r < val s ↔ r < s := by
  refine ⟨fun h => ?_, val_lt⟩
  apply Nat.lt_of_not_le
  intro hge
  rcases Nat.lt_or_eq_of_le hge with h' | h'
  · have := val_lt h'; omega
  · subst h'; omega
theorem val_inj {r s : Nat} (h : val r = val s) : r = s := by
  rcases Nat.lt_trichotomy r s with h' | h' | h'
  · have := val_lt h'; omega
  · exact h'
  · have := val_lt h'; omega

/-- the place in the order -/
def key (a : Nat) : Int := if a < 2147483648 then (a : Int) else -((a % 2147483648 : Nat) : Int)
def sval (a : Nat) : Int := if a / 2147483648 % 2 == 1 then -((val (a % 2147483648) : Nat) : Int) else ((val (a % 2147483648) : Nat) : Int)
theorem cmp_iff {x y x' y' : Int} (h1 : x < y ↔ x' < y') (h2 : x = y ↔ x' = y') : compare x y = compare x' y' := by
  simp only [compare, compareOfLessAndEq]
  by_cases a : x < y
  · rw [if_pos a, if_pos (h1.1 a)]
  · rw [if_neg a, if_neg (fun h => a (h1.2 h))]
    by_cases b : x = y
    · rw [if_pos b, if_pos (h2.1 b)]
    · rw [if_neg b, if_neg (fun h => b (h2.2 h))]
theorem key_neg {a : Nat} (h : 2147483648 ≤ a) : key a = -((a % 2147483648 : Nat) : Int) := by unfold key; rw [if_neg (by omega)]
theorem key_pos {a : Nat} (h : a < 2147483648) : key a = (a : Int) := by unfold key; rw [if_pos h]
theorem sval_neg {a : Nat} (h : 2147483648 ≤ a) (h' : a < 4294967296) : sval a = -((val (a % 2147483648) : Nat) : Int) := by
  unfold sval; rw [show a / 2147483648 % 2 = 1 by omega]; rfl
theorem sval_pos {a : Nat} (h : a < 2147483648) : sval a = ((val (a % 2147483648) : Nat) : Int) := by
  unfold sval; rw [show a / 2147483648 % 2 = 0 by omega]; rfl
theorem sval_key (a b : Nat) (ha : a < 4294967296) (hb : b < 4294967296) : (sval a < sval b ↔ key a < key b) ∧ (sval a = sval b ↔ key a = key b) := by
  have m1 := val_lt_iff (a % 2147483648) (b % 2147483648)
  have m2 := val_lt_iff (b % 2147483648) (a % 2147483648)
  have m3 : val (a % 2147483648) = val (b % 2147483648) ↔ a % 2147483648 = b % 2147483648 := ⟨val_inj, fun h => by rw [h]⟩
  have z0 : val 0 = 0 := rfl
  have m4 := val_lt_iff 0 (a % 2147483648)
  have m5 := val_lt_iff 0 (b % 2147483648)
  rw [z0] at m4 m5
  by_cases h1 : 2147483648 ≤ a <;> by_cases h2 : 2147483648 ≤ b
  · rw [sval_neg h1 ha, sval_neg h2 hb, key_neg h1, key_neg h2]; omega
  · rw [sval_neg h1 ha, sval_pos (by omega), key_neg h1, key_pos (by omega)]; omega
  · rw [sval_pos (by omega), sval_neg h2 hb, key_pos (by omega), key_neg h2]; omega
  · rw [sval_pos (by omega), sval_pos (by omega), key_pos (by omega), key_pos (by omega)]; omega

/-- a finite word, as sign, mantissa and place -/
theorem read_fin (a : Nat) (h : a % 2147483648 < 2139095040) : ∃ m : Nat, ∃ k : Nat, Ieee.single.read a = .number (a / 2147483648 % 2 == 1) m (-149 + (k : Int)) ∧ m * 2 ^ k = val (a % 2147483648) ∧ m < 16777216 ∧ k ≤ 253 ∧ (m < 8388608 → k = 0) := by
  rw [read_single]
  unfold val
  split
  · exact ⟨a % 2147483648, 0, by simp, by simp, by omega, by omega, fun _ => rfl⟩
  · exact ⟨_, _, rfl, rfl, by omega, by omega, fun h => by omega⟩
theorem signed_mul (s : Bool) (m u k : Nat) : Ieee.signed s m u * (2 ^ k : Nat) = Ieee.signed s m (u + k) := by
  unfold Ieee.signed
  simp only [Nat.shiftLeft_eq, Nat.pow_add]
  cases s <;> simp [Int.natCast_mul, Int.neg_mul, Int.mul_assoc]
theorem signed_val (s : Bool) (m k : Nat) : Ieee.signed s m k = if s then -((m * 2 ^ k : Nat) : Int) else ((m * 2 ^ k : Nat) : Int) := by
  unfold Ieee.signed
  rw [Nat.shiftLeft_eq]
theorem order_fin (a b : Nat) (ha : a % 2147483648 < 2139095040) (hb : b % 2147483648 < 2139095040) : Ieee.single.order a b = some (compare (sval a) (sval b)) := by
  obtain ⟨m, k, e1, v1, -⟩ := read_fin a ha
  obtain ⟨n, l, e2, v2, -⟩ := read_fin b hb
  unfold Ieee.Format.order
  rw [e1, e2]
  simp only [Ieee.Datum.order]
  congr 1
  unfold sval
  rw [← v1, ← v2, ← signed_val, ← signed_val]
  generalize hq : min k l = q
  have h1 : (-149 + (k : Int) - min (-149 + (k : Int)) (-149 + (l : Int))).toNat = k - q := by omega
  have h2 : (-149 + (l : Int) - min (-149 + (k : Int)) (-149 + (l : Int))).toNat = l - q := by omega
  rw [h1, h2]
  have s1 := signed_mul (a / 2147483648 % 2 == 1) m (k - q) q
  have s2 := signed_mul (b / 2147483648 % 2 == 1) n (l - q) q
  rw [show k - q + q = k by omega] at s1
  rw [show l - q + q = l by omega] at s2
  rw [← s1, ← s2]
  have hp : (0 : Int) < (2 ^ q : Nat) := by have := Nat.two_pow_pos q; omega
  generalize ((2 ^ q : Nat) : Int) = c at hp
  refine cmp_iff ⟨fun h => Int.mul_lt_mul_of_pos_right h hp, fun h => Int.lt_of_mul_lt_mul_right h (Int.le_of_lt hp)⟩ ⟨fun h => by rw [h], fun h => Int.eq_of_mul_eq_mul_right (Int.ne_of_gt hp) h⟩
theorem order_key (a b : Nat) (ha : a < 4294967296) (hb : b < 4294967296) (oa : ok a = true) (ob : ok b = true) : Ieee.single.order a b = some (compare (key a) (key b)) := by
  have ha' : a % 2147483648 ≤ 2139095040 := by simpa [ok] using oa
  have hb' : b % 2147483648 ≤ 2139095040 := by simpa [ok] using ob
  have hinf : ∀ x : Nat, x % 2147483648 = 2139095040 → Ieee.single.read x = .infinity (x / 2147483648 % 2 == 1) := by
    intro x hx
    rw [read_single, if_neg (by omega), if_neg (by omega), if_pos hx]
  by_cases fa : a % 2147483648 < 2139095040 <;> by_cases fb : b % 2147483648 < 2139095040
  · rw [order_fin a b fa fb]
    have := sval_key a b ha hb
    rw [cmp_iff this.1 this.2]
  · obtain ⟨m, k, e1, -⟩ := read_fin a fa
    have e2 := hinf b (by omega)
    unfold Ieee.Format.order
    rw [e1, e2]
    simp only [Ieee.Datum.order]
    congr 1
    have : b = 2139095040 ∨ b = 4286578688 := by omega
    rcases this with rfl | rfl
    · have : key a < key 2139095040 := by unfold key; split <;> split <;> omega
      simp [compare, compareOfLessAndEq, this]
    · have : key 4286578688 < key a := by unfold key; split <;> split <;> omega
      rw [show (4286578688 / 2147483648 % 2 == 1) = true from rfl]
      simp only [if_true, compare, compareOfLessAndEq]
      rw [if_neg (by omega), if_neg (by omega)]
  · obtain ⟨m, k, e1, -⟩ := read_fin b fb
    have e2 := hinf a (by omega)
    unfold Ieee.Format.order
    rw [e1, e2]
    simp only [Ieee.Datum.order]
    congr 1
    have : a = 2139095040 ∨ a = 4286578688 := by omega
    rcases this with rfl | rfl
    · have : key b < key 2139095040 := by unfold key; split <;> split <;> omega
      rw [show (2139095040 / 2147483648 % 2 == 1) = false from rfl]
      simp only [Bool.false_eq_true, if_false, compare, compareOfLessAndEq]
      rw [if_neg (by omega), if_neg (by omega)]
    · have : key 4286578688 < key b := by unfold key; split <;> split <;> omega
      rw [show (4286578688 / 2147483648 % 2 == 1) = true from rfl]
      simp only [if_true, compare, compareOfLessAndEq]
      rw [if_pos this]
  · have e1 := hinf a (by omega)
    have e2 := hinf b (by omega)
    unfold Ieee.Format.order
    rw [e1, e2]
    have h1 : a = 2139095040 ∨ a = 4286578688 := by omega
    have h2 : b = 2139095040 ∨ b = 4286578688 := by omega
    rcases h1 with rfl | rfl <;> rcases h2 with rfl | rfl <;> decide +kernel
theorem fstand_key (a b : Nat) (ha : a < 4294967296) (hb : b < 4294967296) (oa : ok a = true) (ob : ok b = true) : fstand a b = if key a < key b then 2 else if key a = key b then 3 else 4 := by
  unfold fstand
  rw [order_key a b ha hb oa ob]
  simp only [compare, compareOfLessAndEq]
  by_cases h1 : key a < key b
  · rw [if_pos h1, if_pos h1]
  · rw [if_neg h1, if_neg h1]
    by_cases h2 : key a = key b
    · rw [if_pos h2, if_pos h2]
    · rw [if_neg h2, if_neg h2]
theorem ok_mod {a : Nat} (h : ok a = true) : a % 2147483648 ≤ 2139095040 := by simpa [ok] using h
theorem mod_ok {a : Nat} (h : a % 2147483648 ≤ 2139095040) : ok a = true := by simpa [ok] using h
theorem tn_key {a : Nat} (h : a < 4294967296) : key (tn a) = - key a := by
  unfold tn
  split
  · rename_i h'
    rw [key_neg (by omega), key_pos h']; omega
  · rename_i h'
    rw [key_pos (by omega), key_neg (by omega)]; omega
theorem key_inj {a b : Nat} (ha : a < 4294967296) (hb : b < 4294967296) (h : key a = key b) : a = b ∨ a % 2147483648 = 0 ∧ b % 2147483648 = 0 := by
  by_cases h1 : 2147483648 ≤ a <;> by_cases h2 : 2147483648 ≤ b
  · rw [key_neg h1, key_neg h2] at h; omega
  · rw [key_neg h1, key_pos (by omega)] at h; omega
  · rw [key_pos (by omega), key_neg h2] at h; omega
  · rw [key_pos (by omega), key_pos (by omega)] at h; omega
theorem fab_key {a : Nat} (ha : a < 4294967296) (oa : ok a = true) (hi : a ≠ 2139095040) : ok (fab a) = true ∧ key (fab a) = key a + 1 := by
  have hm := ok_mod oa
  unfold fab
  rw [if_neg (by simp [oa])]
  by_cases hz : a % 2147483648 = 0
  · rw [if_pos hz]
    have : a = 0 ∨ a = 2147483648 := by omega
    rcases this with rfl | rfl <;> decide +kernel
  rw [if_neg hz, if_neg hi]
  by_cases hs : 2147483648 ≤ a
  · rw [if_pos hs]
    refine ⟨mod_ok (by omega), ?_⟩
    rw [key_neg hs, key_neg (by omega)]; omega
  · rw [if_neg hs]
    refine ⟨mod_ok (by omega), ?_⟩
    rw [key_pos (by omega), key_pos (by omega)]; omega
theorem fbe_key {a : Nat} (ha : a < 4294967296) (oa : ok a = true) (hi : a ≠ 4286578688) : ok (fbe a) = true ∧ key (fbe a) = key a - 1 := by
  unfold fbe
  rw [if_neg (by simp [oa])]
  have h1 := tn_lt ha
  have ot : ok (tn a) = true := by rw [ok_tn a ha, oa]
  have hi' : tn a ≠ 2139095040 := by unfold tn; split <;> omega
  obtain ⟨o2, k2⟩ := fab_key h1 ot hi'
  have h2 := fab_lt h1
  refine ⟨by rw [ok_tn _ h2, o2], ?_⟩
  rw [tn_key h2, k2, tn_key ha]; omega
theorem key_bound {a : Nat} (ha : a < 4294967296) (oa : ok a = true) : -2139095040 ≤ key a ∧ key a ≤ 2139095040 := by
  have := ok_mod oa
  by_cases h : 2147483648 ≤ a
  · rw [key_neg h]; omega
  · rw [key_pos (by omega)]; omega

end Go.Proofs.Ytonmoidalkcmoaa
