import Derived.Test.YtdpghhkimnifjaaCSOps
import Derived.Test.YtdpghhkimnifjaaSBound
namespace Go.Proofs.Ytdpghhkimnifjaa
open Go.RowKit
set_option maxRecDepth 100000

/-- a whole number as a word -/
def fof (n : Int) : Nat := Ieee.single.write (.number (n < 0) n.natAbs 0)
theorem of_any (n : Int) (w : World) :
    Calls Try.prog 36 #[.int .i32 n] w fun e w' => e = .returned (.int .u32 (fof n)) ∧ w' = w := by
  have e1 : floatOfInt .f32 n = fof n := rfl
  have e2 : wd (fof n) = fof n := by simp [wd, fof, write_ok (.number (n < 0) n.natAbs 0) rfl]
  go_enter Try.func36, Try.ntmps36
  go_wp2_with (first
    | (go_at_call 61; refine (sword_any _ _).mono ?_; (first | rw [e2] | rw [e1, e2]); rintro e wq ⟨rfl, hq⟩; subst wq))
  go_ret
  exact ⟨rfl, rfl⟩

theorem toward_nan (a : Nat) (w : World) (ho : ok a = false) :
    Calls Try.prog 37 #[.int .u32 a] w fun e w' => e = .returned (.int .i32 0) ∧ w' = w := by
  have h0 := order_self a
  rw [ho] at h0
  have h1 : (FloatKind.f32.format.order a a != some .eq) = true := by show (Ieee.single.order a a != some .eq) = true; rw [h0]; rfl
  go_enter Try.func37, Try.ntmps37
  go_wp2_with (go_at_call 62; refine (number_any _ _).mono ?_; rintro e wq ⟨rfl, hq⟩; subst wq)
  go_ret
  exact ⟨rfl, rfl⟩
theorem toward_max (a : Nat) (w : World) (ho : ok a = true) (hg : Ieee.single.order a 1325400064 = some .gt ∨ Ieee.single.order a 1325400064 = some .eq) :
    Calls Try.prog 37 #[.int .u32 a] w fun e w' => e = .returned (.int .i32 2147483647) ∧ w' = w := by
  have h0 := order_self a
  rw [ho] at h0
  have h1 : (FloatKind.f32.format.order a a != some .eq) = false := by show (Ieee.single.order a a != some .eq) = false; rw [h0]; rfl
  have h2 : (FloatKind.f32.format.order a 1325400064 == some .gt || FloatKind.f32.format.order a 1325400064 == some .eq) = true := by
    show (Ieee.single.order a 1325400064 == some .gt || Ieee.single.order a 1325400064 == some .eq) = true
    rcases hg with h | h <;> rw [h] <;> rfl
  go_enter Try.func37, Try.ntmps37
  go_wp2_with (go_at_call 62; refine (number_any _ _).mono ?_; rintro e wq ⟨rfl, hq⟩; subst wq)
  go_ret
  exact ⟨rfl, rfl⟩
theorem toward_min (a : Nat) (w : World) (ho : ok a = true) (hg : Ieee.single.order a 1325400064 = some .lt) (hl : Ieee.single.order a 3472883712 = some .lt ∨ Ieee.single.order a 3472883712 = some .eq) :
    Calls Try.prog 37 #[.int .u32 a] w fun e w' => e = .returned (.int .i32 (-2147483648)) ∧ w' = w := by
  have h0 := order_self a
  rw [ho] at h0
  have h1 : (FloatKind.f32.format.order a a != some .eq) = false := by show (Ieee.single.order a a != some .eq) = false; rw [h0]; rfl
  have h2 : (FloatKind.f32.format.order a 1325400064 == some .gt || FloatKind.f32.format.order a 1325400064 == some .eq) = false := by
    show (Ieee.single.order a 1325400064 == some .gt || Ieee.single.order a 1325400064 == some .eq) = false
    rw [hg]; rfl
  have h3 : (FloatKind.f32.format.order a 3472883712 == some .lt || FloatKind.f32.format.order a 3472883712 == some .eq) = true := by
    show (Ieee.single.order a 3472883712 == some .lt || Ieee.single.order a 3472883712 == some .eq) = true
    rcases hl with h | h <;> rw [h] <;> rfl
  go_enter Try.func37, Try.ntmps37
  go_wp2_with (go_at_call 62; refine (number_any _ _).mono ?_; rintro e wq ⟨rfl, hq⟩; subst wq)
  go_ret
  exact ⟨rfl, rfl⟩
theorem toward_int (a : Nat) (n : Int) (w : World) (ho : ok a = true) (hg : Ieee.single.order a 1325400064 = some .lt) (hl : Ieee.single.order a 3472883712 = some .gt) (hn : floatToIntVal .f32 a .i32 = some n) :
    Calls Try.prog 37 #[.int .u32 a] w fun e w' => e = .returned (.int .i32 n) ∧ w' = w := by
  have h0 := order_self a
  rw [ho] at h0
  have h1 : (FloatKind.f32.format.order a a != some .eq) = false := by show (Ieee.single.order a a != some .eq) = false; rw [h0]; rfl
  have h2 : (FloatKind.f32.format.order a 1325400064 == some .gt || FloatKind.f32.format.order a 1325400064 == some .eq) = false := by
    show (Ieee.single.order a 1325400064 == some .gt || Ieee.single.order a 1325400064 == some .eq) = false
    rw [hg]; rfl
  have h3 : (FloatKind.f32.format.order a 3472883712 == some .lt || FloatKind.f32.format.order a 3472883712 == some .eq) = false := by
    show (Ieee.single.order a 3472883712 == some .lt || Ieee.single.order a 3472883712 == some .eq) = false
    rw [hl]; rfl
  have hl := fun (w : World) => run_convert_float_int (P := Try.prog) w 105 21 .f32 .i32 a n (by kernel_rfl) (by kernel_rfl) hn
  go_enter Try.func37, Try.ntmps37
  go_wp2_with (go_at_call 62; refine (number_any _ _).mono ?_; rintro e wq ⟨rfl, hq⟩; subst wq)
  go_ret
  exact ⟨rfl, rfl⟩

/-! the few answers that are fixed -/
end Go.Proofs.Ytdpghhkimnifjaa
namespace Go.Proofs.Ytdpghhkimnifjaa
open Go.RowKit
set_option maxRecDepth 100000

theorem read_nan {a : Nat} (h : ok a = false) : (Ieee.single.read a).isNaN = true := by rw [nan_single, h]; rfl
theorem sum_nan_l {d e : Ieee.Datum} (h : d.isNaN = true) : d.sum e = none := by
  cases d <;> first | (simp [Ieee.Datum.isNaN] at h; done) | rfl
theorem sum_nan_r {d e : Ieee.Datum} (h : e.isNaN = true) : d.sum e = none := by
  cases e <;> first | (simp [Ieee.Datum.isNaN] at h; done) | (cases d <;> rfl)
theorem product_nan_l {d e : Ieee.Datum} (h : d.isNaN = true) : d.product e = none := by
  cases d <;> first | (simp [Ieee.Datum.isNaN] at h; done) | rfl
theorem product_nan_r {d e : Ieee.Datum} (h : e.isNaN = true) : d.product e = none := by
  cases e <;> first | (simp [Ieee.Datum.isNaN] at h; done) | (cases d <;> rfl)
theorem quotient_nan_l {n : Nat} {d e : Ieee.Datum} (h : d.isNaN = true) : d.quotient n e = none := by
  cases d <;> first | (simp [Ieee.Datum.isNaN] at h; done) | rfl
theorem quotient_nan_r {n : Nat} {d e : Ieee.Datum} (h : e.isNaN = true) : d.quotient n e = none := by
  cases e <;> first | (simp [Ieee.Datum.isNaN] at h; done) | (cases d <;> rfl)
theorem order_nan_l {d e : Ieee.Datum} (h : d.isNaN = true) : d.order e = none := by
  cases d <;> first | (simp [Ieee.Datum.isNaN] at h; done) | rfl
theorem order_nan_r {d e : Ieee.Datum} (h : e.isNaN = true) : d.order e = none := by
  cases e <;> first | (simp [Ieee.Datum.isNaN] at h; done) | (cases d <;> rfl)
theorem fsum_nan {a b : Nat} (h : ok a = false ∨ ok b = false) : fsum a b = 2143289344 := by
  unfold fsum Ieee.Format.add
  rcases h with h | h
  · rw [sum_nan_l (read_nan h)]; rfl
  · rw [sum_nan_r (read_nan h)]; rfl
theorem fmul_nan {a b : Nat} (h : ok a = false ∨ ok b = false) : fmul a b = 2143289344 := by
  unfold fmul Ieee.Format.mul
  rcases h with h | h
  · rw [product_nan_l (read_nan h)]; rfl
  · rw [product_nan_r (read_nan h)]; rfl
theorem fdiv_nan {a b : Nat} (h : ok a = false ∨ ok b = false) : fdiv a b = 2143289344 := by
  unfold fdiv Ieee.Format.div
  rcases h with h | h
  · rw [quotient_nan_l (read_nan h)]; rfl
  · rw [quotient_nan_r (read_nan h)]; rfl
theorem fstand_nan {a b : Nat} (h : ok a = false ∨ ok b = false) : fstand a b = 1 := by
  unfold fstand Ieee.Format.order
  rcases h with h | h
  · rw [order_nan_l (read_nan h)]
  · rw [order_nan_r (read_nan h)]
theorem froot_nan {a : Nat} (h : ok a = false) : froot a = 2143289344 := by simp [froot, h]
/-- the one NaN, or a number -/
def cln (a : Nat) : Prop := a = 2143289344 ∨ ok a = true
theorem fsum_cln (a b : Nat) : cln (fsum a b) := by
  unfold fsum
  cases h : Ieee.single.add a b with
  | none => exact Or.inl rfl
  | some r => exact Or.inr (add_ok h)
theorem fmul_cln (a b : Nat) : cln (fmul a b) := by
  unfold fmul
  cases h : Ieee.single.mul a b with
  | none => exact Or.inl rfl
  | some r => exact Or.inr (mul_ok h)
theorem fdiv_cln (a b : Nat) : cln (fdiv a b) := by
  unfold fdiv
  cases h : Ieee.single.div a b with
  | none => exact Or.inl rfl
  | some r => exact Or.inr (div_ok h)
theorem sqrt_ok64 {x r : Nat} (h : Ieee.double.sqrt x = some r) : (Ieee.double.read r).isNaN = false := by
  unfold Ieee.Format.sqrt at h
  cases e : (Ieee.double.read x).root (Ieee.double.fractionBits + 2) with
  | none => rw [e] at h; cases h
  | some d => rw [e] at h; cases h; exact write_ok64 _ (root_not_nan e)
theorem froot_cln (a : Nat) : cln (froot a) := by
  unfold froot
  split
  · cases h : Ieee.double.sqrt (wide a) with
    | none => exact Or.inl rfl
    | some r => exact Or.inr (write_ok _ (sqrt_ok64 h))
  · exact Or.inl rfl
theorem word_lt32 (neg : Bool) (r : Nat) (h : r ≤ 2139095040) : Ieee.single.word neg r < 4294967296 := by
  unfold Ieee.Format.word
  have e1 : Ieee.single.signWeight = 2147483648 := rfl
  rw [e1]; split <;> omega
theorem write_lt32 (d : Ieee.Datum) : Ieee.single.write d < 4294967296 := Ieee.single.write_lt d
theorem fsum_lt (a b : Nat) : fsum a b < 4294967296 := by
  unfold fsum
  cases h : Ieee.single.add a b with
  | none => decide
  | some r => exact Ieee.single.add_lt h
theorem fmul_lt (a b : Nat) : fmul a b < 4294967296 := by
  unfold fmul
  cases h : Ieee.single.mul a b with
  | none => decide
  | some r => exact Ieee.single.mul_lt h
theorem fdiv_lt (a b : Nat) : fdiv a b < 4294967296 := by
  unfold fdiv
  cases h : Ieee.single.div a b with
  | none => decide
  | some r => exact Ieee.single.div_lt h
theorem froot_lt (a : Nat) : froot a < 4294967296 := by
  unfold froot
  split
  · cases h : Ieee.double.sqrt (wide a) with
    | none => decide
    | some r => exact write_lt32 _
  · decide
theorem fab_cln {a : Nat} (h : a < 4294967296) : cln (fab a) := by
  unfold fab
  by_cases ho : ok a = false
  · rw [if_pos ho]; exact Or.inl rfl
  have ho' : ok a = true := by simpa using ho
  have hm : a % 2147483648 ≤ 2139095040 := by simpa [ok] using ho'
  rw [if_neg ho]
  refine Or.inr ?_
  have hk : ∀ x : Nat, x % 2147483648 ≤ 2139095040 → ok x = true := fun x hx => by simpa [ok] using hx
  split
  · decide
  · split
    · decide
    · split
      · apply hk; omega
      · apply hk; omega
theorem ok_tn (a : Nat) (h : a < 4294967296) : ok (tn a) = ok a := by
  unfold ok tn
  congr 1
  split <;> rw [show ∀ x y : Nat, x = y → (x ≤ 2139095040) = (y ≤ 2139095040) from fun _ _ e => by rw [e]] <;> omega
theorem fbe_cln {a : Nat} (h : a < 4294967296) : cln (fbe a) := by
  unfold fbe
  by_cases ho : ok a = false
  · rw [if_pos ho]; exact Or.inl rfl
  rw [if_neg ho]
  refine Or.inr ?_
  rw [ok_tn _ (fab_lt (tn_lt h))]
  rcases fab_cln (tn_lt h) with e | e
  · exfalso
    have ho' : ok a = true := by simpa using ho
    have ht := ok_tn a h
    rw [ho'] at ht
    unfold fab at e
    rw [ht] at e
    have hm : tn a % 2147483648 ≤ 2139095040 := by simpa [ok] using ht
    have := tn_lt h
    simp only [Bool.true_eq_false, if_false] at e
    split at e
    · omega
    · split at e
      · omega
      · split at e <;> omega
  · exact e
theorem fbe_lt {a : Nat} (h : a < 4294967296) : fbe a < 4294967296 := by
  unfold fbe; split
  · decide
  · exact tn_lt (fab_lt (tn_lt h))

theorem on_lt {a : Nat} (h : a < 4294967296) : on a < 4294967296 := by unfold on; split <;> omega
end Go.Proofs.Ytdpghhkimnifjaa
