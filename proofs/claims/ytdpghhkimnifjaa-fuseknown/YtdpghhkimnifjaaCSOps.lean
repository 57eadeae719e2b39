import Derived.Test.YtdpghhkimnifjaaCPKp
namespace Go.Proofs.Ytdpghhkimnifjaa
open Go.RowKit
set_option maxRecDepth 100000

theorem word_ok (neg : Bool) (r : Nat) (h : r ≤ 2139095040) : ok (Ieee.single.word neg r) = true := by
  unfold ok Ieee.Format.word
  have e1 : Ieee.single.signWeight = 2147483648 := rfl
  rw [e1]
  apply decide_eq_true
  split <;> omega
theorem write_ok (d : Ieee.Datum) (h : d.isNaN = false) : ok (Ieee.single.write d) = true := by
  have e3 : Ieee.single.infRung = 2139095040 := rfl
  cases d with
  | number neg mag place =>
    show ok (Ieee.single.nearest neg mag place) = true
    unfold Ieee.Format.nearest
    split
    · exact word_ok _ _ (by omega)
    · exact word_ok _ _ (Nat.le_trans (Nat.min_le_right _ _) (Nat.le_of_eq e3))
  | infinity neg => exact word_ok _ _ (Nat.le_of_eq e3)
  | nan neg fr => simp [Ieee.Datum.isNaN] at h
theorem sum_not_nan {d e r : Ieee.Datum} (h : d.sum e = some r) : r.isNaN = false := by
  unfold Ieee.Datum.sum at h
  split at h <;> first | (cases h; done) | (split at h <;> first | (cases h; done) | (cases h; rfl)) | (cases h; rfl)
theorem product_not_nan {d e r : Ieee.Datum} (h : d.product e = some r) : r.isNaN = false := by
  unfold Ieee.Datum.product at h
  split at h <;> first | (cases h; done) | (split at h <;> first | (cases h; done) | (cases h; rfl)) | (cases h; rfl)
theorem quotient_not_nan {n : Nat} {d e r : Ieee.Datum} (h : d.quotient n e = some r) : r.isNaN = false := by
  unfold Ieee.Datum.quotient at h
  split at h <;> first | (cases h; done) | (split at h <;> first | (cases h; done) | (split at h <;> first | (cases h; done) | (cases h; rfl)) | (cases h; rfl)) | (cases h; rfl)
theorem add_ok {a b r : Nat} (h : Ieee.single.add a b = some r) : ok r = true := by
  unfold Ieee.Format.add at h
  cases e : (Ieee.single.read a).sum (Ieee.single.read b) with
  | none => rw [e] at h; cases h
  | some d => rw [e] at h; cases h; exact write_ok _ (sum_not_nan e)
theorem mul_ok {a b r : Nat} (h : Ieee.single.mul a b = some r) : ok r = true := by
  unfold Ieee.Format.mul at h
  cases e : (Ieee.single.read a).product (Ieee.single.read b) with
  | none => rw [e] at h; cases h
  | some d => rw [e] at h; cases h; exact write_ok _ (product_not_nan e)
theorem div_ok {a b r : Nat} (h : Ieee.single.div a b = some r) : ok r = true := by
  unfold Ieee.Format.div at h
  cases e : (Ieee.single.read a).quotient (Ieee.single.fractionBits + 2) (Ieee.single.read b) with
  | none => rw [e] at h; cases h
  | some d => rw [e] at h; cases h; exact write_ok _ (quotient_not_nan e)

def fsum (a b : Nat) : Nat := (Ieee.single.add a b).getD 2143289344
def fmul (a b : Nat) : Nat := (Ieee.single.mul a b).getD 2143289344
def fdiv (a b : Nat) : Nat := (Ieee.single.div a b).getD 2143289344

theorem sum_any (a b : Nat) (w : World) :
    Calls Try.prog 40 #[.int .u32 a, .int .u32 b] w fun e w' => e = .returned (.int .u32 (fsum a b)) ∧ ∃ m, w' = w.drewN m := by
  cases h : Ieee.single.add a b with
  | some r =>
    have e1 : fsum a b = r := by simp [fsum, h]
    have hl := fun (w : World) => run_float_arith (P := Try.prog) w .add 105 .f32 a b r h
    have e2 : wd r = r := by simp [wd, add_ok h]
    rw [e1]
    clear e1
    go_enter Try.func40, Try.ntmps40
    go_wp2_with (first
      | (go_at_call 62; refine (number_any _ _).mono ?_; rintro e wq ⟨rfl, hq⟩; subst wq)
      | (go_at_call 61; refine (sword_any _ _).mono ?_; rintro e wq ⟨rfl, hq⟩; subst wq))
    go_ret
    exact ⟨by rw [← e2]; rfl, 0, rfl⟩
  | none =>
    have e1 : fsum a b = 2143289344 := by simp [fsum, h]
    have hl := fun (w : World) => run_float_none (P := Try.prog) .add 105 .f32 a b w (Or.inl rfl) h
    have e2 := nanOf_wd a b w
    rw [e1]
    clear e1
    go_enter Try.func40, Try.ntmps40
    go_wp2_with (first
      | (go_at_call 62; refine (number_any _ _).mono ?_; rintro e wq ⟨rfl, hq⟩; subst wq)
      | (go_at_call 61; refine (sword_any _ _).mono ?_; rintro e wq ⟨rfl, hq⟩; subst wq))
    go_ret
    exact ⟨rfl, 1, rfl⟩
theorem prod_any (a b : Nat) (w : World) :
    Calls Try.prog 42 #[.int .u32 a, .int .u32 b] w fun e w' => e = .returned (.int .u32 (fmul a b)) ∧ ∃ m, w' = w.drewN m := by
  cases h : Ieee.single.mul a b with
  | some r =>
    have e1 : fmul a b = r := by simp [fmul, h]
    have hl := fun (w : World) => run_float_arith (P := Try.prog) w .mul 105 .f32 a b r h
    have e2 : wd r = r := by simp [wd, mul_ok h]
    rw [e1]
    clear e1
    go_enter Try.func42, Try.ntmps42
    go_wp2_with (first
      | (go_at_call 62; refine (number_any _ _).mono ?_; rintro e wq ⟨rfl, hq⟩; subst wq)
      | (go_at_call 61; refine (sword_any _ _).mono ?_; rintro e wq ⟨rfl, hq⟩; subst wq))
    go_ret
    exact ⟨by rw [← e2]; rfl, 0, rfl⟩
  | none =>
    have e1 : fmul a b = 2143289344 := by simp [fmul, h]
    have hl := fun (w : World) => run_float_none (P := Try.prog) .mul 105 .f32 a b w (Or.inr (Or.inr (Or.inl rfl))) h
    have e2 := nanOf_wd a b w
    rw [e1]
    clear e1
    go_enter Try.func42, Try.ntmps42
    go_wp2_with (first
      | (go_at_call 62; refine (number_any _ _).mono ?_; rintro e wq ⟨rfl, hq⟩; subst wq)
      | (go_at_call 61; refine (sword_any _ _).mono ?_; rintro e wq ⟨rfl, hq⟩; subst wq))
    go_ret
    exact ⟨rfl, 1, rfl⟩
theorem ratio_any (a b : Nat) (w : World) :
    Calls Try.prog 43 #[.int .u32 a, .int .u32 b] w fun e w' => e = .returned (.int .u32 (fdiv a b)) ∧ ∃ m, w' = w.drewN m := by
  cases h : Ieee.single.div a b with
  | some r =>
    have e1 : fdiv a b = r := by simp [fdiv, h]
    have hl := fun (w : World) => run_float_arith (P := Try.prog) w .quo 105 .f32 a b r h
    have e2 : wd r = r := by simp [wd, div_ok h]
    rw [e1]
    clear e1
    go_enter Try.func43, Try.ntmps43
    go_wp2_with (first
      | (go_at_call 62; refine (number_any _ _).mono ?_; rintro e wq ⟨rfl, hq⟩; subst wq)
      | (go_at_call 61; refine (sword_any _ _).mono ?_; rintro e wq ⟨rfl, hq⟩; subst wq))
    go_ret
    exact ⟨by rw [← e2]; rfl, 0, rfl⟩
  | none =>
    have e1 : fdiv a b = 2143289344 := by simp [fdiv, h]
    have hl := fun (w : World) => run_float_none (P := Try.prog) .quo 105 .f32 a b w (Or.inr (Or.inr (Or.inr rfl))) h
    have e2 := nanOf_wd a b w
    rw [e1]
    clear e1
    go_enter Try.func43, Try.ntmps43
    go_wp2_with (first
      | (go_at_call 62; refine (number_any _ _).mono ?_; rintro e wq ⟨rfl, hq⟩; subst wq)
      | (go_at_call 61; refine (sword_any _ _).mono ?_; rintro e wq ⟨rfl, hq⟩; subst wq))
    go_ret
    exact ⟨rfl, 1, rfl⟩
end Go.Proofs.Ytdpghhkimnifjaa
namespace Go.Proofs.Ytdpghhkimnifjaa
open Go.RowKit
set_option maxRecDepth 100000

def fstand (a b : Nat) : Nat := match Ieee.single.order a b with
  | some .lt => 2
  | some .eq => 3
  | some .gt => 4
  | none => 1
theorem stand_any (a b : Nat) (w : World) :
    Calls Try.prog 60 #[.int .u32 a, .int .u32 b] w fun e w' => e = .returned (.int .u8 (fstand a b)) ∧ w' = w := by
  have e0 : FloatKind.f32.format.order a b = Ieee.single.order a b := rfl
  unfold fstand
  cases h : Ieee.single.order a b with
  | none =>
    have h1 : (FloatKind.f32.format.order a b == some .lt) = false := by rw [e0, h]; rfl
    have h2 : (FloatKind.f32.format.order a b == some .eq) = false := by rw [e0, h]; rfl
    have h3 : (FloatKind.f32.format.order a b == some .gt) = false := by rw [e0, h]; rfl
    clear e0 h
    go_enter Try.func60, Try.ntmps60
    go_wp2_with (go_at_call 62; refine (number_any _ _).mono ?_; rintro e wq ⟨rfl, hq⟩; subst wq)
    go_ret
    exact ⟨rfl, rfl⟩
  | some o =>
    cases o with
    | lt =>
      have h1 : (FloatKind.f32.format.order a b == some .lt) = true := by rw [e0, h]; rfl
      clear e0 h
      go_enter Try.func60, Try.ntmps60
      go_wp2_with (go_at_call 62; refine (number_any _ _).mono ?_; rintro e wq ⟨rfl, hq⟩; subst wq)
      go_ret
      exact ⟨rfl, rfl⟩
    | eq =>
      have h1 : (FloatKind.f32.format.order a b == some .lt) = false := by rw [e0, h]; rfl
      have h2 : (FloatKind.f32.format.order a b == some .eq) = true := by rw [e0, h]; rfl
      clear e0 h
      go_enter Try.func60, Try.ntmps60
      go_wp2_with (go_at_call 62; refine (number_any _ _).mono ?_; rintro e wq ⟨rfl, hq⟩; subst wq)
      go_ret
      exact ⟨rfl, rfl⟩
    | gt =>
      have h1 : (FloatKind.f32.format.order a b == some .lt) = false := by rw [e0, h]; rfl
      have h2 : (FloatKind.f32.format.order a b == some .eq) = false := by rw [e0, h]; rfl
      have h3 : (FloatKind.f32.format.order a b == some .gt) = true := by rw [e0, h]; rfl
      clear e0 h
      go_enter Try.func60, Try.ntmps60
      go_wp2_with (go_at_call 62; refine (number_any _ _).mono ?_; rintro e wq ⟨rfl, hq⟩; subst wq)
      go_ret
      exact ⟨rfl, rfl⟩

/-- the next above -/
def fab (a : Nat) : Nat := if ok a = false then 2143289344 else if a % 2147483648 = 0 then 1 else if a = 2139095040 then 2139095040 else if 2147483648 ≤ a then a - 1 else a + 1
theorem fab_lt {a : Nat} (h : a < 4294967296) : fab a < 4294967296 := by
  unfold fab; split
  · omega
  · split
    · omega
    · split
      · omega
      · split <;> omega
def fbe (a : Nat) : Nat := if ok a = false then 2143289344 else tn (fab (tn a))
end Go.Proofs.Ytdpghhkimnifjaa
namespace Go.Proofs.Ytdpghhkimnifjaa
open Go.RowKit
set_option maxRecDepth 100000

def nanTo (k : FloatKind) (b : Nat) (w : World) : Nat := Question.cut (.nanConv k b) (w.tape w.drawn (.nanConv k b))
theorem run_conv_nan {P : Program} (src dst : TypeId) (s k : FloatKind) (b : Nat) (w : World) (hs : (P.underlying src).isSome = true) (hd : P.underlying dst = some (.float k)) (hne : s ≠ k) (h : (s.decode b).isNaN = true) :
    (convert src dst (.float s b)).run P w = .ok (.float k (nanTo k b w)) w.drew := by
  obtain ⟨u, hs'⟩ := Option.isSome_iff_exists.1 hs
  have hf : (Question.nanConv k b).forced = false := rfl
  cases hc : s.decode b with
  | number a c d => rw [hc] at h; simp [Ieee.Datum.isNaN] at h
  | infinity a => rw [hc] at h; simp [Ieee.Datum.isNaN] at h
  | nan a c => cases u <;> simp [convert, run_underlying hs', run_underlying hd, Conv.floatToFloat, hne, hc, nanTo, hf]

theorem nanTo32 (b : Nat) (w : World) : wd (nanTo .f32 b w) = 2143289344 := by
  have : ok (nanTo .f32 b w) = false := nan32_not _
  simp [wd, this]
def nan64 (t : Nat) : Nat := (t % 2) * 2 ^ 63 + 0x7ff0000000000000 + 1 + (t / 2) % (2 ^ 52 - 1)
theorem read_double (x : Nat) : Ieee.double.read x = if x % 9223372036854775808 < 4503599627370496 then .number (x / 9223372036854775808 % 2 == 1) (x % 9223372036854775808) (-1074)
    else if x % 9223372036854775808 < 9218868437227405312 then .number (x / 9223372036854775808 % 2 == 1) (4503599627370496 + x % 9223372036854775808 % 4503599627370496) (-1074 + (x % 9223372036854775808 / 4503599627370496 - 1 : Nat))
    else if x % 9223372036854775808 = 9218868437227405312 then .infinity (x / 9223372036854775808 % 2 == 1) else .nan (x / 9223372036854775808 % 2 == 1) (x % 9223372036854775808 - 9218868437227405312) := rfl
theorem nan_double (x : Nat) (h : 9218868437227405312 < x % 9223372036854775808) : (Ieee.double.read x).isNaN = true := by
  rw [read_double, if_neg (by omega), if_neg (by omega), if_neg (by omega)]; rfl
theorem nan64_nan (t : Nat) : (Ieee.double.read (nan64 t)).isNaN = true := by
  apply nan_double
  unfold nan64
  have : (t / 2) % (2 ^ 52 - 1) < 2 ^ 52 - 1 := Nat.mod_lt _ (by decide)
  generalize (t / 2) % (2 ^ 52 - 1) = u at this
  have : t % 2 = 0 ∨ t % 2 = 1 := by omega
  rcases this with h | h <;> rw [h] <;> omega
theorem nanOf64 (x y : Nat) (w : World) : (FloatKind.f64.decode (nanOf .f64 x y w)).isNaN = true := nan64_nan _
theorem nanTo64 (b : Nat) (w : World) : (FloatKind.f64.decode (nanTo .f64 b w)).isNaN = true := nan64_nan _
theorem word_ok64 (neg : Bool) (r : Nat) (h : r ≤ 9218868437227405312) : (Ieee.double.read (Ieee.double.word neg r)).isNaN = false := by
  have e1 : Ieee.double.signWeight = 9223372036854775808 := rfl
  have e2 : Ieee.double.word neg r % 9223372036854775808 = r := by
    unfold Ieee.Format.word; rw [e1]; split <;> omega
  rw [read_double, e2]
  split
  · rfl
  · split
    · rfl
    · rw [if_pos (by omega)]; rfl
theorem write_ok64 (d : Ieee.Datum) (h : d.isNaN = false) : (Ieee.double.read (Ieee.double.write d)).isNaN = false := by
  have e3 : Ieee.double.infRung = 9218868437227405312 := rfl
  cases d with
  | number neg mag place =>
    show (Ieee.double.read (Ieee.double.nearest neg mag place)).isNaN = false
    unfold Ieee.Format.nearest
    split
    · exact word_ok64 _ _ (by omega)
    · exact word_ok64 _ _ (Nat.le_trans (Nat.min_le_right _ _) (Nat.le_of_eq e3))
  | infinity neg => exact word_ok64 _ _ (Nat.le_of_eq e3)
  | nan neg fr => simp [Ieee.Datum.isNaN] at h
theorem sqrt_nan (x : Nat) (h : (Ieee.double.read x).isNaN = true) : Ieee.double.sqrt x = none := by
  unfold Ieee.Format.sqrt
  cases e : Ieee.double.read x with
  | number a b c => rw [e] at h; simp [Ieee.Datum.isNaN] at h
  | infinity a => rw [e] at h; simp [Ieee.Datum.isNaN] at h
  | nan a b => rfl

/-- a word made wide -/
def wide (a : Nat) : Nat := Ieee.double.write (Ieee.single.read a)
/-- 64 bits made narrow -/
def narrow (b : Nat) : Nat := Ieee.single.write (Ieee.double.read b)
/-- what is too great is told apart -/
def wfine (a : Nat) : Bool := match Ieee.single.read a with
  | .number .. => !(Ieee.double.read (wide a)).isInfinity
  | _ => true
def nfine (b : Nat) : Bool := match Ieee.double.read b with
  | .number .. => !(Ieee.single.read (narrow b)).isInfinity
  | _ => true
theorem wide_bits (a : Nat) (ho : ok a = true) (hf : wfine a = true) : floatToFloatBits .f32 a .f64 = some (wide a) := by
  have hn := nan_single a
  unfold floatToFloatBits
  rw [if_neg (by decide)]
  unfold wfine at hf
  unfold wide at hf ⊢
  show (match Ieee.single.read a with | .nan _ _ => none | .infinity s => some (Ieee.double.write (.infinity s)) | .number s m e => if (Ieee.double.read (Ieee.double.write (.number s m e))).isInfinity then none else some (Ieee.double.write (.number s m e))) = _
  cases e : Ieee.single.read a with
  | number s m p => rw [e] at hf; simp only [Bool.not_eq_true'] at hf; simp [hf]
  | infinity s => rfl
  | nan s f => rw [e, ho] at hn; simp [Ieee.Datum.isNaN] at hn
theorem narrow_bits (b : Nat) (ho : (Ieee.double.read b).isNaN = false) (hf : nfine b = true) : floatToFloatBits .f64 b .f32 = some (narrow b) := by
  unfold floatToFloatBits
  rw [if_neg (by decide)]
  unfold nfine at hf
  unfold narrow at hf ⊢
  show (match Ieee.double.read b with | .nan _ _ => none | .infinity s => some (Ieee.single.write (.infinity s)) | .number s m e => if (Ieee.single.read (Ieee.single.write (.number s m e))).isInfinity then none else some (Ieee.single.write (.number s m e))) = _
  cases e : Ieee.double.read b with
  | number s m p => rw [e] at hf; simp only [Bool.not_eq_true'] at hf; simp [hf]
  | infinity s => rfl
  | nan s f => rw [e] at ho; simp [Ieee.Datum.isNaN] at ho

/-- the root -/
def froot (a : Nat) : Nat := if ok a = true then (match Ieee.double.sqrt (wide a) with | none => 2143289344 | some r => narrow r) else 2143289344
def rfine (a : Nat) : Bool := wfine a && (match Ieee.double.sqrt (wide a) with | none => true | some r => nfine r)
theorem root_not_nan {n : Nat} {d r : Ieee.Datum} (h : d.root n = some r) : r.isNaN = false := by
  unfold Ieee.Datum.root at h
  split at h
  · cases h
  · split at h
    · cases h
    · cases h; rfl
  · split at h
    · cases h; rfl
    · split at h
      · cases h
      · cases h; rfl
end Go.Proofs.Ytdpghhkimnifjaa
