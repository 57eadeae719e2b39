import Derived.Test.YtjggbdlmghembaaGreatCPKp
namespace Go.Proofs.YtjggbdlmghembaaGreat
open Go.RowKit
set_option maxRecDepth 100000

def nanTo (k : FloatKind) (b : Nat) (w : World) : Nat := Question.cut (.nanConv k b) (w.tape w.drawn (.nanConv k b))
theorem run_conv_nan {P : Program} (src dst : TypeId) (s k : FloatKind) (b : Nat) (w : World) (hs : (P.underlying src).isSome = true) (hd : P.underlying dst = some (.float k)) (hne : s ≠ k) (h : (s.decode b).isNaN = true) :
    (convert src dst (.float s b)).run P w = .ok (.float k (nanTo k b w)) w.drew := by
  obtain ⟨u, hs'⟩ := Option.isSome_iff_exists.1 hs
  have hf : (Question.nanConv k b).forced = false := rfl
  cases hc : s.decode b with
  | number a c d => rw [hc] at h; simp [Ieee.Datum.isNaN] at h
  | infinity a => rw [hc] at h; simp [Ieee.Datum.isNaN] at h
  | nan a c => cases u <;> simp [convert, run_underlying hs', run_underlying hd, Conv.floatToFloat, hne, hc, nanTo, hf]

theorem nanTo32 (b : Nat) (w : World) : wd (nanTo .f32 b w) = 2143289344 := by
  have : ok (nanTo .f32 b w) = false := nan32_not _
  simp [wd, this]
def nan64 (t : Nat) : Nat := (t % 2) * 2 ^ 63 + 0x7ff0000000000000 + 1 + (t / 2) % (2 ^ 52 - 1)
theorem read_double (x : Nat) : Ieee.double.read x = if x % 9223372036854775808 < 4503599627370496 then .number (x / 9223372036854775808 % 2 == 1) (x % 9223372036854775808) (-1074)
    else if x % 9223372036854775808 < 9218868437227405312 then .number (x / 9223372036854775808 % 2 == 1) (4503599627370496 + x % 9223372036854775808 % 4503599627370496) (-1074 + (x % 9223372036854775808 / 4503599627370496 - 1 : Nat))
    else if x % 9223372036854775808 = 9218868437227405312 then .infinity (x / 9223372036854775808 % 2 == 1) else .nan (x / 9223372036854775808 % 2 == 1) (x % 9223372036854775808 - 9218868437227405312) := rfl
theorem nan_double (x : Nat) (h : 9218868437227405312 < x % 9223372036854775808) : (Ieee.double.read x).isNaN = true := by
  rw [read_double, if_neg (by omega), if_neg (by omega), if_neg (by omega)]; rfl
theorem nan64_nan (t : Nat) : (Ieee.double.read (nan64 t)).isNaN = true := by
  apply nan_double
  unfold nan64
  have : (t / 2) % (2 ^ 52 - 1) < 2 ^ 52 - 1 := Nat.mod_lt _ (by decide)
  generalize (t / 2) % (2 ^ 52 - 1) = u at this
  have : t % 2 = 0 ∨ t % 2 = 1 := by omega
  rcases this with h | h <;> rw [h] <;> omega
theorem nanOf64 (x y : Nat) (w : World) : (FloatKind.f64.decode (nanOf .f64 x y w)).isNaN = true := nan64_nan _
theorem nanTo64 (b : Nat) (w : World) : (FloatKind.f64.decode (nanTo .f64 b w)).isNaN = true := nan64_nan _
theorem word_ok64 (neg : Bool) (r : Nat) (h : r ≤ 9218868437227405312) : (Ieee.double.read (Ieee.double.word neg r)).isNaN = false := by
  have e1 : Ieee.double.signWeight = 9223372036854775808 := rfl
  have e2 : Ieee.double.word neg r % 9223372036854775808 = r := by
    unfold Ieee.Format.word; rw [e1]; split <;> omega
  rw [read_double, e2]
  split
  · rfl
  · split
    · rfl
    · rw [if_pos (by omega)]; rfl
theorem write_ok64 (d : Ieee.Datum) (h : d.isNaN = false) : (Ieee.double.read (Ieee.double.write d)).isNaN = false := by
  have e3 : Ieee.double.infRung = 9218868437227405312 := rfl
  cases d with
  | number neg mag place =>
    show (Ieee.double.read (Ieee.double.nearest neg mag place)).isNaN = false
    unfold Ieee.Format.nearest
    split
    · exact word_ok64 _ _ (by omega)
    · exact word_ok64 _ _ (Nat.le_trans (Nat.min_le_right _ _) (Nat.le_of_eq e3))
  | infinity neg => exact word_ok64 _ _ (Nat.le_of_eq e3)
  | nan neg fr => simp [Ieee.Datum.isNaN] at h
theorem sqrt_nan (x : Nat) (h : (Ieee.double.read x).isNaN = true) : Ieee.double.sqrt x = none := by
  unfold Ieee.Format.sqrt
  cases e : Ieee.double.read x with
  | number a b c => rw [e] at h; simp [Ieee.Datum.isNaN] at h
  | infinity a => rw [e] at h; simp [Ieee.Datum.isNaN] at h
  | nan a b => rfl

/-- a word made wide -/
def wide (a : Nat) : Nat := Ieee.double.write (Ieee.single.read a)
/-- 64 bits made narrow -/
def narrow (b : Nat) : Nat := Ieee.single.write (Ieee.double.read b)
/-- what is too great is told apart -/
def wfine (a : Nat) : Bool := match Ieee.single.read a with
  | .number .. => !(Ieee.double.read (wide a)).isInfinity
  | _ => true
def nfine (b : Nat) : Bool := match Ieee.double.read b with
  | .number .. => !(Ieee.single.read (narrow b)).isInfinity
  | _ => true
theorem wide_bits (a : Nat) (ho : ok a = true) (hf : wfine a = true) : floatToFloatBits .f32 a .f64 = some (wide a) := by
  have hn := nan_single a
  unfold floatToFloatBits
  rw [if_neg (by decide)]
  unfold wfine at hf
  unfold wide at hf ⊢
  show (match Ieee.single.read a with | .nan _ _ => none | .infinity s => some (Ieee.double.write (.infinity s)) | .number s m e => if (Ieee.double.read (Ieee.double.write (.number s m e))).isInfinity then none else some (Ieee.double.write (.number s m e))) = _
  cases e : Ieee.single.read a with
  | number s m p => rw [e] at hf; simp only [Bool.not_eq_true'] at hf; simp [hf]
  | infinity s => rfl
  | nan s f => rw [e, ho] at hn; simp [Ieee.Datum.isNaN] at hn
theorem narrow_bits (b : Nat) (ho : (Ieee.double.read b).isNaN = false) (hf : nfine b = true) : floatToFloatBits .f64 b .f32 = some (narrow b) := by
  unfold floatToFloatBits
  rw [if_neg (by decide)]
  unfold nfine at hf
  unfold narrow at hf ⊢
  show (match Ieee.double.read b with | .nan _ _ => none | .infinity s => some (Ieee.single.write (.infinity s)) | .number s m e => if (Ieee.single.read (Ieee.single.write (.number s m e))).isInfinity then none else some (Ieee.single.write (.number s m e))) = _
  cases e : Ieee.double.read b with
  | number s m p => rw [e] at hf; simp only [Bool.not_eq_true'] at hf; simp [hf]
  | infinity s => rfl
  | nan s f => rw [e] at ho; simp [Ieee.Datum.isNaN] at ho

/-- the root -/
def froot (a : Nat) : Nat := if ok a = true then (match Ieee.double.sqrt (wide a) with | none => 2143289344 | some r => narrow r) else 2143289344
def rfine (a : Nat) : Bool := wfine a && (match Ieee.double.sqrt (wide a) with | none => true | some r => nfine r)
theorem root_not_nan {n : Nat} {d r : Ieee.Datum} (h : d.root n = some r) : r.isNaN = false := by
  unfold Ieee.Datum.root at h
  split at h
  · cases h
  · split at h
    · cases h
    · cases h; rfl
  · split at h
    · cases h; rfl
    · split at h
      · cases h
      · cases h; rfl
end Go.Proofs.YtjggbdlmghembaaGreat
namespace Go.Proofs.YtjggbdlmghembaaGreat
open Go.RowKit
set_option maxRecDepth 100000

/-- a whole number as a word -/
def fof (n : Int) : Nat := Ieee.single.write (.number (n < 0) n.natAbs 0)
theorem of_any (n : Int) (w : World) :
    Calls Tryz.prog 59 #[.int .i32 n] w fun e w' => e = .returned (.int .u32 (fof n)) ∧ w' = w := by
  have e1 : floatOfInt .f32 n = fof n := rfl
  have e2 : wd (fof n) = fof n := by simp [wd, fof, write_ok (.number (n < 0) n.natAbs 0) rfl]
  go_enter Tryz.func59, Tryz.ntmps59
  go_wp2_with (first
    | (go_at_call 82; refine (sword_any _ _).mono ?_; (first | rw [e2] | rw [e1, e2]); rintro e wq ⟨rfl, hq⟩; subst wq))
  go_ret
  exact ⟨rfl, rfl⟩

theorem toward_nan (a : Nat) (w : World) (ho : ok a = false) :
    Calls Tryz.prog 60 #[.int .u32 a] w fun e w' => e = .returned (.int .i32 0) ∧ w' = w := by
  have h0 := order_self a
  rw [ho] at h0
  have h1 : (FloatKind.f32.format.order a a != some .eq) = true := by show (Ieee.single.order a a != some .eq) = true; rw [h0]; rfl
  go_enter Tryz.func60, Tryz.ntmps60
  go_wp2_with (go_at_call 81; refine (number_any _ _).mono ?_; rintro e wq ⟨rfl, hq⟩; subst wq)
  go_ret
  exact ⟨rfl, rfl⟩
theorem toward_max (a : Nat) (w : World) (ho : ok a = true) (hg : Ieee.single.order a 1325400064 = some .gt ∨ Ieee.single.order a 1325400064 = some .eq) :
    Calls Tryz.prog 60 #[.int .u32 a] w fun e w' => e = .returned (.int .i32 2147483647) ∧ w' = w := by
  have h0 := order_self a
  rw [ho] at h0
  have h1 : (FloatKind.f32.format.order a a != some .eq) = false := by show (Ieee.single.order a a != some .eq) = false; rw [h0]; rfl
  have h2 : (FloatKind.f32.format.order a 1325400064 == some .gt || FloatKind.f32.format.order a 1325400064 == some .eq) = true := by
    show (Ieee.single.order a 1325400064 == some .gt || Ieee.single.order a 1325400064 == some .eq) = true
    rcases hg with h | h <;> rw [h] <;> rfl
  go_enter Tryz.func60, Tryz.ntmps60
  go_wp2_with (go_at_call 81; refine (number_any _ _).mono ?_; rintro e wq ⟨rfl, hq⟩; subst wq)
  go_ret
  exact ⟨rfl, rfl⟩
theorem toward_min (a : Nat) (w : World) (ho : ok a = true) (hg : Ieee.single.order a 1325400064 = some .lt) (hl : Ieee.single.order a 3472883712 = some .lt ∨ Ieee.single.order a 3472883712 = some .eq) :
    Calls Tryz.prog 60 #[.int .u32 a] w fun e w' => e = .returned (.int .i32 (-2147483648)) ∧ w' = w := by
  have h0 := order_self a
  rw [ho] at h0
  have h1 : (FloatKind.f32.format.order a a != some .eq) = false := by show (Ieee.single.order a a != some .eq) = false; rw [h0]; rfl
  have h2 : (FloatKind.f32.format.order a 1325400064 == some .gt || FloatKind.f32.format.order a 1325400064 == some .eq) = false := by
    show (Ieee.single.order a 1325400064 == some .gt || Ieee.single.order a 1325400064 == some .eq) = false
    rw [hg]; rfl
  have h3 : (FloatKind.f32.format.order a 3472883712 == some .lt || FloatKind.f32.format.order a 3472883712 == some .eq) = true := by
    show (Ieee.single.order a 3472883712 == some .lt || Ieee.single.order a 3472883712 == some .eq) = true
    rcases hl with h | h <;> rw [h] <;> rfl
  go_enter Tryz.func60, Tryz.ntmps60
  go_wp2_with (go_at_call 81; refine (number_any _ _).mono ?_; rintro e wq ⟨rfl, hq⟩; subst wq)
  go_ret
  exact ⟨rfl, rfl⟩
theorem toward_int (a : Nat) (n : Int) (w : World) (ho : ok a = true) (hg : Ieee.single.order a 1325400064 = some .lt) (hl : Ieee.single.order a 3472883712 = some .gt) (hn : floatToIntVal .f32 a .i32 = some n) :
    Calls Tryz.prog 60 #[.int .u32 a] w fun e w' => e = .returned (.int .i32 n) ∧ w' = w := by
  have h0 := order_self a
  rw [ho] at h0
  have h1 : (FloatKind.f32.format.order a a != some .eq) = false := by show (Ieee.single.order a a != some .eq) = false; rw [h0]; rfl
  have h2 : (FloatKind.f32.format.order a 1325400064 == some .gt || FloatKind.f32.format.order a 1325400064 == some .eq) = false := by
    show (Ieee.single.order a 1325400064 == some .gt || Ieee.single.order a 1325400064 == some .eq) = false
    rw [hg]; rfl
  have h3 : (FloatKind.f32.format.order a 3472883712 == some .lt || FloatKind.f32.format.order a 3472883712 == some .eq) = false := by
    show (Ieee.single.order a 3472883712 == some .lt || Ieee.single.order a 3472883712 == some .eq) = false
    rw [hl]; rfl
  have hl := fun (w : World) => run_convert_float_int (P := Tryz.prog) w 112 21 .f32 .i32 a n (by kernel_rfl) (by kernel_rfl) hn
  go_enter Tryz.func60, Tryz.ntmps60
  go_wp2_with (go_at_call 81; refine (number_any _ _).mono ?_; rintro e wq ⟨rfl, hq⟩; subst wq)
  go_ret
  exact ⟨rfl, rfl⟩

/-! the few answers that are fixed -/
end Go.Proofs.YtjggbdlmghembaaGreat
namespace Go.Proofs.YtjggbdlmghembaaGreat
open Go.RowKit
set_option maxRecDepth 100000

theorem cut_le (neg : Bool) (n drop : Nat) : Ieee.Toward.even.cut neg n drop ≤ n / 2 ^ drop + 1 := by
  unfold Ieee.Toward.cut
  dsimp only
  have hb : ∀ b : Bool, b.toNat ≤ 1 := by intro b; cases b <;> decide
  refine Nat.add_le_add ?_ (hb _)
  rw [Nat.shiftLeft_eq, Nat.one_mul]
  by_cases h : drop ≤ n.log2 + 2
  · rw [Nat.min_eq_left h]; exact Nat.le_refl _
  · rw [Nat.min_eq_right (by omega)]
    have : n < 2 ^ (n.log2 + 2) := Nat.lt_of_lt_of_le Nat.lt_log2_self (Nat.pow_le_pow_right (by decide) (by omega))
    rw [Nat.div_eq_of_lt this]; exact Nat.zero_le _
theorem nearest_le (f : Ieee.Format) (neg : Bool) (mag : Nat) (place : Int) (K : Nat) (h : place + mag.log2 - f.fractionBits - f.leastPlace ≤ K) :
    ∃ rung, f.nearest neg mag place = f.word neg (min rung f.infRung) ∧ rung ≤ (K + 2) * f.binade := by
  unfold Ieee.Format.nearest
  by_cases hm : mag = 0
  · exact ⟨0, by simp [hm], Nat.zero_le _⟩
  rw [if_neg hm]
  refine ⟨_, rfl, ?_⟩
  generalize hl : max (place + mag.log2 - f.fractionBits) f.leastPlace = last
  have hlt : mag < 2 ^ (mag.log2 + 1) := Nat.lt_log2_self
  generalize mag.log2 = L at h hl hlt
  have h1 : (last - f.leastPlace).toNat ≤ K := by omega
  have h2 : Ieee.Toward.even.cut neg (mag <<< (place - last).toNat) (last - place).toNat ≤ 2 * f.binade := by
    refine Nat.le_trans (cut_le _ _ _) ?_
    refine Nat.succ_le_of_lt ?_
    rw [Nat.shiftLeft_eq]
    have hbin : 2 * f.binade = 2 ^ (f.fractionBits + 1) := by unfold Ieee.Format.binade; rw [Nat.pow_succ, Nat.mul_comm]
    rw [hbin]
    rw [Nat.div_lt_iff_lt_mul (Nat.two_pow_pos _), ← Nat.pow_add]
    refine Nat.lt_of_lt_of_le (Nat.mul_lt_mul_of_pos_right hlt (Nat.two_pow_pos _)) ?_
    rw [← Nat.pow_add]
    exact Nat.pow_le_pow_right (by decide) (by omega)
  calc _ ≤ K * f.binade + 2 * f.binade := Nat.add_le_add (Nat.mul_le_mul_right _ h1) h2
    _ = (K + 2) * f.binade := by rw [Nat.add_mul]

theorem word_mod (neg : Bool) (r : Nat) (h : r < 2147483648) : Ieee.single.word neg r % 2147483648 = r := by
  unfold Ieee.Format.word
  have e1 : Ieee.single.signWeight = 2147483648 := rfl
  rw [e1]; split <;> omega
theorem word_mod64 (neg : Bool) (r : Nat) (h : r < 9223372036854775808) : Ieee.double.word neg r % 9223372036854775808 = r := by
  unfold Ieee.Format.word
  have e1 : Ieee.double.signWeight = 9223372036854775808 := rfl
  rw [e1]; split <;> omega
theorem inf_single (x : Nat) (h : x % 2147483648 < 2139095040) : (Ieee.single.read x).isInfinity = false := by
  rw [read_single]; split
  · rfl
  · rfl
theorem inf_double (x : Nat) (h : x % 9223372036854775808 < 9218868437227405312) : (Ieee.double.read x).isInfinity = false := by
  rw [read_double]; split
  · rfl
  · rfl
theorem log_lt {n k : Nat} (hk : 0 < k) (h : n < 2 ^ k) : n.log2 < k := by
  by_cases h0 : n = 0
  · subst h0; simpa using hk
  · exact (Nat.log2_lt h0).2 h
theorem read_single_log {x : Nat} {s : Bool} {m : Nat} {p : Int} (h : Ieee.single.read x = .number s m p) (K : Nat) (hx : x % 2147483648 ≤ (K + 2) * 8388608) : m < 16777216 ∧ p + m.log2 ≤ K - 125 ∧ -149 ≤ p := by
  rw [read_single] at h
  split at h
  · cases h
    have := log_lt (n := x % 2147483648) (k := 23) (by decide) (by omega)
    omega
  · split at h
    · cases h
      have := log_lt (n := 8388608 + x % 2147483648 % 8388608) (k := 24) (by decide) (by omega)
      omega
    · split at h <;> cases h
theorem read_double_log {x : Nat} {s : Bool} {m : Nat} {p : Int} (h : Ieee.double.read x = .number s m p) (K : Nat) (hx : x % 9223372036854775808 ≤ (K + 2) * 4503599627370496) : m < 9007199254740992 ∧ p + m.log2 ≤ K - 1021 ∧ -1074 ≤ p := by
  rw [read_double] at h
  split at h
  · cases h
    have := log_lt (n := x % 9223372036854775808) (k := 52) (by decide) (by omega)
    omega
  · split at h
    · cases h
      have := log_lt (n := 4503599627370496 + x % 9223372036854775808 % 4503599627370496) (k := 53) (by decide) (by omega)
      omega
    · split at h <;> cases h

theorem double_small (neg : Bool) (mag : Nat) (place : Int) (K : Nat) (hK : K ≤ 2000) (h : place + mag.log2 ≤ K - 1022) :
    (Ieee.double.write (.number neg mag place)) % 9223372036854775808 ≤ (K + 2) * 4503599627370496 ∧ (Ieee.double.read (Ieee.double.write (.number neg mag place))).isInfinity = false := by
  obtain ⟨rung, h1, h2⟩ := nearest_le Ieee.double neg mag place K (by
    have e1 : Ieee.double.leastPlace = -1074 := rfl
    have e2 : (Ieee.double.fractionBits : Int) = 52 := rfl
    rw [e1, e2]; omega)
  have e3 : Ieee.double.infRung = 9218868437227405312 := rfl
  have e4 : Ieee.double.binade = 4503599627370496 := rfl
  rw [e4] at h2
  rw [e3] at h1
  have hlt : rung < 9218868437227405312 := by omega
  rw [Nat.min_eq_left (Nat.le_of_lt hlt)] at h1
  have e5 : Ieee.double.write (.number neg mag place) = Ieee.double.word neg rung := h1
  have e6 := word_mod64 neg rung (by omega)
  rw [e5]
  exact ⟨by rw [e6]; exact h2, inf_double _ (by rw [e6]; exact hlt)⟩
theorem single_small (neg : Bool) (mag : Nat) (place : Int) (K : Nat) (hK : K ≤ 250) (h : place + mag.log2 ≤ K - 126) :
    (Ieee.single.write (.number neg mag place)) % 2147483648 ≤ (K + 2) * 8388608 ∧ (Ieee.single.read (Ieee.single.write (.number neg mag place))).isInfinity = false := by
  obtain ⟨rung, h1, h2⟩ := nearest_le Ieee.single neg mag place K (by
    have e1 : Ieee.single.leastPlace = -149 := rfl
    have e2 : (Ieee.single.fractionBits : Int) = 23 := rfl
    rw [e1, e2]; omega)
  have e3 : Ieee.single.infRung = 2139095040 := rfl
  have e4 : Ieee.single.binade = 8388608 := rfl
  rw [e4] at h2
  rw [e3] at h1
  have hlt : rung < 2139095040 := by omega
  rw [Nat.min_eq_left (Nat.le_of_lt hlt)] at h1
  have e5 : Ieee.single.write (.number neg mag place) = Ieee.single.word neg rung := h1
  have e6 := word_mod neg rung (by omega)
  rw [e5]
  exact ⟨by rw [e6]; exact h2, inf_single _ (by rw [e6]; exact hlt)⟩

theorem wfine_all (a : Nat) : wfine a = true := by
  unfold wfine wide
  cases e : Ieee.single.read a with
  | infinity s => rfl
  | nan s f => rfl
  | number s m p =>
    have h := read_single_log e 254 (by have := Nat.mod_lt a (show 2147483648 > 0 by decide); omega)
    have := (double_small s m p 1152 (by omega) (by omega)).2
    simp [this]
theorem rootFrom_le (n : Nat) : ∀ todo root : Nat, root * root ≤ n → Ieee.Datum.rootFrom n todo root * Ieee.Datum.rootFrom n todo root ≤ n := by
  intro todo
  induction todo with
  | zero => intro root h; exact h
  | succ k ih =>
    intro root h
    unfold Ieee.Datum.rootFrom
    dsimp only
    apply ih
    split
    · assumption
    · exact h
theorem root_log {d : Nat} {m : Nat} {i : Int} {s t : Bool} {M : Nat} {P : Int} (h : (Ieee.Datum.number s m i).root d = some (.number t M P)) (hm : m ≠ 0) : 2 * (P + M.log2) ≤ i + m.log2 + 2 := by
  simp only [Ieee.Datum.root, if_neg hm] at h
  split at h
  · cases h
  · generalize hmo : 2 * d - m.log2 + ((i - (2 * d - m.log2 : Nat)) % 2).toNat = more at h
    simp only [Option.some.injEq, Ieee.Datum.number.injEq] at h
    obtain ⟨-, hM, hP⟩ := h
    generalize hw : Ieee.Datum.rootFrom (m <<< more) ((m <<< more).log2 / 2 + 1) 0 = whole at hM
    have hsq : whole * whole ≤ m <<< more := by rw [← hw]; exact rootFrom_le _ _ _ (by simp)
    rw [Nat.shiftLeft_eq] at hsq hM
    have hlt : m < 2 ^ (m.log2 + 1) := Nat.lt_log2_self
    have hn : whole * whole < 2 ^ (m.log2 + 1 + more) := by
      refine Nat.lt_of_le_of_lt hsq ?_
      rw [Nat.pow_add]
      exact Nat.mul_lt_mul_of_pos_right hlt (Nat.two_pow_pos _)
    generalize m.log2 = L at hn hmo hlt ⊢
    have hwl : whole < 2 ^ ((L + more) / 2 + 1) := by
      apply Nat.lt_of_not_le
      intro hge
      have h2 := Nat.mul_le_mul hge hge
      rw [← Nat.pow_add] at h2
      have h3 : 2 ^ (L + 1 + more) ≤ 2 ^ ((L + more) / 2 + 1 + ((L + more) / 2 + 1)) := Nat.pow_le_pow_right (by decide) (by omega)
      omega
    have hMl : M < 2 ^ ((L + more) / 2 + 2) := by
      rw [← hM, show (L + more) / 2 + 2 = (L + more) / 2 + 1 + 1 by omega, Nat.pow_succ]
      have : (whole * whole != m * 2 ^ more).toNat ≤ 1 := by cases (whole * whole != m * 2 ^ more) <;> decide
      omega
    have := log_lt (by omega) hMl
    omega
theorem rfine_all (a : Nat) : rfine a = true := by
  unfold rfine
  rw [wfine_all, Bool.true_and]
  cases hq : Ieee.double.sqrt (wide a) with
  | none => rfl
  | some r =>
    show nfine r = true
    unfold Ieee.Format.sqrt at hq
    cases er : (Ieee.double.read (wide a)).root (Ieee.double.fractionBits + 2) with
    | none => rw [er] at hq; cases hq
    | some D =>
      rw [er] at hq
      have hr : Ieee.double.write D = r := by simpa using hq
      -- what the wide number is
      have hwide : ∀ s m p, Ieee.double.read (wide a) = .number s m p → p + m.log2 ≤ 131 := by
        intro s m p e
        unfold wide at e
        cases ea : Ieee.single.read a with
        | infinity s' =>
          rw [ea] at e
          exfalso
          have : Ieee.double.read (Ieee.double.write (.infinity s')) = .infinity s' := by cases s' <;> decide +kernel
          rw [this] at e; cases e
        | nan s' f =>
          rw [ea] at e
          exfalso
          have e0 : Ieee.double.write (.nan s' f) = Ieee.double.word s' (9218868437227405312 + f % 4503599627370496) := rfl
          have hf : f % 4503599627370496 < 4503599627370496 := Nat.mod_lt _ (by decide)
          have e1 := word_mod64 s' (9218868437227405312 + f % 4503599627370496) (by omega)
          rw [e0, read_double, e1, if_neg (by omega), if_neg (by omega)] at e
          split at e <;> cases e
        | number s' m' p' =>
          rw [ea] at e
          have h := read_single_log ea 254 (by have := Nat.mod_lt a (show 2147483648 > 0 by decide); omega)
          have h1 := (double_small s' m' p' 1152 (by omega) (by omega)).1
          have := read_double_log e 1152 h1
          omega
      unfold nfine narrow
      cases eR : Ieee.double.read r with
      | infinity s => rfl
      | nan s f => rfl
      | number s m p =>
        have hsm : ∀ q : Int, q + m.log2 ≤ 90 → q = p → (!(Ieee.single.read (Ieee.single.write (.number s m p))).isInfinity) = true := by
          intro q hq' e
          subst e
          have := (single_small s m q 220 (by omega) (by omega)).2
          simp [this]
        refine hsm p ?_ rfl
        cases eW : Ieee.double.read (wide a) with
        | nan s' f => rw [eW] at er; cases er
        | infinity s' =>
          rw [eW] at er
          unfold Ieee.Datum.root at er
          dsimp only at er
          split at er
          · cases er
          · cases er
            exfalso
            rw [← hr] at eR
            have : Ieee.double.read (Ieee.double.write (.infinity s')) = .infinity s' := by cases s' <;> decide +kernel
            rw [this] at eR; cases eR
        | number s' m' i =>
          have hw := hwide s' m' i eW
          rw [eW] at er
          by_cases hm : m' = 0
          · subst hm
            have er' : some (Ieee.Datum.number s' 0 i) = some D := by rw [← er]; rfl
            cases er'
            have hz : Ieee.double.write (.number s' 0 i) = Ieee.double.word s' 0 := rfl
            rw [← hr, hz] at eR
            have h1 := word_mod64 s' 0 (by decide)
            have := read_double_log eR 0 (by rw [h1]; decide)
            omega
          · cases eD : D with
            | nan t f => rw [eD] at er; have := root_not_nan er; simp [Ieee.Datum.isNaN] at this
            | infinity t =>
              rw [eD] at er
              simp only [Ieee.Datum.root, if_neg hm] at er
              split at er <;> cases er
            | number t M P =>
              rw [eD] at er hr
              have hl := root_log er hm
              have h1 := (double_small t M P 1089 (by omega) (by omega)).1
              rw [hr] at h1
              have := read_double_log eR 1089 h1
              omega
end Go.Proofs.YtjggbdlmghembaaGreat
namespace Go.Proofs.YtjggbdlmghembaaGreat
open Go.RowKit
set_option maxRecDepth 100000

theorem read_nan {a : Nat} (h : ok a = false) : (Ieee.single.read a).isNaN = true := by rw [nan_single, h]; rfl
theorem sum_nan_l {d e : Ieee.Datum} (h : d.isNaN = true) : d.sum e = none := by
  cases d <;> first | (simp [Ieee.Datum.isNaN] at h; done) | rfl
theorem sum_nan_r {d e : Ieee.Datum} (h : e.isNaN = true) : d.sum e = none := by
  cases e <;> first | (simp [Ieee.Datum.isNaN] at h; done) | (cases d <;> rfl)
theorem product_nan_l {d e : Ieee.Datum} (h : d.isNaN = true) : d.product e = none := by
  cases d <;> first | (simp [Ieee.Datum.isNaN] at h; done) | rfl
theorem product_nan_r {d e : Ieee.Datum} (h : e.isNaN = true) : d.product e = none := by
  cases e <;> first | (simp [Ieee.Datum.isNaN] at h; done) | (cases d <;> rfl)
theorem quotient_nan_l {n : Nat} {d e : Ieee.Datum} (h : d.isNaN = true) : d.quotient n e = none := by
  cases d <;> first | (simp [Ieee.Datum.isNaN] at h; done) | rfl
theorem quotient_nan_r {n : Nat} {d e : Ieee.Datum} (h : e.isNaN = true) : d.quotient n e = none := by
  cases e <;> first | (simp [Ieee.Datum.isNaN] at h; done) | (cases d <;> rfl)
theorem order_nan_l {d e : Ieee.Datum} (h : d.isNaN = true) : d.order e = none := by
  cases d <;> first | (simp [Ieee.Datum.isNaN] at h; done) | rfl
theorem order_nan_r {d e : Ieee.Datum} (h : e.isNaN = true) : d.order e = none := by
  cases e <;> first | (simp [Ieee.Datum.isNaN] at h; done) | (cases d <;> rfl)
theorem fsum_nan {a b : Nat} (h : ok a = false ∨ ok b = false) : fsum a b = 2143289344 := by
  unfold fsum Ieee.Format.add
  rcases h with h | h
  · rw [sum_nan_l (read_nan h)]; rfl
  · rw [sum_nan_r (read_nan h)]; rfl
theorem fmul_nan {a b : Nat} (h : ok a = false ∨ ok b = false) : fmul a b = 2143289344 := by
  unfold fmul Ieee.Format.mul
  rcases h with h | h
  · rw [product_nan_l (read_nan h)]; rfl
  · rw [product_nan_r (read_nan h)]; rfl
theorem fdiv_nan {a b : Nat} (h : ok a = false ∨ ok b = false) : fdiv a b = 2143289344 := by
  unfold fdiv Ieee.Format.div
  rcases h with h | h
  · rw [quotient_nan_l (read_nan h)]; rfl
  · rw [quotient_nan_r (read_nan h)]; rfl
theorem fstand_nan {a b : Nat} (h : ok a = false ∨ ok b = false) : fstand a b = 1 := by
  unfold fstand Ieee.Format.order
  rcases h with h | h
  · rw [order_nan_l (read_nan h)]
  · rw [order_nan_r (read_nan h)]
theorem froot_nan {a : Nat} (h : ok a = false) : froot a = 2143289344 := by simp [froot, h]
/-- the one NaN, or a number -/
def cln (a : Nat) : Prop := a = 2143289344 ∨ ok a = true
theorem fsum_cln (a b : Nat) : cln (fsum a b) := by
  unfold fsum
  cases h : Ieee.single.add a b with
  | none => exact Or.inl rfl
  | some r => exact Or.inr (add_ok h)
theorem fmul_cln (a b : Nat) : cln (fmul a b) := by
  unfold fmul
  cases h : Ieee.single.mul a b with
  | none => exact Or.inl rfl
  | some r => exact Or.inr (mul_ok h)
theorem fdiv_cln (a b : Nat) : cln (fdiv a b) := by
  unfold fdiv
  cases h : Ieee.single.div a b with
  | none => exact Or.inl rfl
  | some r => exact Or.inr (div_ok h)
theorem sqrt_ok64 {x r : Nat} (h : Ieee.double.sqrt x = some r) : (Ieee.double.read r).isNaN = false := by
  unfold Ieee.Format.sqrt at h
  cases e : (Ieee.double.read x).root (Ieee.double.fractionBits + 2) with
  | none => rw [e] at h; cases h
  | some d => rw [e] at h; cases h; exact write_ok64 _ (root_not_nan e)
theorem froot_cln (a : Nat) : cln (froot a) := by
  unfold froot
  split
  · cases h : Ieee.double.sqrt (wide a) with
    | none => exact Or.inl rfl
    | some r => exact Or.inr (write_ok _ (sqrt_ok64 h))
  · exact Or.inl rfl
theorem word_lt32 (neg : Bool) (r : Nat) (h : r ≤ 2139095040) : Ieee.single.word neg r < 4294967296 := by
  unfold Ieee.Format.word
  have e1 : Ieee.single.signWeight = 2147483648 := rfl
  rw [e1]; split <;> omega
theorem write_lt32 (d : Ieee.Datum) : Ieee.single.write d < 4294967296 := Ieee.single.write_lt d
theorem fsum_lt (a b : Nat) : fsum a b < 4294967296 := by
  unfold fsum
  cases h : Ieee.single.add a b with
  | none => decide
  | some r => exact Ieee.single.add_lt h
theorem fmul_lt (a b : Nat) : fmul a b < 4294967296 := by
  unfold fmul
  cases h : Ieee.single.mul a b with
  | none => decide
  | some r => exact Ieee.single.mul_lt h
theorem fdiv_lt (a b : Nat) : fdiv a b < 4294967296 := by
  unfold fdiv
  cases h : Ieee.single.div a b with
  | none => decide
  | some r => exact Ieee.single.div_lt h
theorem froot_lt (a : Nat) : froot a < 4294967296 := by
  unfold froot
  split
  · cases h : Ieee.double.sqrt (wide a) with
    | none => decide
    | some r => exact write_lt32 _
  · decide
theorem fab_cln {a : Nat} (h : a < 4294967296) : cln (fab a) := by
  unfold fab
  by_cases ho : ok a = false
  · rw [if_pos ho]; exact Or.inl rfl
  have ho' : ok a = true := by simpa using ho
  have hm : a % 2147483648 ≤ 2139095040 := by simpa [ok] using ho'
  rw [if_neg ho]
  refine Or.inr ?_
  have hk : ∀ x : Nat, x % 2147483648 ≤ 2139095040 → ok x = true := fun x hx => by simpa [ok] using hx
  split
  · decide
  · split
    · decide
    · split
      · apply hk; omega
      · apply hk; omega
theorem ok_tn (a : Nat) (h : a < 4294967296) : ok (tn a) = ok a := by
  unfold ok tn
  congr 1
  split <;> rw [show ∀ x y : Nat, x = y → (x ≤ 2139095040) = (y ≤ 2139095040) from fun _ _ e => by rw [e]] <;> omega
theorem fbe_cln {a : Nat} (h : a < 4294967296) : cln (fbe a) := by
  unfold fbe
  by_cases ho : ok a = false
  · rw [if_pos ho]; exact Or.inl rfl
  rw [if_neg ho]
  refine Or.inr ?_
  rw [ok_tn _ (fab_lt (tn_lt h))]
  rcases fab_cln (tn_lt h) with e | e
  · exfalso
    have ho' : ok a = true := by simpa using ho
    have ht := ok_tn a h
    rw [ho'] at ht
    unfold fab at e
    rw [ht] at e
    have hm : tn a % 2147483648 ≤ 2139095040 := by simpa [ok] using ht
    have := tn_lt h
    simp only [Bool.true_eq_false, if_false] at e
    split at e
    · omega
    · split at e
      · omega
      · split at e <;> omega
  · exact e
theorem fbe_lt {a : Nat} (h : a < 4294967296) : fbe a < 4294967296 := by
  unfold fbe; split
  · decide
  · exact tn_lt (fab_lt (tn_lt h))

theorem on_lt {a : Nat} (h : a < 4294967296) : on a < 4294967296 := by unfold on; split <;> omega
end Go.Proofs.YtjggbdlmghembaaGreat
