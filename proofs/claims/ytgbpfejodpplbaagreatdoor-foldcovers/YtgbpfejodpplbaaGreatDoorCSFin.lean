import Derived.Test.YtgbpfejodpplbaaGreatDoorCSBound
import Derived.Defers
import Derived.Recover
import Derived.Laws.Pointers
namespace Go.Proofs.YtgbpfejodpplbaaGreatDoor
open Go.RowKit
set_option maxRecDepth 100000

theorem val_vl (r : Nat) : val r = vl 8388608 r := rfl
theorem key_word (neg : Bool) (r : Nat) (h : r < 2147483648) : key (Ieee.single.word neg r) = if neg then -(r : Int) else (r : Int) := by
  have e1 : Ieee.single.signWeight = 2147483648 := rfl
  unfold Ieee.Format.word
  rw [e1]
  cases neg
  · simp only [Bool.false_eq_true, if_false]; exact key_pos h
  · simp only [if_true]; rw [key_neg (by omega)]; omega
theorem nearest_word (neg : Bool) (mag : Nat) (place : Int) : Ieee.single.write (.number neg mag place) = Ieee.single.word neg (min (rg Ieee.single mag place) 2139095040) := nearest_rg _ _ _ _
theorem natAbs_mul_pow (x : Int) (q : Nat) : x.natAbs * 2 ^ q = (x * (2 ^ q : Nat)).natAbs := by
  rw [Int.natAbs_mul, Int.natAbs_natCast]
def sn (a : Nat) : Bool := a / 2147483648 % 2 == 1
theorem fsum_fin (a b : Nat) (ha : a % 2147483648 < 2139095040) (hb : b % 2147483648 < 2139095040) :
    ∃ neg r, fsum a b = Ieee.single.word neg (min r 2139095040) ∧ Near 8388608 0 (sval a + sval b).natAbs r ∧ (sval a + sval b ≠ 0 → neg = decide (sval a + sval b < 0)) ∧ (sval a + sval b = 0 → neg = (sn a && sn b)) := by
  obtain ⟨m, k, e1, v1, -⟩ := read_fin a ha
  obtain ⟨n, l, e2, v2, -⟩ := read_fin b hb
  have h0 : Ieee.single.add a b = ((Ieee.single.read a).sum (Ieee.single.read b)).map Ieee.single.write := rfl
  rw [e1, e2] at h0
  simp only [Ieee.Datum.sum, Option.map_some] at h0
  generalize hq : min k l = q
  have h1 : (-149 + (k : Int) - min (-149 + (k : Int)) (-149 + (l : Int))).toNat = k - q := by omega
  have h2 : (-149 + (l : Int) - min (-149 + (k : Int)) (-149 + (l : Int))).toNat = l - q := by omega
  have h3 : min (-149 + (k : Int)) (-149 + (l : Int)) = -149 + (q : Int) := by omega
  rw [h1, h2, h3] at h0
  have s1 := signed_mul (a / 2147483648 % 2 == 1) m (k - q) q
  have s2 := signed_mul (b / 2147483648 % 2 == 1) n (l - q) q
  rw [show k - q + q = k by omega, signed_val (a / 2147483648 % 2 == 1) m k, v1] at s1
  rw [show l - q + q = l by omega, signed_val (b / 2147483648 % 2 == 1) n l, v2] at s2
  have a1 : Ieee.signed (a / 2147483648 % 2 == 1) m (k - q) * (2 ^ q : Nat) = sval a := s1
  have a2 : Ieee.signed (b / 2147483648 % 2 == 1) n (l - q) * (2 ^ q : Nat) = sval b := s2
  generalize Ieee.signed (a / 2147483648 % 2 == 1) m (k - q) = x at h0 a1
  generalize Ieee.signed (b / 2147483648 % 2 == 1) n (l - q) = y at h0 a2
  have hxy : (x + y) * (2 ^ q : Nat) = sval a + sval b := by rw [Int.add_mul, a1, a2]
  have hp : (0 : Int) < (2 ^ q : Nat) := by have := Nat.two_pow_pos q; omega
  have hf : fsum a b = Ieee.single.write (.number (if x + y = 0 then sn a && sn b else decide (x + y < 0)) (x + y).natAbs (-149 + (q : Int))) := by
    unfold fsum; rw [h0]; rfl
  rw [nearest_word] at hf
  have hnr := rg_near Ieee.single (by decide) (x + y).natAbs (-149 + (q : Int)) 0 (by show (-149 : Int) ≤ _; omega)
  have e5 : (-149 + (q : Int) - Ieee.single.leastPlace + (0 : Nat)).toNat = q := by
    rw [show Ieee.single.leastPlace = -149 from rfl]; omega
  rw [e5, natAbs_mul_pow, hxy] at hnr
  refine ⟨_, _, hf, hnr, fun hne => ?_, fun he => ?_⟩
  · have hxn : x + y ≠ 0 := fun h => hne (by rw [← hxy, h, Int.zero_mul])
    rw [if_neg hxn]
    apply decide_eq_decide.2
    rw [← hxy]
    constructor
    · intro h; exact Int.mul_neg_of_neg_of_pos h hp
    · intro h
      apply Int.lt_of_not_ge
      intro hge
      have := Int.mul_nonneg hge (Int.le_of_lt hp)
      omega
  · have hxn : x + y = 0 := by
      rw [← hxy] at he
      rcases Int.mul_eq_zero.1 he with h | h
      · exact h
      · omega
    rw [if_pos hxn]
theorem fmul_fin (a b : Nat) (ha : a % 2147483648 < 2139095040) (hb : b % 2147483648 < 2139095040) :
    ∃ r, fmul a b = Ieee.single.word (sn a ^^ sn b) (min r 2139095040) ∧ Near 8388608 149 (val (a % 2147483648) * val (b % 2147483648)) r := by
  obtain ⟨m, k, e1, v1, -⟩ := read_fin a ha
  obtain ⟨n, l, e2, v2, -⟩ := read_fin b hb
  have h0 : Ieee.single.mul a b = ((Ieee.single.read a).product (Ieee.single.read b)).map Ieee.single.write := rfl
  rw [e1, e2] at h0
  simp only [Ieee.Datum.product, Option.map_some] at h0
  have hf : fmul a b = Ieee.single.write (.number (sn a ^^ sn b) (m * n) (-149 + (k : Int) + (-149 + (l : Int)))) := by
    unfold fmul; rw [h0]; rfl
  rw [nearest_word] at hf
  have hnr := rg_near Ieee.single (by decide) (m * n) (-149 + (k : Int) + (-149 + (l : Int))) 149 (by show (-149 : Int) ≤ _; omega)
  have e5 : (-149 + (k : Int) + (-149 + (l : Int)) - Ieee.single.leastPlace + (149 : Nat)).toNat = k + l := by
    rw [show Ieee.single.leastPlace = -149 from rfl]; omega
  rw [e5, Nat.pow_add, Nat.mul_assoc, ← Nat.mul_assoc n, Nat.mul_comm n, Nat.mul_assoc (2 ^ k), ← Nat.mul_assoc m, v1, v2] at hnr
  exact ⟨_, hf, hnr⟩
theorem fof_near (n : Int) : ∃ r, fof n = Ieee.single.word (decide (n < 0)) (min r 2139095040) ∧ Near 8388608 0 (n.natAbs * 2 ^ 149) r := by
  have hnr := rg_near Ieee.single (by decide) n.natAbs 0 0 (by show (-149 : Int) ≤ _; omega)
  have e5 : ((0 : Int) - Ieee.single.leastPlace + (0 : Nat)).toNat = 149 := rfl
  rw [e5] at hnr
  exact ⟨_, nearest_word _ _ _, hnr⟩
/-- small whole numbers times a power are rungs -/
theorem rung_of (m k : Nat) (hm : m ≤ 16777216) (hk : 23 ≤ k) (hk2 : k ≤ 200) : ∃ r, vl 8388608 r = m * 2 ^ k ∧ r < 2139095040 := by
  by_cases h0 : m = 0
  · exact ⟨0, by subst h0; simp [vl], by decide⟩
  have hlt : m < 2 ^ (m.log2 + 1) := Nat.lt_log2_self
  have hge : 2 ^ m.log2 ≤ m := Nat.log2_self_le h0
  have hL := log_lt (n := m) (k := 25) (by decide) (by omega)
  generalize m.log2 = L at *
  by_cases h1 : L ≤ 23
  · obtain ⟨j, hj⟩ : ∃ j, j = 23 - L := ⟨_, rfl⟩
    have e1 : (8388608 : Nat) ≤ m * 2 ^ j := by
      have : 2 ^ (L + j) ≤ m * 2 ^ j := by rw [Nat.pow_add]; exact Nat.mul_le_mul_right _ hge
      rw [show L + j = 23 by omega] at this; exact this
    have e2 : m * 2 ^ j < 2 * 8388608 := by
      have : m * 2 ^ j < 2 ^ (L + 1 + j) := by rw [Nat.pow_add]; exact Nat.mul_lt_mul_of_pos_right hlt (Nat.two_pow_pos _)
      rw [show L + 1 + j = 24 by omega] at this; exact this
    refine ⟨(k - j) * 8388608 + m * 2 ^ j, ?_, by omega⟩
    rw [vl_at 8388608 (by decide) (k - j) (m * 2 ^ j) (Or.inr e1) (by omega), Nat.mul_assoc, ← Nat.pow_add]
    congr 2; omega
  · have hL24 : L = 24 := by omega
    subst hL24
    have : m = 16777216 := by omega
    subst this
    refine ⟨k * 8388608 + 2 * 8388608, ?_, by omega⟩
    rw [vl_at 8388608 (by decide) k (2 * 8388608) (Or.inr (by omega)) (by omega)]
/-- a whole number of at most 2^24 in size is exact -/
theorem fof_exact (n : Int) (hn : n.natAbs ≤ 16777216) : ∃ r, fof n = Ieee.single.word (decide (n < 0)) r ∧ val r = n.natAbs * 2 ^ 149 ∧ r < 2139095040 := by
  obtain ⟨r, e, hr⟩ := fof_near n
  obtain ⟨r0, v0, l0⟩ := rung_of n.natAbs 149 hn (by omega) (by omega)
  have := near_self 8388608 0 r0 (by decide)
  rw [Nat.pow_zero, Nat.mul_one, v0] at this
  have := hr.unique (by decide) this
  subst this
  exact ⟨r, by rw [e, Nat.min_eq_left (Nat.le_of_lt l0)], v0, l0⟩
theorem word_facts (neg : Bool) (r : Nat) (h : r < 2147483648) : Ieee.single.word neg r < 4294967296 ∧ Ieee.single.word neg r % 2147483648 = r ∧ sn (Ieee.single.word neg r) = neg ∧ sval (Ieee.single.word neg r) = if neg then -((val r : Nat) : Int) else ((val r : Nat) : Int) := by
  have hm := word_mod neg r h
  have hs : sn (Ieee.single.word neg r) = neg := by
    have e1 : Ieee.single.signWeight = 2147483648 := rfl
    unfold sn Ieee.Format.word
    rw [e1]
    cases neg
    · simp only [Bool.false_eq_true, if_false]; rw [show r / 2147483648 % 2 = 0 by omega]; rfl
    · simp only [if_true]; rw [show (2147483648 + r) / 2147483648 % 2 = 1 by omega]; rfl
  refine ⟨?_, hm, hs, ?_⟩
  · have e1 : Ieee.single.signWeight = 2147483648 := rfl
    unfold Ieee.Format.word
    rw [e1]
    split <;> omega
  · unfold sval
    rw [hm]
    have : (Ieee.single.word neg r / 2147483648 % 2 == 1) = neg := hs
    rw [this]
theorem cutz_eq (neg : Bool) (n drop : Nat) : Ieee.Toward.zero.cut neg n drop = n / 2 ^ drop := by
  unfold Ieee.Toward.cut
  dsimp only
  rw [Nat.shiftLeft_eq, Nat.one_mul]
  by_cases h : drop ≤ n.log2 + 2
  · rw [Nat.min_eq_left h]; rfl
  · rw [Nat.min_eq_right (by omega)]
    have h1 : n < 2 ^ (n.log2 + 2) := Nat.lt_of_lt_of_le Nat.lt_log2_self (Nat.pow_le_pow_right (by decide) (by omega))
    have h3 : 2 ^ (n.log2 + 2) ≤ 2 ^ drop := Nat.pow_le_pow_right (by decide) (by omega)
    rw [Nat.div_eq_of_lt h1, Nat.div_eq_of_lt (by omega)]; rfl
theorem fof_lt (n : Int) : fof n < 4294967296 := write_lt32 _
theorem toward_of (n : Int) (hn : n.natAbs ≤ 16777216) (w : World) :
    Calls Tryz.prog 114 #[.int .u32 (fof n)] w fun e w' => e = .returned (.int .i32 n) ∧ w' = w := by
  obtain ⟨r, e, v, l⟩ := fof_exact n hn
  obtain ⟨f1, f2, f3, f4⟩ := word_facts (decide (n < 0)) r (by omega)
  rw [e]
  have ok1 : ok (Ieee.single.word (decide (n < 0)) r) = true := mod_ok (by rw [f2]; omega)
  -- where the ends lie
  have hr : r < 1325400064 := by
    have h1 : vl 8388608 1325400064 = 2147483648 * 2 ^ 149 := by decide +kernel
    have h2 : val r < vl 8388608 1325400064 := by
      rw [v, h1]; exact Nat.mul_lt_mul_of_pos_right (by omega) (Nat.two_pow_pos _)
    exact (val_lt_iff r 1325400064).1 h2
  have kw := key_word (decide (n < 0)) r (by omega)
  have k1 : key 1325400064 = 1325400064 := rfl
  have k2 : key 3472883712 = -1325400064 := rfl
  have kb : -1325400064 < key (Ieee.single.word (decide (n < 0)) r) ∧ key (Ieee.single.word (decide (n < 0)) r) < 1325400064 := by
    rw [kw]; split <;> omega
  refine toward_int _ n w ok1 ?_ ?_ ?_
  · rw [order_key _ _ f1 (by decide) ok1 (by decide), k1]
    simp only [compare, compareOfLessAndEq]
    rw [if_pos kb.2]
  · rw [order_key _ _ f1 (by decide) ok1 (by decide), k2]
    simp only [compare, compareOfLessAndEq]
    rw [if_neg (by omega), if_neg (by omega)]
  · obtain ⟨m, k, e1, v1, -, hk, -⟩ := read_fin (Ieee.single.word (decide (n < 0)) r) (by rw [f2]; omega)
    rw [f2, v] at v1
    have f3' : (Ieee.single.word (decide (n < 0)) r / 2147483648 % 2 == 1) = decide (n < 0) := f3
    rw [f3'] at e1
    have hint : (FloatKind.f32.decode (Ieee.single.word (decide (n < 0)) r)).toInt .zero = some n := by
      show (Ieee.single.read (Ieee.single.word (decide (n < 0)) r)).toInt .zero = some n
      rw [e1]
      simp only [Ieee.Datum.toInt, Ieee.Datum.integral, cutz_eq]
      have hc : m <<< (-149 + (k : Int)).toNat / 2 ^ (-(-149 + (k : Int))).toNat = n.natAbs := by
        rw [Nat.shiftLeft_eq]
        by_cases hk1 : k ≤ 149
        · rw [show (-149 + (k : Int)).toNat = 0 by omega, show (-(-149 + (k : Int))).toNat = 149 - k by omega, Nat.pow_zero, Nat.mul_one]
          have : m = n.natAbs * 2 ^ (149 - k) := by
            refine Nat.eq_of_mul_eq_mul_right (Nat.two_pow_pos k) ?_
            rw [v1, Nat.mul_assoc, ← Nat.pow_add]; congr 2; omega
          rw [this, Nat.mul_div_cancel _ (Nat.two_pow_pos _)]
        · rw [show (-149 + (k : Int)).toNat = k - 149 by omega, show (-(-149 + (k : Int))).toNat = 0 by omega, Nat.pow_zero, Nat.div_one]
          refine Nat.eq_of_mul_eq_mul_right (Nat.two_pow_pos 149) ?_
          rw [Nat.mul_assoc, ← Nat.pow_add, show k - 149 + 149 = k by omega]; exact v1
      rw [hc]
      unfold Ieee.signed
      rw [Nat.shiftLeft_eq, Nat.pow_zero, Nat.mul_one]
      congr 1
      by_cases h : n < 0
      · rw [decide_eq_true h]; simp only [if_true]; omega
      · rw [decide_eq_false h]; simp only [Bool.false_eq_true, if_false]; omega
    unfold floatToIntVal
    rw [hint]
    show (if IntKind.i32.min ≤ n ∧ n ≤ IntKind.i32.max then some n else none) = some n
    have i1 : IntKind.i32.min = -2147483648 := rfl
    have i2 : IntKind.i32.max = 2147483647 := rfl
    rw [if_pos (by rw [i1, i2]; omega)]
end Go.Proofs.YtgbpfejodpplbaaGreatDoor
namespace Go.Proofs.YtgbpfejodpplbaaGreatDoor
open Go.RowKit
set_option maxRecDepth 100000

def sg (a : Nat) : Bool := decide (2147483648 ≤ a)
def rdm (a : Nat) : Nat := if a % 2147483648 < 8388608 then a % 2147483648 else 8388608 + a % 8388608
def rdk (a : Nat) : Nat := if a % 2147483648 < 8388608 then 0 else a % 2147483648 / 8388608 - 1
theorem read_rd (a : Nat) (h : a % 2147483648 < 2139095040) : Ieee.single.read a = .number (sn a) (rdm a) (-149 + (rdk a : Int)) := by
  rw [read_single]; unfold rdm rdk sn
  split
  · simp
  · rw [show a % 2147483648 % 8388608 = a % 8388608 by omega]
theorem sg_sn (a : Nat) (h : a < 4294967296) : sn a = sg a := by
  unfold sn sg
  rw [Bool.eq_iff_iff]
  simp only [beq_iff_eq, decide_eq_true_eq]
  omega
theorem rd_vali (a : Nat) : rdm a * 2 ^ rdk a = val (a % 2147483648) := by
  unfold rdm rdk val
  split
  · simp
  · rw [show a % 2147483648 % 8388608 = a % 8388608 by omega]
theorem key_sgi (a : Nat) (h : a < 4294967296) : key a = if sg a then -((a % 2147483648 : Nat) : Int) else ((a % 2147483648 : Nat) : Int) := by
  unfold key sg
  by_cases h' : 2147483648 ≤ a
  · rw [if_neg (by omega), decide_eq_true h']; rfl
  · rw [if_pos (by omega), decide_eq_false h']; simp; omega
def tT (a : Nat) : Nat := val (a % 2147483648) / 2 ^ 149
def twV (a : Nat) : Int := if ok a = false then 0 else if 1325400064 ≤ a % 2147483648 then (if sg a then -2147483648 else 2147483647) else if sg a then -(tT a : Int) else (tT a : Int)
theorem two31 : val 1325400064 = 2147483648 * 2 ^ 149 := by decide +kernel
theorem tT_lt (a : Nat) : tT a < 2147483648 ↔ a % 2147483648 < 1325400064 := by
  unfold tT
  rw [Nat.div_lt_iff_lt_mul (Nat.two_pow_pos 149), ← two31, val_lt_iff]
theorem tT_neg (a : Nat) (h : rdk a ≤ 149) : rdm a / 2 ^ (149 - rdk a) = tT a := by
  unfold tT
  rw [← rd_vali a, show (2 : Nat) ^ 149 = 2 ^ (149 - rdk a) * 2 ^ rdk a by rw [← Nat.pow_add]; congr 1; omega]
  rw [Nat.mul_div_mul_right _ _ (Nat.two_pow_pos _)]
theorem tT_pos (a : Nat) (h : 149 ≤ rdk a) : rdm a * 2 ^ (rdk a - 149) = tT a := by
  unfold tT
  rw [← rd_vali a, show (2 : Nat) ^ rdk a = 2 ^ (rdk a - 149) * 2 ^ 149 by rw [← Nat.pow_add]; congr 1; omega, ← Nat.mul_assoc, Nat.mul_div_cancel _ (Nat.two_pow_pos _)]
theorem int_val (a : Nat) (ha : a < 4294967296) (fa : a % 2147483648 < 1325400064) : floatToIntVal .f32 a .i32 = some (if sg a then -(tT a : Int) else (tT a : Int)) := by
  have hT := (tT_lt a).2 fa
  have hint : (FloatKind.f32.decode a).toInt .zero = some (if sg a then -(tT a : Int) else (tT a : Int)) := by
    show (Ieee.single.read a).toInt .zero = _
    rw [read_rd a (by omega)]
    simp only [Ieee.Datum.toInt, Ieee.Datum.integral, cutz_eq]
    have hc : rdm a <<< (-149 + (rdk a : Int)).toNat / 2 ^ (-(-149 + (rdk a : Int))).toNat = tT a := by
      rw [Nat.shiftLeft_eq]
      by_cases hk1 : rdk a ≤ 149
      · rw [show (-149 + (rdk a : Int)).toNat = 0 by omega, show (-(-149 + (rdk a : Int))).toNat = 149 - rdk a by omega, Nat.pow_zero, Nat.mul_one]
        exact tT_neg a hk1
      · rw [show (-149 + (rdk a : Int)).toNat = rdk a - 149 by omega, show (-(-149 + (rdk a : Int))).toNat = 0 by omega, Nat.pow_zero, Nat.div_one]
        exact tT_pos a (by omega)
    rw [hc]
    unfold Ieee.signed
    rw [Nat.shiftLeft_eq, Nat.pow_zero, Nat.mul_one, sg_sn a ha]
  unfold floatToIntVal
  rw [hint]
  show (if IntKind.i32.min ≤ _ ∧ _ ≤ IntKind.i32.max then some _ else none) = some _
  rw [if_pos]
  have h1 : IntKind.i32.min = -2147483648 := rfl
  have h2 : IntKind.i32.max = 2147483647 := rfl
  rw [h1, h2]
  split <;> omega
theorem ptoward_any (a : Nat) (w : World) (ha : a < 4294967296) :
    Calls Tryz.prog 114 #[.int .u32 a] w fun e w' => e = .returned (.int .i32 (twV a)) ∧ w' = w := by
  unfold twV
  cases oa : ok a with
  | false => rw [if_pos rfl]; exact toward_nan a w oa
  | true =>
    rw [if_neg (by simp)]
    have kw := key_sgi a ha
    have mo := ok_mod oa
    have k1 : key 1325400064 = 1325400064 := rfl
    have k2 : key 3472883712 = -1325400064 := rfl
    have o1 := order_key a 1325400064 ha (by decide) oa (by decide)
    have o2 := order_key a 3472883712 ha (by decide) oa (by decide)
    rw [k1] at o1
    rw [k2] at o2
    simp only [compare, compareOfLessAndEq] at o1 o2
    by_cases hr : 1325400064 ≤ a % 2147483648
    · rw [if_pos hr]
      cases hs : sg a with
      | false =>
        rw [hs] at kw
        simp only [Bool.false_eq_true, if_false] at kw ⊢
        refine toward_max a w oa ?_
        rw [o1, if_neg (by omega)]
        by_cases e : key a = 1325400064
        · right; rw [if_pos e]
        · left; rw [if_neg e]
      | true =>
        rw [hs] at kw
        simp only [if_true] at kw ⊢
        refine toward_min a w oa (by rw [o1, if_pos (by omega)]) ?_
        rw [o2]
        by_cases e : key a < -1325400064
        · left; rw [if_pos e]
        · right; rw [if_neg e, if_pos (by omega)]
    · rw [if_neg hr]
      have kb : -1325400064 < key a ∧ key a < 1325400064 := by rw [kw]; split <;> omega
      exact toward_int a _ w oa (by rw [o1, if_pos kb.2]) (by rw [o2, if_neg (by omega), if_neg (by omega)]) (int_val a ha (by omega))
end Go.Proofs.YtgbpfejodpplbaaGreatDoor
namespace Go.Proofs.YtgbpfejodpplbaaGreatDoor
open Go.RowKit
set_option maxRecDepth 100000

theorem rest_any (a b : Nat) (w : World) (hb : b < 4294967296) :
    Calls Tryz.prog 118 #[.int .u32 a, .int .u32 b] w fun e w' => e = .returned (.int .u32 (fsum a (tn b))) ∧ ∃ m, w' = w.drewN m := by
  go_enter Tryz.func118, Tryz.ntmps118
  go_wp2_with (first
    | (go_at_call 112; refine (turned_any _ _ hb).mono ?_; rintro e wq ⟨rfl, hq⟩; subst wq)
    | (go_at_call 117; refine (sum_any _ _ _).mono ?_; rintro e wq ⟨rfl, m, hq⟩; subst wq))
  go_ret
  exact ⟨rfl, _, rfl⟩

end Go.Proofs.YtgbpfejodpplbaaGreatDoor
namespace Go.Proofs.YtgbpfejodpplbaaGreatDoor
open Go.RowKit
set_option maxRecDepth 100000

theorem catch_panicking (p q : Addr) (x y : Int) (u : TypeId) (pv : Value) (older : List PanicEntry) (w : World) (hc : w.cell? p = some (.int .u32 x)) (hz : w.frozen? p = false)
    (hc2 : (w.setCell p (.int .u32 0)).cell? q = some (.int .i64 y)) (hz2 : (w.setCell p (.int .u32 0)).frozen? q = false) :
    CallsD Tryz.prog 115 #[.pointer (some p), .pointer (some q)] (.panicking ({ v := .iface u pv, recovered := false } :: older)) w fun e u' w' =>
      e = .returned (.tuple #[]) ∧ u' = .panicking ({ v := .iface u pv, recovered := true } :: older) ∧ w' = (w.setCell p (.int .u32 0)).setCell q (.int .i64 60) := by
  refine callsD_of_wpS Tryz.func115 rfl fun c₀ cs hu => ?_
  apply wpS_seq
  apply wpS_region
  simp [wpOpsS, go_sem, recoverD, hu, Tryz.ntmps115, Exit.thenS]
  refine wpS_cond (t := true) (by simp [Act.eval, Array.replicate]) ?_
  simp only [if_true]
  apply wpS_region
  simp [wpOpsS, go_sem, hc, hz, hc2, hz2, bodyPostS, results, Tryz.results115]

theorem catch_idle (p q : Addr) (w : World) :
    CallsD Tryz.prog 115 #[.pointer (some p), .pointer (some q)] .returning w fun e u' w' => e = .returned (.tuple #[]) ∧ u' = .returning ∧ w' = w := by
  refine callsD_of_wpS Tryz.func115 rfl fun c₀ cs hu => ?_
  apply wpS_seq
  apply wpS_region
  simp [wpOpsS, go_sem, recoverD, hu, Tryz.ntmps115, Exit.thenS]
  refine wpS_cond (t := false) (by simp [Act.eval, Array.replicate]) ?_
  simp only [Bool.false_eq_true, if_false]
  refine wpS_of_wp (wp_skip ?_)
  cases c₀
  simp_all [bodyPostS, results, Tryz.results115]
theorem below_two (w : World) (x y : Obj) : Below w.heap.size w ((w.alloc x).alloc y) := ((Below.refl _ _).alloc (Nat.le_refl _) _).alloc (by simp) _
theorem below_set (w : World) (x y : Obj) (m : Nat) (u v : Value) : Below w.heap.size w (((((w.alloc x).alloc y).drewN m).setCell ⟨w.heap.size, 0, none⟩ u).setCell ⟨w.heap.size + 1, 0, none⟩ v) := by
  have h1 : Below w.heap.size w (((w.alloc x).alloc y).drewN m) := (below_two w x y).trans ⟨rfl, rfl, rfl, Nat.le_refl _, fun _ _ => rfl⟩
  have h2 := h1.setCell (p := ⟨w.heap.size, 0, none⟩) (Nat.le_refl _) u
  exact h2.setCell (p := ⟨w.heap.size + 1, 0, none⟩) (Nat.le_succ _) v
end Go.Proofs.YtgbpfejodpplbaaGreatDoor
