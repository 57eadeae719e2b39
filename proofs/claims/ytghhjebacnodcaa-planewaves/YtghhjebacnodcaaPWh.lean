import Derived.Test.YtghhjebacnodcaaPTurnsLaw
namespace Go.Proofs.Ytghhjebacnodcaa
open Go.RowKit

/-! whole numbers in binary64 -/
def ue : Nat := 1074
theorem ue_eq : ue = 1074 := rfl
def sg (x : Nat) : Bool := x / 9223372036854775808 % 2 == 1
def sv (x : Nat) : Int := if sg x = true then -((vl 4503599627370496 (x % 9223372036854775808) : Nat) : Int) else ((vl 4503599627370496 (x % 9223372036854775808) : Nat) : Int)
/-- the bits of a whole number -/
structure Wh (x : Nat) (v : Int) : Prop where
  lt : x < 18446744073709551616
  fin : x % 9223372036854775808 < 9218868437227405312
  val : sv x = v * (2 ^ ue : Nat)
theorem pu : (0 : Int) < (2 ^ ue : Nat) := by have := Nat.two_pow_pos ue; omega
theorem wh_word (s : Bool) (r : Nat) (v : Int) (hr : r < 9218868437227405312) (hv : vl 4503599627370496 r = v.natAbs * 2 ^ ue) (hs : v ≠ 0 → s = decide (v < 0)) : Wh (Ieee.double.word s r) v := by
  have e1 : Ieee.double.signWeight = 9223372036854775808 := rfl
  obtain ⟨f1, f2⟩ := word_facts64 s r (by omega)
  have hl : Ieee.double.word s r < 18446744073709551616 := by unfold Ieee.Format.word; rw [e1]; split <;> omega
  refine ⟨hl, by rw [f1]; exact hr, ?_⟩
  unfold sv
  rw [show sg (Ieee.double.word s r) = s from f2, f1, hv]
  have := Nat.two_pow_pos ue
  generalize 2 ^ ue = T at *
  by_cases h0 : v = 0
  · subst h0; simp
  · rw [hs h0]
    by_cases hn : v < 0
    · rw [if_pos (by simpa using hn)]
      have : ((v.natAbs : Nat) : Int) = -v := by omega
      rw [Int.natCast_mul, this, Int.neg_mul, Int.neg_neg]
    · rw [if_neg (by simpa using hn)]
      have : ((v.natAbs : Nat) : Int) = v := by omega
      rw [Int.natCast_mul, this]
theorem write_wh (s : Bool) (m : Nat) (p : Int) (v : Int) (d k : Nat) (hv : v.natAbs ≤ 9007199254740992) (hk : p + 1074 + d = k) (he : m * 2 ^ k = v.natAbs * 2 ^ ue * 2 ^ d) (hs : v ≠ 0 → s = decide (v < 0)) : Wh (Ieee.double.write (.number s m p)) v := by
  obtain ⟨r0, v0, l0⟩ := rung_of64 v.natAbs ue hv (by rw [ue_eq]; decide) (by rw [ue_eq]; decide)
  rw [nearest_word64]
  have hnr := rg_near Ieee.double (by decide) m p d (by show (-1074 : Int) ≤ _; omega)
  have e5 : (p - Ieee.double.leastPlace + (d : Nat)).toNat = k := by
    rw [show Ieee.double.leastPlace = -1074 from rfl]; omega
  rw [e5, he, ← v0] at hnr
  have hs' := near_self 4503599627370496 d r0 (by decide)
  rw [hnr.unique (by decide) hs', Nat.min_eq_left (Nat.le_of_lt l0)]
  exact wh_word s r0 v l0 v0 hs
theorem wh_read {x : Nat} {v : Int} (h : Wh x v) : ∃ m k : Nat, Ieee.double.read x = .number (sg x) m (-1074 + (k : Int)) ∧ m * 2 ^ k = v.natAbs * 2 ^ ue ∧ m < 9007199254740992 ∧ (v ≠ 0 → sg x = decide (v < 0)) := by
  obtain ⟨m, k, e, hm, hl, -⟩ := read_fin64 x h.fin
  have hv := h.val
  have hp := pu
  refine ⟨m, k, e, ?_, hl, ?_⟩
  · rw [hm]
    unfold sv at hv
    have h2 : (((vl 4503599627370496 (x % 9223372036854775808) : Nat) : Int)).natAbs = (v * (2 ^ ue : Nat)).natAbs := by
      split at hv
      · rw [← hv, Int.natAbs_neg]
      · rw [← hv]
    rw [Int.natAbs_natCast, Int.natAbs_mul, Int.natAbs_natCast] at h2
    exact h2
  · intro h0
    unfold sv at hv
    generalize vl 4503599627370496 (x % 9223372036854775808) = V at hv
    generalize ((2 ^ ue : Nat) : Int) = T at hv hp
    cases hs : sg x
    · rw [hs, if_neg (by decide)] at hv
      symm
      apply decide_eq_false
      intro hn
      have := Int.mul_neg_of_neg_of_pos hn hp
      omega
    · rw [hs, if_pos rfl] at hv
      symm
      apply decide_eq_true
      apply Int.lt_of_not_ge
      intro hn
      have : 0 < v * T := Int.mul_pos (by omega) hp
      omega
theorem signed_sv (s : Bool) (m k : Nat) (v : Int) (h : m * 2 ^ k = v.natAbs * 2 ^ ue) (hs : v ≠ 0 → s = decide (v < 0)) : Ieee.signed s m k = v * (2 ^ ue : Nat) := by
  rw [signed_val, h, Int.natCast_mul]
  by_cases h0 : v = 0
  · subst h0; simp
  · rw [hs h0]
    by_cases hn : v < 0
    · rw [if_pos (by simpa using hn)]
      have : ((v.natAbs : Nat) : Int) = -v := by omega
      rw [this, Int.neg_mul, Int.neg_neg]
    · rw [if_neg (by simpa using hn)]
      have : ((v.natAbs : Nat) : Int) = v := by omega
      rw [this]
theorem wh_add {x y : Nat} {u v : Int} (hx : Wh x u) (hy : Wh y v) (hb : (u + v).natAbs ≤ 9007199254740992) : ∃ r, floatBits .add .f64 x y = some r ∧ Wh r (u + v) := by
  obtain ⟨m, k, e1, v1, -, s1⟩ := wh_read hx
  obtain ⟨n, l, e2, v2, -, s2⟩ := wh_read hy
  have h0 : floatBits .add .f64 x y = ((Ieee.double.read x).sum (Ieee.double.read y)).map Ieee.double.write := rfl
  rw [e1, e2] at h0
  simp only [Ieee.Datum.sum, Option.map_some] at h0
  generalize hq : min k l = q
  have h1 : (-1074 + (k : Int) - min (-1074 + (k : Int)) (-1074 + (l : Int))).toNat = k - q := by omega
  have h2 : (-1074 + (l : Int) - min (-1074 + (k : Int)) (-1074 + (l : Int))).toNat = l - q := by omega
  have h3 : min (-1074 + (k : Int)) (-1074 + (l : Int)) = -1074 + (q : Int) := by omega
  rw [h1, h2, h3] at h0
  have a1 := signed_mul (sg x) m (k - q) q
  have a2 := signed_mul (sg y) n (l - q) q
  rw [show k - q + q = k by omega, signed_sv _ m k u v1 s1] at a1
  rw [show l - q + q = l by omega, signed_sv _ n l v v2 s2] at a2
  generalize Ieee.signed (sg x) m (k - q) = X at h0 a1
  generalize Ieee.signed (sg y) n (l - q) = Y at h0 a2
  have hxy : (X + Y) * (2 ^ q : Nat) = (u + v) * (2 ^ ue : Nat) := by rw [Int.add_mul, a1, a2, Int.add_mul]
  have hp : (0 : Int) < (2 ^ q : Nat) := by have := Nat.two_pow_pos q; omega
  refine ⟨_, h0, write_wh _ _ _ (u + v) 0 q hb (by omega) ?_ ?_⟩
  · rw [Nat.pow_zero, Nat.mul_one, natAbs_mul_pow, hxy, Int.natAbs_mul, Int.natAbs_natCast]
  · intro hne
    have hpu := pu
    have hXY : X + Y ≠ 0 := by
      intro h
      rw [h, Int.zero_mul] at hxy
      rcases Int.mul_eq_zero.1 hxy.symm with h | h <;> omega
    rw [if_neg hXY]
    apply decide_eq_decide.2
    constructor
    · intro h
      have h4 := Int.mul_neg_of_neg_of_pos h hp
      rw [hxy] at h4
      apply Int.lt_of_not_ge
      intro hge
      have := Int.mul_nonneg hge (Int.le_of_lt hpu)
      omega
    · intro h
      have h4 := Int.mul_neg_of_neg_of_pos h hpu
      rw [← hxy] at h4
      apply Int.lt_of_not_ge
      intro hge
      have := Int.mul_nonneg hge (Int.le_of_lt hp)
      omega
theorem wh_ng {x : Nat} {u : Int} (hx : Wh x u) : Wh (ng x) (-u) := by
  have e := ng_eq x hx.lt
  have hl := ng_lt hx.lt
  have hm : ng x % 9223372036854775808 = x % 9223372036854775808 := by rw [e]; split <;> omega
  have hs : sg (ng x) = !sg x := by
    unfold sg
    have hlt := hx.lt
    by_cases h : x < 9223372036854775808
    · rw [e, if_pos h, show (x + 9223372036854775808) / 9223372036854775808 % 2 = 1 by omega, show x / 9223372036854775808 % 2 = 0 by omega]; rfl
    · rw [e, if_neg h, show (x - 9223372036854775808) / 9223372036854775808 % 2 = 0 by omega, show x / 9223372036854775808 % 2 = 1 by omega]; rfl
  refine ⟨hl, by rw [hm]; exact hx.fin, ?_⟩
  have hv := hx.val
  unfold sv at *
  rw [hm, hs, Int.neg_mul, ← hv]
  cases sg x <;> simp
theorem read_ng {y : Nat} (h : y < 18446744073709551616) : Ieee.double.read (ng y) = (Ieee.double.read y).opposite := by
  have e := ng_eq y h
  have hm : ng y % 9223372036854775808 = y % 9223372036854775808 := by rw [e]; split <;> omega
  have hs : (ng y / 9223372036854775808 % 2 == 1) = !(y / 9223372036854775808 % 2 == 1) := by
    by_cases h' : y < 9223372036854775808
    · rw [e, if_pos h', show (y + 9223372036854775808) / 9223372036854775808 % 2 = 1 by omega, show y / 9223372036854775808 % 2 = 0 by omega]; rfl
    · rw [e, if_neg h', show (y - 9223372036854775808) / 9223372036854775808 % 2 = 0 by omega, show y / 9223372036854775808 % 2 = 1 by omega]; rfl
  rw [read_double, read_double, hm, hs]
  split
  · rfl
  · split
    · rfl
    · split <;> rfl
theorem wh_sub {x y : Nat} {u v : Int} (hx : Wh x u) (hy : Wh y v) (hb : (u - v).natAbs ≤ 9007199254740992) : ∃ r, floatBits .sub .f64 x y = some r ∧ Wh r (u - v) := by
  have e : floatBits .sub .f64 x y = floatBits .add .f64 x (ng y) := by
    show ((Ieee.double.read x).sum (Ieee.double.read y).opposite).map _ = ((Ieee.double.read x).sum (Ieee.double.read (ng y))).map _
    rw [read_ng hy.lt]
  rw [e]
  have := wh_add hx (wh_ng hy) (by rw [← Int.sub_eq_add_neg]; exact hb)
  rw [← Int.sub_eq_add_neg] at this
  exact this
theorem wh_mul {x y : Nat} {u v : Int} (hx : Wh x u) (hy : Wh y v) (hb : (u * v).natAbs ≤ 9007199254740992) : ∃ r, floatBits .mul .f64 x y = some r ∧ Wh r (u * v) := by
  obtain ⟨m, k, e1, v1, -, s1⟩ := wh_read hx
  obtain ⟨n, l, e2, v2, -, s2⟩ := wh_read hy
  have h0 : floatBits .mul .f64 x y = ((Ieee.double.read x).product (Ieee.double.read y)).map Ieee.double.write := rfl
  rw [e1, e2] at h0
  simp only [Ieee.Datum.product, Option.map_some] at h0
  refine ⟨_, h0, write_wh _ _ _ (u * v) ue (k + l) hb (by rw [ue_eq]; omega) ?_ ?_⟩
  · rw [Nat.pow_add, Nat.mul_mul_mul_comm, v1, v2, Int.natAbs_mul, Nat.mul_mul_mul_comm]
    simp only [Nat.mul_assoc]
  · intro hne
    have hu : u ≠ 0 := fun h => hne (by rw [h, Int.zero_mul])
    have hv : v ≠ 0 := fun h => hne (by rw [h, Int.mul_zero])
    rw [s1 hu, s2 hv]
    by_cases a : u < 0 <;> by_cases b : v < 0
    · have := Int.mul_pos_of_neg_of_neg a b
      rw [decide_eq_true a, decide_eq_true b, decide_eq_false (by omega)]; rfl
    · have := Int.mul_neg_of_neg_of_pos a (show 0 < v by omega)
      rw [decide_eq_true a, decide_eq_false b, decide_eq_true (by omega)]; rfl
    · have := Int.mul_neg_of_pos_of_neg (show 0 < u by omega) b
      rw [decide_eq_false a, decide_eq_true b, decide_eq_true (by omega)]; rfl
    · have := Int.mul_pos (show 0 < u by omega) (show 0 < v by omega)
      rw [decide_eq_false a, decide_eq_false b, decide_eq_false (by omega)]; rfl
theorem wh_of (n : Int) (h : n.natAbs ≤ 9007199254740992) : Wh (floatOfInt .f64 n) n := by
  show Wh (Ieee.double.write (.number (decide (n < 0)) n.natAbs 0)) n
  exact write_wh _ _ _ n 0 ue h (by rw [ue_eq]; rfl) (by rw [Nat.pow_zero, Nat.mul_one]) (fun _ => rfl)
theorem wh_eq {x y : Nat} {u : Int} (hx : Wh x u) (hy : Wh y u) : FloatKind.f64.format.order x y = some .eq := by
  obtain ⟨m, k, e1, v1, -, s1⟩ := wh_read hx
  obtain ⟨n, l, e2, v2, -, s2⟩ := wh_read hy
  show (Ieee.double.read x).order (Ieee.double.read y) = _
  rw [e1, e2]
  simp only [Ieee.Datum.order]
  generalize hq : min k l = q
  have h1 : (-1074 + (k : Int) - min (-1074 + (k : Int)) (-1074 + (l : Int))).toNat = k - q := by omega
  have h2 : (-1074 + (l : Int) - min (-1074 + (k : Int)) (-1074 + (l : Int))).toNat = l - q := by omega
  rw [h1, h2]
  have a1 := signed_mul (sg x) m (k - q) q
  have a2 := signed_mul (sg y) n (l - q) q
  rw [show k - q + q = k by omega, signed_sv _ m k u v1 s1] at a1
  rw [show l - q + q = l by omega, signed_sv _ n l u v2 s2] at a2
  rw [← a2] at a1
  have hp : (0 : Int) < (2 ^ q : Nat) := by have := Nat.two_pow_pos q; omega
  have := Int.eq_of_mul_eq_mul_right (by omega) a1
  rw [this]
  simp [compare, compareOfLessAndEq]
end Go.Proofs.Ytghhjebacnodcaa
