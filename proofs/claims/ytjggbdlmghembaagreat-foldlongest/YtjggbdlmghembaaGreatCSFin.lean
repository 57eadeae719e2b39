import Derived.Test.YtjggbdlmghembaaGreatCSNear
import Derived.Test.YtjggbdlmghembaaGreatCSLess
import Derived.Test.YtjggbdlmghembaaGreatCSVal
import Derived.Deep.RegionHeld3
namespace Go.Proofs.YtjggbdlmghembaaGreat
open Go.RowKit
set_option maxRecDepth 100000

theorem val_vl (r : Nat) : val r = vl 8388608 r := rfl
theorem key_word (neg : Bool) (r : Nat) (h : r < 2147483648) : key (Ieee.single.word neg r) = if neg then -(r : Int) else (r : Int) := by
  have e1 : Ieee.single.signWeight = 2147483648 := rfl
  unfold Ieee.Format.word
  rw [e1]
  cases neg
  · simp only [Bool.false_eq_true, if_false]; exact key_pos h
  · simp only [if_true]; rw [key_neg (by omega)]; omega
theorem nearest_word (neg : Bool) (mag : Nat) (place : Int) : Ieee.single.write (.number neg mag place) = Ieee.single.word neg (min (rg Ieee.single mag place) 2139095040) := nearest_rg _ _ _ _
theorem natAbs_mul_pow (x : Int) (q : Nat) : x.natAbs * 2 ^ q = (x * (2 ^ q : Nat)).natAbs := by
  rw [Int.natAbs_mul, Int.natAbs_natCast]
def sn (a : Nat) : Bool := a / 2147483648 % 2 == 1
theorem fsum_fin (a b : Nat) (ha : a % 2147483648 < 2139095040) (hb : b % 2147483648 < 2139095040) :
    ∃ neg r, fsum a b = Ieee.single.word neg (min r 2139095040) ∧ Near 8388608 0 (sval a + sval b).natAbs r ∧ (sval a + sval b ≠ 0 → neg = decide (sval a + sval b < 0)) ∧ (sval a + sval b = 0 → neg = (sn a && sn b)) := by
  obtain ⟨m, k, e1, v1, -⟩ := read_fin a ha
  obtain ⟨n, l, e2, v2, -⟩ := read_fin b hb
  have h0 : Ieee.single.add a b = ((Ieee.single.read a).sum (Ieee.single.read b)).map Ieee.single.write := rfl
  rw [e1, e2] at h0
  simp only [Ieee.Datum.sum, Option.map_some] at h0
  generalize hq : min k l = q
  have h1 : (-149 + (k : Int) - min (-149 + (k : Int)) (-149 + (l : Int))).toNat = k - q := by omega
  have h2 : (-149 + (l : Int) - min (-149 + (k : Int)) (-149 + (l : Int))).toNat = l - q := by omega
  have h3 : min (-149 + (k : Int)) (-149 + (l : Int)) = -149 + (q : Int) := by omega
  rw [h1, h2, h3] at h0
  have s1 := signed_mul (a / 2147483648 % 2 == 1) m (k - q) q
  have s2 := signed_mul (b / 2147483648 % 2 == 1) n (l - q) q
  rw [show k - q + q = k by omega, signed_val (a / 2147483648 % 2 == 1) m k, v1] at s1
  rw [show l - q + q = l by omega, signed_val (b / 2147483648 % 2 == 1) n l, v2] at s2
  have a1 : Ieee.signed (a / 2147483648 % 2 == 1) m (k - q) * (2 ^ q : Nat) = sval a := s1
  have a2 : Ieee.signed (b / 2147483648 % 2 == 1) n (l - q) * (2 ^ q : Nat) = sval b := s2
  generalize Ieee.signed (a / 2147483648 % 2 == 1) m (k - q) = x at h0 a1
  generalize Ieee.signed (b / 2147483648 % 2 == 1) n (l - q) = y at h0 a2
  have hxy : (x + y) * (2 ^ q : Nat) = sval a + sval b := by rw [Int.add_mul, a1, a2]
  have hp : (0 : Int) < (2 ^ q : Nat) := by have := Nat.two_pow_pos q; omega
  have hf : fsum a b = Ieee.single.write (.number (if x + y = 0 then sn a && sn b else decide (x + y < 0)) (x + y).natAbs (-149 + (q : Int))) := by
    unfold fsum; rw [h0]; rfl
  rw [nearest_word] at hf
  have hnr := rg_near Ieee.single (by decide) (x + y).natAbs (-149 + (q : Int)) 0 (by show (-149 : Int) ≤ _; omega)
  have e5 : (-149 + (q : Int) - Ieee.single.leastPlace + (0 : Nat)).toNat = q := by
    rw [show Ieee.single.leastPlace = -149 from rfl]; omega
  rw [e5, natAbs_mul_pow, hxy] at hnr
  refine ⟨_, _, hf, hnr, fun hne => ?_, fun he => ?_⟩
  · have hxn : x + y ≠ 0 := fun h => hne (by rw [← hxy, h, Int.zero_mul])
    rw [if_neg hxn]
    apply decide_eq_decide.2
    rw [← hxy]
    constructor
    · intro h; exact Int.mul_neg_of_neg_of_pos h hp
    · intro h
      apply Int.lt_of_not_ge
      intro hge
      have := Int.mul_nonneg hge (Int.le_of_lt hp)
      omega
  · have hxn : x + y = 0 := by
      rw [← hxy] at he
      rcases Int.mul_eq_zero.1 he with h | h
      · exact h
      · omega
    rw [if_pos hxn]
theorem fmul_fin (a b : Nat) (ha : a % 2147483648 < 2139095040) (hb : b % 2147483648 < 2139095040) :
    ∃ r, fmul a b = Ieee.single.word (sn a ^^ sn b) (min r 2139095040) ∧ Near 8388608 149 (val (a % 2147483648) * val (b % 2147483648)) r := by
  obtain ⟨m, k, e1, v1, -⟩ := read_fin a ha
  obtain ⟨n, l, e2, v2, -⟩ := read_fin b hb
  have h0 : Ieee.single.mul a b = ((Ieee.single.read a).product (Ieee.single.read b)).map Ieee.single.write := rfl
  rw [e1, e2] at h0
  simp only [Ieee.Datum.product, Option.map_some] at h0
  have hf : fmul a b = Ieee.single.write (.number (sn a ^^ sn b) (m * n) (-149 + (k : Int) + (-149 + (l : Int)))) := by
    unfold fmul; rw [h0]; rfl
  rw [nearest_word] at hf
  have hnr := rg_near Ieee.single (by decide) (m * n) (-149 + (k : Int) + (-149 + (l : Int))) 149 (by show (-149 : Int) ≤ _; omega)
  have e5 : (-149 + (k : Int) + (-149 + (l : Int)) - Ieee.single.leastPlace + (149 : Nat)).toNat = k + l := by
    rw [show Ieee.single.leastPlace = -149 from rfl]; omega
  rw [e5, Nat.pow_add, Nat.mul_assoc, ← Nat.mul_assoc n, Nat.mul_comm n, Nat.mul_assoc (2 ^ k), ← Nat.mul_assoc m, v1, v2] at hnr
  exact ⟨_, hf, hnr⟩
theorem fof_near (n : Int) : ∃ r, fof n = Ieee.single.word (decide (n < 0)) (min r 2139095040) ∧ Near 8388608 0 (n.natAbs * 2 ^ 149) r := by
  have hnr := rg_near Ieee.single (by decide) n.natAbs 0 0 (by show (-149 : Int) ≤ _; omega)
  have e5 : ((0 : Int) - Ieee.single.leastPlace + (0 : Nat)).toNat = 149 := rfl
  rw [e5] at hnr
  exact ⟨_, nearest_word _ _ _, hnr⟩
/-- small whole numbers times a power are rungs -/
theorem rung_of (m k : Nat) (hm : m ≤ 16777216) (hk : 23 ≤ k) (hk2 : k ≤ 200) : ∃ r, vl 8388608 r = m * 2 ^ k ∧ r < 2139095040 := by
  by_cases h0 : m = 0
  · exact ⟨0, by subst h0; simp [vl], by decide⟩
  have hlt : m < 2 ^ (m.log2 + 1) := Nat.lt_log2_self
  have hge : 2 ^ m.log2 ≤ m := Nat.log2_self_le h0
  have hL := log_lt (n := m) (k := 25) (by decide) (by omega)
  generalize m.log2 = L at *
  by_cases h1 : L ≤ 23
  · obtain ⟨j, hj⟩ : ∃ j, j = 23 - L := ⟨_, rfl⟩
    have e1 : (8388608 : Nat) ≤ m * 2 ^ j := by
      have : 2 ^ (L + j) ≤ m * 2 ^ j := by rw [Nat.pow_add]; exact Nat.mul_le_mul_right _ hge
      rw [show L + j = 23 by omega] at this; exact this
    have e2 : m * 2 ^ j < 2 * 8388608 := by
      have : m * 2 ^ j < 2 ^ (L + 1 + j) := by rw [Nat.pow_add]; exact Nat.mul_lt_mul_of_pos_right hlt (Nat.two_pow_pos _)
      rw [show L + 1 + j = 24 by omega] at this; exact this
    refine ⟨(k - j) * 8388608 + m * 2 ^ j, ?_, by omega⟩
    rw [vl_at 8388608 (by decide) (k - j) (m * 2 ^ j) (Or.inr e1) (by omega), Nat.mul_assoc, ← Nat.pow_add]
    congr 2; omega
  · have hL24 : L = 24 := by omega
    subst hL24
    have : m = 16777216 := by omega
    subst this
    refine ⟨k * 8388608 + 2 * 8388608, ?_, by omega⟩
    rw [vl_at 8388608 (by decide) k (2 * 8388608) (Or.inr (by omega)) (by omega)]
/-- a whole number of at most 2^24 in size is exact -/
theorem fof_exact (n : Int) (hn : n.natAbs ≤ 16777216) : ∃ r, fof n = Ieee.single.word (decide (n < 0)) r ∧ val r = n.natAbs * 2 ^ 149 ∧ r < 2139095040 := by
  obtain ⟨r, e, hr⟩ := fof_near n
  obtain ⟨r0, v0, l0⟩ := rung_of n.natAbs 149 hn (by omega) (by omega)
  have := near_self 8388608 0 r0 (by decide)
  rw [Nat.pow_zero, Nat.mul_one, v0] at this
  have := hr.unique (by decide) this
  subst this
  exact ⟨r, by rw [e, Nat.min_eq_left (Nat.le_of_lt l0)], v0, l0⟩
theorem word_facts (neg : Bool) (r : Nat) (h : r < 2147483648) : Ieee.single.word neg r < 4294967296 ∧ Ieee.single.word neg r % 2147483648 = r ∧ sn (Ieee.single.word neg r) = neg ∧ sval (Ieee.single.word neg r) = if neg then -((val r : Nat) : Int) else ((val r : Nat) : Int) := by
  have hm := word_mod neg r h
  have hs : sn (Ieee.single.word neg r) = neg := by
    have e1 : Ieee.single.signWeight = 2147483648 := rfl
    unfold sn Ieee.Format.word
    rw [e1]
    cases neg
    · simp only [Bool.false_eq_true, if_false]; rw [show r / 2147483648 % 2 = 0 by omega]; rfl
    · simp only [if_true]; rw [show (2147483648 + r) / 2147483648 % 2 = 1 by omega]; rfl
  refine ⟨?_, hm, hs, ?_⟩
  · have e1 : Ieee.single.signWeight = 2147483648 := rfl
    unfold Ieee.Format.word
    rw [e1]
    split <;> omega
  · unfold sval
    rw [hm]
    have : (Ieee.single.word neg r / 2147483648 % 2 == 1) = neg := hs
    rw [this]
theorem cutz_eq (neg : Bool) (n drop : Nat) : Ieee.Toward.zero.cut neg n drop = n / 2 ^ drop := by
  unfold Ieee.Toward.cut
  dsimp only
  rw [Nat.shiftLeft_eq, Nat.one_mul]
  by_cases h : drop ≤ n.log2 + 2
  · rw [Nat.min_eq_left h]; rfl
  · rw [Nat.min_eq_right (by omega)]
    have h1 : n < 2 ^ (n.log2 + 2) := Nat.lt_of_lt_of_le Nat.lt_log2_self (Nat.pow_le_pow_right (by decide) (by omega))
    have h3 : 2 ^ (n.log2 + 2) ≤ 2 ^ drop := Nat.pow_le_pow_right (by decide) (by omega)
    rw [Nat.div_eq_of_lt h1, Nat.div_eq_of_lt (by omega)]; rfl
theorem fof_lt (n : Int) : fof n < 4294967296 := write_lt32 _
theorem toward_of (n : Int) (hn : n.natAbs ≤ 16777216) (w : World) :
    Calls Tryz.prog 60 #[.int .u32 (fof n)] w fun e w' => e = .returned (.int .i32 n) ∧ w' = w := by
  obtain ⟨r, e, v, l⟩ := fof_exact n hn
  obtain ⟨f1, f2, f3, f4⟩ := word_facts (decide (n < 0)) r (by omega)
  rw [e]
  have ok1 : ok (Ieee.single.word (decide (n < 0)) r) = true := mod_ok (by rw [f2]; omega)
  -- where the ends lie
  have hr : r < 1325400064 := by
    have h1 : vl 8388608 1325400064 = 2147483648 * 2 ^ 149 := by decide +kernel
    have h2 : val r < vl 8388608 1325400064 := by
      rw [v, h1]; exact Nat.mul_lt_mul_of_pos_right (by omega) (Nat.two_pow_pos _)
    exact (val_lt_iff r 1325400064).1 h2
  have kw := key_word (decide (n < 0)) r (by omega)
  have k1 : key 1325400064 = 1325400064 := rfl
  have k2 : key 3472883712 = -1325400064 := rfl
  have kb : -1325400064 < key (Ieee.single.word (decide (n < 0)) r) ∧ key (Ieee.single.word (decide (n < 0)) r) < 1325400064 := by
    rw [kw]; split <;> omega
  refine toward_int _ n w ok1 ?_ ?_ ?_
  · rw [order_key _ _ f1 (by decide) ok1 (by decide), k1]
    simp only [compare, compareOfLessAndEq]
    rw [if_pos kb.2]
  · rw [order_key _ _ f1 (by decide) ok1 (by decide), k2]
    simp only [compare, compareOfLessAndEq]
    rw [if_neg (by omega), if_neg (by omega)]
  · obtain ⟨m, k, e1, v1, -, hk, -⟩ := read_fin (Ieee.single.word (decide (n < 0)) r) (by rw [f2]; omega)
    rw [f2, v] at v1
    have f3' : (Ieee.single.word (decide (n < 0)) r / 2147483648 % 2 == 1) = decide (n < 0) := f3
    rw [f3'] at e1
    have hint : (FloatKind.f32.decode (Ieee.single.word (decide (n < 0)) r)).toInt .zero = some n := by
      show (Ieee.single.read (Ieee.single.word (decide (n < 0)) r)).toInt .zero = some n
      rw [e1]
      simp only [Ieee.Datum.toInt, Ieee.Datum.integral, cutz_eq]
      have hc : m <<< (-149 + (k : Int)).toNat / 2 ^ (-(-149 + (k : Int))).toNat = n.natAbs := by
        rw [Nat.shiftLeft_eq]
        by_cases hk1 : k ≤ 149
        · rw [show (-149 + (k : Int)).toNat = 0 by omega, show (-(-149 + (k : Int))).toNat = 149 - k by omega, Nat.pow_zero, Nat.mul_one]
          have : m = n.natAbs * 2 ^ (149 - k) := by
            refine Nat.eq_of_mul_eq_mul_right (Nat.two_pow_pos k) ?_
            rw [v1, Nat.mul_assoc, ← Nat.pow_add]; congr 2; omega
          rw [this, Nat.mul_div_cancel _ (Nat.two_pow_pos _)]
        · rw [show (-149 + (k : Int)).toNat = k - 149 by omega, show (-(-149 + (k : Int))).toNat = 0 by omega, Nat.pow_zero, Nat.div_one]
          refine Nat.eq_of_mul_eq_mul_right (Nat.two_pow_pos 149) ?_
          rw [Nat.mul_assoc, ← Nat.pow_add, show k - 149 + 149 = k by omega]; exact v1
      rw [hc]
      unfold Ieee.signed
      rw [Nat.shiftLeft_eq, Nat.pow_zero, Nat.mul_one]
      congr 1
      by_cases h : n < 0
      · rw [decide_eq_true h]; simp only [if_true]; omega
      · rw [decide_eq_false h]; simp only [Bool.false_eq_true, if_false]; omega
    unfold floatToIntVal
    rw [hint]
    show (if IntKind.i32.min ≤ n ∧ n ≤ IntKind.i32.max then some n else none) = some n
    have i1 : IntKind.i32.min = -2147483648 := rfl
    have i2 : IntKind.i32.max = 2147483647 := rfl
    rw [if_pos (by rw [i1, i2]; omega)]
end Go.Proofs.YtjggbdlmghembaaGreat
namespace Go.Proofs.YtjggbdlmghembaaGreat
open Go.RowKit
set_option maxRecDepth 100000

abbrev fm : Value := .agg #[.int .i64 24, .int .i64 (-149), .int .i64 104]
abbrev ob : Obj := .cells #[.int .i64 24, .int .i64 (-149), .int .i64 104] 103
abbrev oz : Obj := .cells #[.int .u8 0, .bool false, .int .u64 0, .int .i64 0] 94
/-- a finite value, or what is without end, if the power is too great -/
def hdV (m : Bool) (n : Nat) (p : Int) : Value := if 104 < p then .agg #[.int .u8 2, .bool m, .int .u64 0, .int .i64 0] else .agg #[.int .u8 3, .bool m, .int .u64 n, .int .i64 p]
set_option maxRecDepth 100000 in
set_option maxHeartbeats 1000000 in
theorem held_any (m : Bool) (n : Nat) (p : Int) (w : World) :
    Calls Tryz.prog 88 #[.agg #[.int .i64 24, .int .i64 (-149), .int .i64 104], .bool m, .int .u64 n, .int .i64 p] w fun e w' => e = .returned (hdV m n p) ∧ Below w.heap.size w w' := by
  by_cases h : 104 < p
  · have HV : Hid (hdV m n p = .agg #[.int .u8 2, .bool m, .int .u64 0, .int .i64 0]) := by rw [Hid, hdV, if_pos h]
    go_enter Tryz.func88, Tryz.ntmps88
    go_wp2_with (go_at_call 100; refine (vendless_any _ _).mono ?_; rintro e wq ⟨rfl, hq⟩; subst wq)
    refine bodyPost_ret (v := .agg #[.int .u8 2, .bool m, .int .u64 0, .int .i64 0]) (by simp [results, Tryz.f88, go_sem]) rfl ?_
    exact ⟨by rw [HV.out], by repeat (first | exact Below.refl _ _ | refine bel ?_ | refine Below.drew ?_)⟩
  · have HV : Hid (hdV m n p = .agg #[.int .u8 3, .bool m, .int .u64 n, .int .i64 p]) := by rw [Hid, hdV, if_neg h]
    have g1 : decide (104 < p) = false := decide_eq_false h
    go_enter Tryz.func88, Tryz.ntmps88
    go_wp2
    refine bodyPost_ret (v := .agg #[.int .u8 3, .bool m, .int .u64 n, .int .i64 p]) (by simp [results, Tryz.f88, go_sem]) rfl ?_
    exact ⟨by rw [HV.out], by repeat (first | exact Below.refl _ _ | refine bel ?_ | refine Below.drew ?_)⟩
@[go_sem] theorem bV3 (s : Int) (m : Bool) (p : Int) (w : World) : (Instr.build 94 #[(0, .int .u8 s), (1, .bool m), (3, .int .i64 p)]).run Tryz.prog w = .ok (.agg #[.int .u8 s, .bool m, .int .u64 0, .int .i64 p]) w := run_build w 94 _ _ (by kernel_rfl)
set_option maxRecDepth 100000 in
set_option maxHeartbeats 1000000 in
theorem nought_any (m : Bool) (w : World) :
    Calls Tryz.prog 86 #[.agg #[.int .i64 24, .int .i64 (-149), .int .i64 104], .bool m] w fun e w' => e = .returned (.agg #[.int .u8 3, .bool m, .int .u64 0, .int .i64 (-149)]) ∧ Below w.heap.size w w' := by
  go_enter Tryz.func86, Tryz.ntmps86
  go_wp2
  refine bodyPost_ret (v := .agg #[.int .u8 3, .bool m, .int .u64 0, .int .i64 (-149)]) (by simp [results, Tryz.f86, go_sem]) rfl ?_
  exact ⟨rfl, by repeat (first | exact Below.refl _ _ | refine bel ?_ | refine Below.drew ?_)⟩
end Go.Proofs.YtjggbdlmghembaaGreat
namespace Go.Proofs.YtjggbdlmghembaaGreat
open Go.RowKit
set_option maxRecDepth 100000

theorem kF {w W : World} (h : Below ((w.alloc ob).alloc oz).heap.size ((w.alloc ob).alloc oz) W) :
    W.cell? ⟨w.heap.size, 0, none⟩ = some (.int .i64 24) ∧ W.cell? ⟨w.heap.size, 1, none⟩ = some (.int .i64 (-149)) ∧ W.cell? ⟨w.heap.size, 2, none⟩ = some (.int .i64 104) := by
  refine ⟨(h.cell (p := ⟨w.heap.size, 0, none⟩) (by simp; omega)).trans (by simp), (h.cell (p := ⟨w.heap.size, 1, none⟩) (by simp; omega)).trans (by simp), (h.cell (p := ⟨w.heap.size, 2, none⟩) (by simp; omega)).trans (by simp)⟩
theorem kR {w W : World} (h : Below ((w.alloc ob).alloc oz).heap.size ((w.alloc ob).alloc oz) W) :
    W.cell? ⟨w.heap.size + 1, 0, none⟩ = some (.int .u8 0) ∧ W.cell? ⟨w.heap.size + 1, 1, none⟩ = some (.bool false) ∧ W.cell? ⟨w.heap.size + 1, 2, none⟩ = some (.int .u64 0) ∧ W.cell? ⟨w.heap.size + 1, 3, none⟩ = some (.int .i64 0) := by
  refine ⟨(h.cell (p := ⟨w.heap.size + 1, 0, none⟩) (by simp)).trans (by simp), (h.cell (p := ⟨w.heap.size + 1, 1, none⟩) (by simp)).trans (by simp), (h.cell (p := ⟨w.heap.size + 1, 2, none⟩) (by simp)).trans (by simp), (h.cell (p := ⟨w.heap.size + 1, 3, none⟩) (by simp)).trans (by simp)⟩
theorem kA {w W : World} (h : Below ((w.alloc ob).alloc oz).heap.size ((w.alloc ob).alloc oz) W) :
    W.cell? ⟨w.heap.size + 1, 0, none⟩ = some (.int .u8 0) ∧ W.cell? ⟨w.heap.size + 1, 1, none⟩ = some (.bool false) ∧ W.cell? ⟨w.heap.size + 1, 2, none⟩ = some (.int .u64 0) ∧ W.cell? ⟨w.heap.size + 1, 3, none⟩ = some (.int .i64 0) ∧ W.frozen? ⟨w.heap.size + 1, 0, none⟩ = false ∧ W.frozen? ⟨w.heap.size + 1, 1, none⟩ = false ∧ W.frozen? ⟨w.heap.size + 1, 2, none⟩ = false ∧ W.frozen? ⟨w.heap.size + 1, 3, none⟩ = false :=
  ⟨(kR h).1, (kR h).2.1, (kR h).2.2.1, (kR h).2.2.2, (h.frozen (p := ⟨w.heap.size + 1, 0, none⟩) (by simp)).trans (by simp), (h.frozen (p := ⟨w.heap.size + 1, 1, none⟩) (by simp)).trans (by simp), (h.frozen (p := ⟨w.heap.size + 1, 2, none⟩) (by simp)).trans (by simp), (h.frozen (p := ⟨w.heap.size + 1, 3, none⟩) (by simp)).trans (by simp)⟩
theorem kS {w W : World} {a b c d : Value} (h : Below ((w.alloc ob).alloc oz).heap.size ((w.alloc ob).alloc oz) W) :
    ((((W.setCell ⟨w.heap.size + 1, 0, none⟩ a).setCell ⟨w.heap.size + 1, 1, none⟩ b).setCell ⟨w.heap.size + 1, 2, none⟩ c).setCell ⟨w.heap.size + 1, 3, none⟩ d).cell? ⟨w.heap.size, 0, none⟩ = some (.int .i64 24) ∧ ((((W.setCell ⟨w.heap.size + 1, 0, none⟩ a).setCell ⟨w.heap.size + 1, 1, none⟩ b).setCell ⟨w.heap.size + 1, 2, none⟩ c).setCell ⟨w.heap.size + 1, 3, none⟩ d).cell? ⟨w.heap.size, 1, none⟩ = some (.int .i64 (-149)) ∧ ((((W.setCell ⟨w.heap.size + 1, 0, none⟩ a).setCell ⟨w.heap.size + 1, 1, none⟩ b).setCell ⟨w.heap.size + 1, 2, none⟩ c).setCell ⟨w.heap.size + 1, 3, none⟩ d).cell? ⟨w.heap.size, 2, none⟩ = some (.int .i64 104) := by
  obtain ⟨h0, h1, h2⟩ := kF h
  refine ⟨?_, ?_, ?_⟩
  all_goals rw [World.cell?_setCell_other _ _ _ _ (by simp), World.cell?_setCell_other _ _ _ _ (by simp), World.cell?_setCell_other _ _ _ _ (by simp), World.cell?_setCell_other _ _ _ _ (by simp)]
  · exact h0
  · exact h1
  · exact h2
theorem kB {w W : World} {a b c d : Value} (h : Below ((w.alloc ob).alloc oz).heap.size ((w.alloc ob).alloc oz) W) :
    Below w.heap.size w ((((W.setCell ⟨w.heap.size + 1, 0, none⟩ a).setCell ⟨w.heap.size + 1, 1, none⟩ b).setCell ⟨w.heap.size + 1, 2, none⟩ c).setCell ⟨w.heap.size + 1, 3, none⟩ d) := by
  have h1 : Below w.heap.size w W := (bel (bel (Below.refl _ _))).trans (h.mono (by simp; omega))
  exact (((h1.setCell (p := ⟨w.heap.size + 1, 0, none⟩) (Nat.le_succ _) a).setCell (p := ⟨w.heap.size + 1, 1, none⟩) (Nat.le_succ _) b).setCell (p := ⟨w.heap.size + 1, 2, none⟩) (Nat.le_succ _) c).setCell (p := ⟨w.heap.size + 1, 3, none⟩) (Nat.le_succ _) d
/-- the step's power -/
def kk (N : Nat) (P : Int) : Int := max (P + nbits N - 24) (-149)

theorem bt2 {a W w1 : World} (h : Below W.heap.size W w1) (h' : Below a.heap.size a W) : Below a.heap.size a w1 := h'.trans (h.mono h'.size)
theorem bt3 {a w1 : World} {n : Nat} (h : Below a.heap.size a w1) : Below a.heap.size a (w1.drewN n) := h.trans ⟨rfl, rfl, rfl, Nat.le_refl _, fun _ _ => rfl⟩
theorem NatV.dest {w : World} {v : Value} {x : Nat} (h : NatV w v x) : ∃ ao cap zs, v = .slice ao (List.length zs) cap ∧ List.length zs ≤ cap ∧ (ao = none → cap = 0) ∧ nv zs = x ∧ Norm zs ∧ Words zs ∧ ReadsU w ao zs w.heap.size := h
theorem small_len {zs : List Nat} (hN : Norm zs) {x : Nat} (h : nv zs = x) (hx : x < 18446744073709551616) : zs.length ≤ 2 := norm_len hN 2 (by rw [h]; exact hx)

set_option maxRecDepth 100000 in
set_option maxHeartbeats 4000000 in
theorem rnd1a (m : Bool) (ao : Option Addr) (cap : Nat) (zs : List Nat) (P : Int) (nb X M : Nat) (w : World) (hl : zs.length ≤ 100) (hr : ReadsU w ao zs w.heap.size) (hW : Words zs) (hN : Norm zs) (hz : zs.length ≠ 0) (hnb : nbits (nv zs) = nb) (hnl : nb ≤ 4000) (hP : -5000 ≤ P) (hP2 : P ≤ 5000) (hA : P + nb - 24 < -149) (hX : P - -149 = X) (hM : nv zs * 2 ^ X = M) (hMl : M < 18446744073709551616) :
    Calls Tryz.prog 68 #[.agg #[.int .i64 24, .int .i64 (-149), .int .i64 104], .bool m, .slice ao zs.length cap, .int .i64 P, .bool false] w fun e w' => e = .returned (hdV m M (-149)) ∧ Below w.heap.size w w' := by
  have hz' : ((zs.length : Int) == 0) = false := by rw [beq_eq_false_iff_ne]; omega
  have sz := fun W hrW => size_any ao cap zs W (by omega) hrW hW hN
  rw [hnb] at sz
  have HM : Hid (nv zs * 2 ^ X = M) := hM
  have hX5 : X ≤ 10000 := by omega
  have hPX : P + 149 = X := by omega
  have hPl : (-149 : Int) ≤ P := by omega
  have HXw : Hid (IntKind.i64.wrap (X : Int) = X) := by rw [Hid, IntKind.wrap_i64]; omega
  have HD : Hid (hdV m M (-149) = .agg #[.int .u8 3, .bool m, .int .u64 M, .int .i64 (-149)]) := by rw [Hid, hdV, if_neg (by omega)]
  clear hM hX
  go_enter Tryz.func68, Tryz.ntmps68
  go_wp2
  have hr2 : ReadsU ((w.alloc ob).alloc oz) ao zs ((w.alloc ob).alloc oz).heap.size := (hr.below (bel (bel (Below.refl _ _)))).mono (by simp; omega)
  go_quiet (((go_at_call 87); exact Calls.quiet_of_same (sz _ hr2)))
  go_wp2
  go_region_held3 (fun w' => w'.cell? ⟨w.heap.size, 0, none⟩ = some (.int .i64 24) ∧ w'.cell? ⟨w.heap.size, 1, none⟩ = some (.int .i64 (-149)) ∧ w'.cell? ⟨w.heap.size, 2, none⟩ = some (.int .i64 104)) ((first | ((try dsimp only); with_reducible refine kS ?_; (repeat (first | exact Below.refl _ _ | with_reducible refine bel ?_ | with_reducible refine Below.drew ?_ | with_reducible refine bt3 ?_ | with_reducible refine bt2 hb1 ?_ | with_reducible refine bt2 hb2 ?_)); done) | (refine kF ?_; (repeat (first | exact Below.refl _ _ | with_reducible refine bel ?_ | with_reducible refine Below.drew ?_ | with_reducible refine bt3 ?_ | with_reducible refine bt2 hb1 ?_ | with_reducible refine bt2 hb2 ?_)); done))) (first
    | (go_at_call 85; rw [HXw.out]; with_reducible refine (up_any ao cap zs X _ (by omega) (by omega) ?_ hW).mono ?_; (exact (hr2.below (by repeat (first | exact Below.refl _ _ | with_reducible refine bel ?_ | with_reducible refine Below.drew ?_ | with_reducible refine bt3 ?_))).mono (by simp)); rintro e w1 ⟨⟨v1, rfl, hv1⟩, hb1⟩; obtain ⟨ao1, cap1, zs1, rfl, hc1, hn1, hval1, hN1, hW1, hr1⟩ := hv1.dest)
    | (go_at_call 71; with_reducible refine (low_any ao1 cap1 zs1 _ (by have := small_len hN1 (hval1.trans HM.out) hMl; omega) ?_ hW1).mono ?_; (exact (hr1.below (by repeat (first | exact Below.refl _ _ | with_reducible refine bel ?_ | with_reducible refine Below.drew ?_ | with_reducible refine bt3 ?_))).mono (by simp)); rintro e wq ⟨rfl, hq⟩; rw [hval1, HM.out, Nat.mod_eq_of_lt hMl]; subst wq)
    | (go_at_call 88; with_reducible refine (held_any m M (-149) _).mono ?_; rintro e w2 ⟨rfl, hb2⟩; rw [HD.out]; obtain ⟨r0, r1, r2, r3, q0, q1, q2, q3⟩ := kA (w := w) (W := w2) (by repeat (first | exact Below.refl _ _ | with_reducible refine bel ?_ | with_reducible refine Below.drew ?_ | with_reducible refine bt3 ?_ | with_reducible refine bt2 hb1 ?_ | with_reducible refine bt2 hb2 ?_))))
  go_wp2
  refine bodyPost_ret (v := .agg #[.int .u8 3, .bool m, .int .u64 M, .int .i64 (-149)]) (by simp [results, Tryz.f68, go_sem, r0, r1, r2, r3]) rfl ?_
  exact ⟨by rw [HD.out], kB (by repeat (first | exact Below.refl _ _ | with_reducible refine bel ?_ | with_reducible refine Below.drew ?_ | with_reducible refine bt3 ?_ | with_reducible refine bt2 hb1 ?_ | with_reducible refine bt2 hb2 ?_))⟩
end Go.Proofs.YtjggbdlmghembaaGreat
