import Derived.Test.YtigiecodobgenaaSStC
import Derived.Test.YtigiecodobgenaaSStD
namespace Go.Proofs.Ytigiecodobgenaa
open Go.RowKit

set_option maxRecDepth 100000 in
set_option maxHeartbeats 1000000 in
theorem st_n1 (sb : Int) (mb : Bool) (nb pb : Int) (w : World) :
    Calls Try.prog 38 #[.agg #[.int .u8 1, .bool false, .int .u64 0, .int .i64 0], .agg #[.int .u8 sb, .bool mb, .int .u64 nb, .int .i64 pb]] w fun e w' => e = .returned (.int .u8 1) ∧ Below w.heap.size w w' := by
  go_enter Try.func38, Try.ntmps38
  go_wp2
  go_ret
  exact ⟨rfl, bel (bel (Below.refl _ _))⟩
set_option maxRecDepth 100000 in
set_option maxHeartbeats 1000000 in
theorem st_n2 (sa : Int) (ma : Bool) (na pa : Int) (w : World) (h : (sa == 1) = false) :
    Calls Try.prog 38 #[.agg #[.int .u8 sa, .bool ma, .int .u64 na, .int .i64 pa], .agg #[.int .u8 1, .bool false, .int .u64 0, .int .i64 0]] w fun e w' => e = .returned (.int .u8 1) ∧ Below w.heap.size w w' := by
  go_enter Try.func38, Try.ntmps38
  go_wp2
  go_ret
  exact ⟨rfl, bel (bel (Below.refl _ _))⟩
set_option maxRecDepth 100000 in
set_option maxHeartbeats 1000000 in
theorem bulkE (ma mb : Bool) (w : World) :
    Calls Try.prog 55 #[.agg #[.int .u8 2, .bool ma, .int .u64 0, .int .i64 0], .agg #[.int .u8 2, .bool mb, .int .u64 0, .int .i64 0]] w fun e w' => e = .returned (.int .i64 0) ∧ Below w.heap.size w w' := by
  go_enter Try.func55, Try.ntmps55
  go_wp2
  go_ret
  exact ⟨rfl, bel (bel (Below.refl _ _))⟩
/-- how a word's value is told: its parts -/
def ps (a : Nat) : Int := if a % 2147483648 = 2139095040 then 2 else 3
def pn (a : Nat) : Nat := if a % 2147483648 = 2139095040 then 0 else rdm a
def pp (a : Nat) : Int := if a % 2147483648 = 2139095040 then 0 else -149 + (rdk a : Int)
theorem tv_ok {a : Nat} (h : ok a = true) : tv a = .agg #[.int .u8 (ps a), .bool (sg a), .int .u64 (pn a), .int .i64 (pp a)] := by
  unfold tv ps pn pp
  rw [if_neg (by simp [h])]
  split <;> rfl
/-- the level -/
def lv (a : Nat) : Int := if a % 2147483648 = 0 then 0 else (if sg a then -1 else 1) * (if a % 2147483648 = 2139095040 then 2 else 1)
theorem lv_cases (a : Nat) (hz : a % 2147483648 ≠ 0) : (sg a = false ∧ a % 2147483648 = 2139095040 ∧ lv a = 2) ∨ (sg a = false ∧ a % 2147483648 ≠ 2139095040 ∧ lv a = 1) ∨ (sg a = true ∧ a % 2147483648 = 2139095040 ∧ lv a = -2) ∨ (sg a = true ∧ a % 2147483648 ≠ 2139095040 ∧ lv a = -1) := by
  unfold lv
  rw [if_neg hz]
  by_cases hi : a % 2147483648 = 2139095040
  · rw [if_pos hi]
    cases sg a
    · exact Or.inl ⟨rfl, hi, rfl⟩
    · exact Or.inr (Or.inr (Or.inl ⟨rfl, hi, rfl⟩))
  · rw [if_neg hi]
    cases sg a
    · exact Or.inr (Or.inl ⟨rfl, hi, rfl⟩)
    · exact Or.inr (Or.inr (Or.inr ⟨rfl, hi, rfl⟩))
theorem rdm_zero (a : Nat) : rdm a = 0 ↔ a % 2147483648 = 0 := by
  unfold rdm; split <;> omega
theorem isn_any (a : Nat) (_ : ok a = true) (w : World) :
    Calls Try.prog 53 #[.agg #[.int .u8 (ps a), .bool (sg a), .int .u64 (pn a), .int .i64 (pp a)]] w fun e w' => e = .returned (.bool (decide (a % 2147483648 = 0))) ∧ Below w.heap.size w w' := by
  unfold ps pn pp
  by_cases hi : a % 2147483648 = 2139095040
  · rw [if_pos hi, if_pos hi, if_pos hi, decide_eq_false (by omega)]; exact isn2 _ w
  · rw [if_neg hi, if_neg hi, if_neg hi]
    by_cases hz : a % 2147483648 = 0
    · rw [decide_eq_true hz, (rdm_zero a).2 hz]; exact isn3z _ _ w
    · rw [decide_eq_false hz]
      exact isn3 _ _ _ w (by rw [beq_eq_false_iff_ne]; have := mt (rdm_zero a).1 hz; omega)
theorem sgn_any (a : Nat) (_ : ok a = true) (w : World) :
    Calls Try.prog 54 #[.agg #[.int .u8 (ps a), .bool (sg a), .int .u64 (pn a), .int .i64 (pp a)]] w fun e w' => e = .returned (.int .i64 (lv a)) ∧ Below w.heap.size w w' := by
  unfold ps pn pp lv
  by_cases hi : a % 2147483648 = 2139095040
  · rw [if_pos hi, if_pos hi, if_pos hi, if_pos hi, if_neg (by omega)]
    cases sg a
    · exact sg2f w
    · exact sg2t w
  · rw [if_neg hi, if_neg hi, if_neg hi, if_neg hi]
    by_cases hz : a % 2147483648 = 0
    · rw [if_pos hz, (rdm_zero a).2 hz]; exact sg3z _ _ w
    · have hn : ((rdm a : Int) == 0) = false := by rw [beq_eq_false_iff_ne]; have := mt (rdm_zero a).1 hz; omega
      rw [if_neg hz]
      cases sg a
      · exact sg3f _ _ hn w
      · exact sg3t _ _ hn w
theorem rd_val (a : Nat) : rdm a * 2 ^ rdk a = val (a % 2147483648) := by
  unfold rdm rdk val
  split
  · simp
  · rw [show a % 2147483648 % 8388608 = a % 8388608 by omega]
theorem bulk_fin (a b : Nat) (fa : a % 2147483648 < 2139095040) (fb : b % 2147483648 < 2139095040) (w : World) :
    Calls Try.prog 55 #[.agg #[.int .u8 (ps a), .bool (sg a), .int .u64 (pn a), .int .i64 (pp a)], .agg #[.int .u8 (ps b), .bool (sg b), .int .u64 (pn b), .int .i64 (pp b)]] w fun e w' => e = .returned (.int .i64 (ag (a % 2147483648) (b % 2147483648))) ∧ Below w.heap.size w w' := by
  unfold ps pn pp
  rw [if_neg (by omega), if_neg (by omega), if_neg (by omega), if_neg (by omega), if_neg (by omega), if_neg (by omega)]
  obtain ⟨ka, na⟩ := rd_k fa
  obtain ⟨kb, nb⟩ := rd_k fb
  have hag : ∀ X Y q : Nat, rdk a = X + q → rdk b = Y + q → ag (rdm a * 2 ^ X) (rdm b * 2 ^ Y) = ag (a % 2147483648) (b % 2147483648) := by
    intro X Y q h1 h2
    have e1 : rdm a * 2 ^ X * 2 ^ q = val (a % 2147483648) := by rw [Nat.mul_assoc, ← Nat.pow_add, ← h1]; exact rd_val a
    have e2 : rdm b * 2 ^ Y * 2 ^ q = val (b % 2147483648) := by rw [Nat.mul_assoc, ← Nat.pow_add, ← h2]; exact rd_val b
    have hp := Nat.two_pow_pos q
    have l1 : rdm a * 2 ^ X < rdm b * 2 ^ Y ↔ a % 2147483648 < b % 2147483648 := by
      rw [← val_lt_iff (a % 2147483648) (b % 2147483648), ← e1, ← e2]; exact (Nat.mul_lt_mul_right hp).symm
    have l2 : rdm b * 2 ^ Y < rdm a * 2 ^ X ↔ b % 2147483648 < a % 2147483648 := by
      rw [← val_lt_iff (b % 2147483648) (a % 2147483648), ← e1, ← e2]; exact (Nat.mul_lt_mul_right hp).symm
    unfold ag
    split <;> split <;> (try split) <;> first | rfl | omega
  by_cases ho : (-149 + (rdk b : Int)) < -149 + (rdk a : Int)
  · rw [← hag (rdk a - rdk b) 0 (rdk b) (by omega) (by omega)]
    exact bulkL _ _ _ _ _ _ _ _ w na nb (by omega) (by omega) (by omega) (by omega) ho (by omega) rfl
  · rw [← hag 0 (rdk b - rdk a) (rdk a) (by omega) (by omega)]
    exact bulkG _ _ _ _ _ _ _ _ w na nb (by omega) (by omega) (by omega) (by omega) ho rfl (by omega)
theorem key_sg (a : Nat) (h : a < 4294967296) : key a = if sg a then -((a % 2147483648 : Nat) : Int) else ((a % 2147483648 : Nat) : Int) := by
  unfold key sg
  by_cases h' : 2147483648 ≤ a
  · rw [if_neg (by omega), decide_eq_true h']; rfl
  · rw [if_pos (by omega), decide_eq_false h']; simp; omega
set_option maxHeartbeats 1000000 in
theorem standv_any (a b : Nat) (w : World) (ha : a < 4294967296) (hb : b < 4294967296) :
    Calls Try.prog 38 #[tv a, tv b] w fun e w' => e = .returned (.int .u8 (fstand a b)) ∧ Below w.heap.size w w' := by
  cases oa : ok a with
  | false =>
    have e1 : fstand a b = 1 := by exact fstand_nan (Or.inl oa)
    rw [e1, tv_none oa]
    cases ob : ok b with
    | false => rw [tv_none ob]; exact st_n1 _ _ _ _ w
    | true => rw [tv_ok ob]; exact st_n1 _ _ _ _ w
  | true =>
  cases ob : ok b with
  | false =>
    have e1 : fstand a b = 1 := by exact fstand_nan (Or.inr ob)
    rw [e1, tv_none ob, tv_ok oa]
    exact st_n2 _ _ _ _ w (by rw [beq_eq_false_iff_ne]; unfold ps; split <;> omega)
  | true =>
  have hsa : (ps a == 1) = false := by rw [beq_eq_false_iff_ne]; unfold ps; split <;> omega
  have hsb : (ps b == 1) = false := by rw [beq_eq_false_iff_ne]; unfold ps; split <;> omega
  have ma := ok_mod oa
  have mb := ok_mod ob
  rw [fstand_key a b ha hb oa ob, tv_ok oa, tv_ok ob]
  have k1 := key_sg a ha
  have k2 := key_sg b hb
  have i1 := isn_any a oa
  have i2 := isn_any b ob
  have s1 := sgn_any a oa
  have s2 := sgn_any b ob
  have lva : lv a = if a % 2147483648 = 0 then 0 else (if sg a then -1 else 1) * (if a % 2147483648 = 2139095040 then 2 else 1) := rfl
  have lvb : lv b = if b % 2147483648 = 0 then 0 else (if sg b then -1 else 1) * (if b % 2147483648 = 2139095040 then 2 else 1) := rfl
  by_cases za : a % 2147483648 = 0
  · rw [decide_eq_true za] at i1
    by_cases zb : b % 2147483648 = 0
    · rw [decide_eq_true zb] at i2
      have e : key a = 0 ∧ key b = 0 := by rw [k1, k2, za, zb]; exact ⟨by split <;> rfl, by split <;> rfl⟩
      rw [if_neg (by omega), if_pos (by omega)]
      exact stZ _ _ _ _ _ _ _ _ _ _ w hsa hsb i1 i2 s1 s2
    · rw [decide_eq_false zb] at i2
      rw [if_pos za] at lva
      rw [if_neg zb] at lvb
      have hka : key a = 0 := by rw [k1, za]; split <;> rfl
      by_cases hs : sg b = true
      · rw [hs] at k2 lvb
        simp only [if_true] at k2 lvb
        have hl : lv b < lv a := by rw [lva, lvb]; split <;> omega
        rw [if_neg (by omega), if_neg (by omega)]
        exact stGb _ _ _ _ _ _ _ _ _ _ w hsa hsb i1 i2 s1 s2 hl
      · have hs' : sg b = false := by simpa using hs
        rw [hs'] at k2 lvb
        simp only [Bool.false_eq_true, if_false] at k2 lvb
        have hl : lv a < lv b := by rw [lva, lvb]; split <;> omega
        rw [if_pos (by omega)]
        exact stLb _ _ _ _ _ _ _ _ _ _ w hsa hsb i1 i2 s1 s2 hl
  · rw [decide_eq_false za] at i1
    rw [if_neg za] at lva
    rcases Int.lt_trichotomy (lv a) (lv b) with hl | hl | hl
    · have hk : key a < key b := by
        rw [k1, k2]
        rw [lva, lvb] at hl
        revert hl
        cases sg a <;> cases sg b <;> simp only [Bool.false_eq_true, if_false, if_true] <;> (repeat' split) <;> omega
      rw [if_pos hk]
      exact stLa _ _ _ _ _ _ _ _ _ _ _ w hsa hsb i1 i2 s1 s2 hl
    · have zb : b % 2147483648 ≠ 0 := by
        intro zb
        rcases lv_cases a za with ⟨_, _, e⟩ | ⟨_, _, e⟩ | ⟨_, _, e⟩ | ⟨_, _, e⟩ <;> rw [e, lvb, if_pos zb] at hl <;> omega
      have hsg : sg a = sg b ∧ (a % 2147483648 = 2139095040 ↔ b % 2147483648 = 2139095040) := by
        rcases lv_cases a za with ⟨x1, x2, x3⟩ | ⟨x1, x2, x3⟩ | ⟨x1, x2, x3⟩ | ⟨x1, x2, x3⟩ <;> rcases lv_cases b zb with ⟨y1, y2, y3⟩ | ⟨y1, y2, y3⟩ | ⟨y1, y2, y3⟩ | ⟨y1, y2, y3⟩ <;> first | exact ⟨x1.trans y1.symm, ⟨fun h => by omega, fun h => by omega⟩⟩ | omega
      obtain ⟨hsg, hinf⟩ := hsg
      by_cases hi : a % 2147483648 = 2139095040
      · have hj := hinf.1 hi
        have e : key a = key b := by rw [k1, k2, hsg, hi, hj]
        rw [if_neg (by omega), if_pos e]
        have hbk : ∀ w, Calls Try.prog 55 #[.agg #[.int .u8 (ps a), .bool (sg a), .int .u64 (pn a), .int .i64 (pp a)], .agg #[.int .u8 (ps b), .bool (sg b), .int .u64 (pn b), .int .i64 (pp b)]] w fun e w' => e = .returned (.int .i64 0) ∧ Below w.heap.size w w' := by
          intro w
          unfold ps pn pp
          rw [if_pos hi, if_pos hi, if_pos hi, if_pos hj, if_pos hj, if_pos hj]
          exact bulkE _ _ w
        cases hm : sg a with
        | false => rw [hm] at i1 s1 hbk; exact stEfz _ _ _ _ _ _ _ _ _ 0 _ w hsa hsb i1 i2 s1 s2 hbk hl (by omega) (by omega) rfl
        | true => rw [hm] at i1 s1 hbk; exact stEtz _ _ _ _ _ _ _ _ _ 0 _ w hsa hsb i1 i2 s1 s2 hbk hl (by omega) (by omega) rfl
      · have hbk := bulk_fin a b (by omega) (by omega)
        rcases Nat.lt_trichotomy (a % 2147483648) (b % 2147483648) with hc | hc | hc
        · rw [ag_lt hc] at hbk
          cases hm : sg a with
          | false =>
            rw [hm] at i1 s1 hbk k1 hsg
            rw [← hsg] at k2
            simp only [Bool.false_eq_true, if_false] at k1 k2
            rw [if_pos (by omega)]
            exact stEfl _ _ _ _ _ _ _ _ _ (-1) _ w hsa hsb i1 i2 s1 s2 hbk hl (by omega) (by omega) (by omega)
          | true =>
            rw [hm] at i1 s1 hbk k1 hsg
            rw [← hsg] at k2
            simp only [if_true] at k1 k2
            rw [if_neg (by omega), if_neg (by omega)]
            exact stEtl _ _ _ _ _ _ _ _ _ (-1) _ w hsa hsb i1 i2 s1 s2 hbk hl (by omega) (by omega) (by omega)
        · rw [hc, ag_eq] at hbk
          have e : key a = key b := by rw [k1, k2, hsg, hc]
          rw [if_neg (by omega), if_pos e]
          cases hm : sg a with
          | false => rw [hm] at i1 s1 hbk; exact stEfz _ _ _ _ _ _ _ _ _ 0 _ w hsa hsb i1 i2 s1 s2 hbk hl (by omega) (by omega) rfl
          | true => rw [hm] at i1 s1 hbk; exact stEtz _ _ _ _ _ _ _ _ _ 0 _ w hsa hsb i1 i2 s1 s2 hbk hl (by omega) (by omega) rfl
        · rw [ag_gt hc] at hbk
          cases hm : sg a with
          | false =>
            rw [hm] at i1 s1 hbk k1 hsg
            rw [← hsg] at k2
            simp only [Bool.false_eq_true, if_false] at k1 k2
            rw [if_neg (by omega), if_neg (by omega)]
            exact stEfg _ _ _ _ _ _ _ _ _ 1 _ w hsa hsb i1 i2 s1 s2 hbk hl (by omega) (by omega) (by omega)
          | true =>
            rw [hm] at i1 s1 hbk k1 hsg
            rw [← hsg] at k2
            simp only [if_true] at k1 k2
            rw [if_pos (by omega)]
            exact stEtg _ _ _ _ _ _ _ _ _ 1 _ w hsa hsb i1 i2 s1 s2 hbk hl (by omega) (by omega) (by omega)
    · have hk : key b < key a := by
        rw [k1, k2]
        rw [lva, lvb] at hl
        revert hl
        cases sg a <;> cases sg b <;> simp only [Bool.false_eq_true, if_false, if_true] <;> (repeat' split) <;> omega
      rw [if_neg (by omega), if_neg (by omega)]
      exact stGa _ _ _ _ _ _ _ _ _ _ _ w hsa hsb i1 i2 s1 s2 hl
set_option maxRecDepth 100000 in
set_option maxHeartbeats 1000000 in
theorem stands_any (a b : Nat) (w : World) (ha : a < 4294967296) (hb : b < 4294967296) :
    Calls Try.prog 25 #[.int .u32 a, .int .u32 b] w fun e w' => e = .returned (.int .u8 (fstand a b)) ∧ Below w.heap.size w w' := by
  have HB : Below w.heap.size w w := Below.refl _ _
  go_enter Try.func25, Try.ntmps25
  go_wp2_with (first
    | (go_at_call 34; with_reducible refine (take_any a _ ha).mono ?_; rintro e w1 ⟨rfl, h1⟩; replace HB : Below w.heap.size w w1 := bt2 h1 (by (repeat (first | exact HB | exact Below.refl _ _ | with_reducible refine bel ?_ | with_reducible refine Below.drew ?_ | with_reducible refine bt3 ?_))))
    | (go_at_call 34; with_reducible refine (take_any b _ hb).mono ?_; rintro e w1 ⟨rfl, h1⟩; replace HB : Below w.heap.size w w1 := bt2 h1 (by (repeat (first | exact HB | exact Below.refl _ _ | with_reducible refine bel ?_ | with_reducible refine Below.drew ?_ | with_reducible refine bt3 ?_))))
    | (go_at_call 38; with_reducible refine (standv_any a b _ ha hb).mono ?_; rintro e w1 ⟨rfl, h1⟩; replace HB : Below w.heap.size w w1 := bt2 h1 (by (repeat (first | exact HB | exact Below.refl _ _ | with_reducible refine bel ?_ | with_reducible refine Below.drew ?_ | with_reducible refine bt3 ?_)))))
  go_ret
  exact ⟨rfl, HB⟩
end Go.Proofs.Ytigiecodobgenaa
