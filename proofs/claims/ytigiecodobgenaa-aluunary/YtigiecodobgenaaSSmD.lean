import Derived.Test.YtigiecodobgenaaSSmC
import Derived.Test.YtigiecodobgenaaSKeepsM
namespace Go.Proofs.Ytigiecodobgenaa
open Go.RowKit

theorem read_rd (a : Nat) (h : a % 2147483648 < 2139095040) : Ieee.single.read a = .number (sn a) (rdm a) (-149 + (rdk a : Int)) := by
  rw [read_single]; unfold rdm rdk sn
  split
  · simp
  · rw [show a % 2147483648 % 8388608 = a % 8388608 by omega]
theorem sg_sn (a : Nat) (h : a < 4294967296) : sn a = sg a := by
  unfold sn sg
  rw [Bool.eq_iff_iff]
  simp only [beq_iff_eq, decide_eq_true_eq]
  omega
def sgn (s : Bool) (x : Nat) : Int := if s then -(x : Int) else (x : Int)
theorem word_wrd (m : Bool) (r : Nat) (_ : r < 2147483648) : Ieee.single.word m r = wrd m r := by
  have e1 : Ieee.single.signWeight = 2147483648 := rfl
  unfold Ieee.Format.word wrd
  rw [e1]
  cases m
  · simp
  · simp
theorem sgn_lt (ma mb : Bool) (h : ma ≠ mb) (u v : Nat) (hc : u < v) : (sgn ma u + sgn mb v).natAbs = v - u ∧ (if sgn ma u + sgn mb v = 0 then ma && mb else decide (sgn ma u + sgn mb v < 0)) = mb := by
  unfold sgn
  cases ma <;> cases mb
  · exact absurd rfl h
  · simp only [Bool.false_eq_true, if_false, if_true]
    rw [if_neg (by omega)]
    exact ⟨by omega, decide_eq_true (by omega)⟩
  · simp only [Bool.false_eq_true, if_false, if_true]
    rw [if_neg (by omega)]
    exact ⟨by omega, decide_eq_false (by omega)⟩
  · exact absurd rfl h
theorem sgn_gt (ma mb : Bool) (h : ma ≠ mb) (u v : Nat) (hc : v < u) : (sgn ma u + sgn mb v).natAbs = u - v ∧ (if sgn ma u + sgn mb v = 0 then ma && mb else decide (sgn ma u + sgn mb v < 0)) = ma := by
  unfold sgn
  cases ma <;> cases mb
  · exact absurd rfl h
  · simp only [Bool.false_eq_true, if_false, if_true]
    rw [if_neg (by omega)]
    exact ⟨by omega, decide_eq_false (by omega)⟩
  · simp only [Bool.false_eq_true, if_false, if_true]
    rw [if_neg (by omega)]
    exact ⟨by omega, decide_eq_true (by omega)⟩
  · exact absurd rfl h
theorem sgn_eq (ma mb : Bool) (h : ma ≠ mb) (u : Nat) : sgn ma u + sgn mb u = 0 ∧ (ma && mb) = false := by
  unfold sgn
  cases ma <;> cases mb
  · exact absurd rfl h
  · simp only [Bool.false_eq_true, if_false, if_true]; exact ⟨by omega, rfl⟩
  · simp only [Bool.false_eq_true, if_false, if_true]; exact ⟨by omega, rfl⟩
  · exact absurd rfl h
theorem fsum_rd (a b : Nat) (fa : a % 2147483648 < 2139095040) (fb : b % 2147483648 < 2139095040) (X Y : Nat) (p : Int) (hp : min (-149 + (rdk a : Int)) (-149 + (rdk b : Int)) = p) (hX : -149 + (rdk a : Int) - p = X) (hY : -149 + (rdk b : Int) - p = Y) (T : Int) (hT : sgn (sn a) (rdm a * 2 ^ X) + sgn (sn b) (rdm b * 2 ^ Y) = T) :
    fsum a b = Ieee.single.word (if T = 0 then sn a && sn b else decide (T < 0)) (min (rg Ieee.single T.natAbs p) 2139095040) := by
  have h0 : Ieee.single.add a b = ((Ieee.single.read a).sum (Ieee.single.read b)).map Ieee.single.write := rfl
  rw [read_rd a fa, read_rd b fb] at h0
  simp only [Ieee.Datum.sum, Option.map_some] at h0
  rw [hp, hX, hY, Int.toNat_natCast, Int.toNat_natCast, signed_val, signed_val] at h0
  have e : ((if sn a = true then -((rdm a * 2 ^ X : Nat) : Int) else ((rdm a * 2 ^ X : Nat) : Int)) + if sn b = true then -((rdm b * 2 ^ Y : Nat) : Int) else ((rdm b * 2 ^ Y : Nat) : Int)) = T := hT
  rw [e] at h0
  unfold fsum
  rw [h0, nearest_word]
  rfl
/-- what a word stands for, as the document has it -/
def tv (a : Nat) : Value := if ok a = false then vN else if a % 2147483648 = 2139095040 then vE (sg a) else vF (sg a) (rdm a) (-149 + (rdk a : Int))
theorem tv_none {a : Nat} (h : ok a = false) : tv a = vN := by rw [tv, if_pos h]
theorem tv_inf {a : Nat} (h : a % 2147483648 = 2139095040) : tv a = vE (sg a) := by rw [tv, if_neg (by simp [ok, h]), if_pos h]
theorem tv_fin {a : Nat} (h : a % 2147483648 < 2139095040) : tv a = vF (sg a) (rdm a) (-149 + (rdk a : Int)) := by rw [tv, if_neg (by simp [ok]; omega), if_neg (by omega)]
theorem ok_cases (a : Nat) : ok a = false ∨ a % 2147483648 = 2139095040 ∨ a % 2147483648 < 2139095040 := by
  unfold ok
  by_cases h : a % 2147483648 ≤ 2139095040
  · right; omega
  · left; exact decide_eq_false h
theorem take_any (a : Nat) (w : World) (h : a < 4294967296) :
    Calls Try.prog 34 #[.int .u32 a] w fun e w' => e = .returned (tv a) ∧ Below w.heap.size w w' := by
  rcases ok_cases a with h1 | h1 | h1
  · rw [tv_none h1]; exact take_none a w h h1
  · rw [tv_inf h1]; exact take_endless a w h h1
  · rw [tv_fin h1]; exact take_fin a w h h1
theorem rd_k {a : Nat} (h : a % 2147483648 < 2139095040) : rdk a ≤ 253 ∧ rdm a < 16777216 := by
  obtain ⟨h1, h2, h3⟩ := rd_rung a
  exact ⟨by omega, h2⟩
/-- what is laid is this word -/
def LayV (v : Value) (x : Nat) : Prop := ∀ w, Calls Try.prog 30 #[v] w fun e w' => e = .returned (.int .u32 (x : Int)) ∧ Below w.heap.size w w'
theorem layV_fit {m : Bool} {n : Nat} {p : Int} {r x : Nat} (h : Fits n p r) (hx : x = wrd m (min r 2139095040)) : LayV (hdV m n p) x := fun w => by rw [hx]; exact lay_any m n p r w h

end Go.Proofs.Ytigiecodobgenaa
