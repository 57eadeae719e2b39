import Derived.Test.YtghhjebacnodcaaPTurn
namespace Go.Proofs.Ytghhjebacnodcaa
open Go.RowKit
/-! the opposite -/
theorem word_ng (neg : Bool) (r : Nat) (h : r < 9223372036854775808) : ng (Ieee.double.word neg r) = Ieee.double.word (!neg) r := by
  have e1 : Ieee.double.signWeight = 9223372036854775808 := rfl
  have hl : Ieee.double.word neg r < 18446744073709551616 := by unfold Ieee.Format.word; rw [e1]; split <;> omega
  rw [ng_eq _ hl]
  unfold Ieee.Format.word
  rw [e1]
  cases neg
  · simp only [Bool.false_eq_true, if_false, Bool.not_false, if_true]
    rw [if_pos h]; omega
  · simp only [if_true, Bool.not_true, Bool.false_eq_true, if_false]
    rw [if_neg (by omega)]; omega
theorem write_opp (d : Ieee.Datum) (h : d.isNaN = false) : Ieee.double.write d.opposite = ng (Ieee.double.write d) := by
  have e3 : Ieee.double.infRung = 9218868437227405312 := rfl
  cases d with
  | number neg mag place =>
    rw [nearest_word64]
    show Ieee.double.write (.number (!neg) mag place) = _
    rw [nearest_word64, word_ng _ _ (Nat.lt_of_le_of_lt (Nat.min_le_right _ _) (by decide))]
  | infinity neg =>
    show Ieee.double.word (!neg) 9218868437227405312 = ng (Ieee.double.word neg 9218868437227405312)
    rw [word_ng _ _ (by decide)]
  | nan neg fr => simp [Ieee.Datum.isNaN] at h
theorem signed_opp (s : Bool) (m k : Nat) : Ieee.signed (!s) m k = - Ieee.signed s m k := by
  unfold Ieee.signed; cases s <;> simp
/-- a difference the other way round -/
theorem sum_swap {d e r r' : Ieee.Datum} (h : d.sum e.opposite = some r) (h' : e.sum d.opposite = some r') :
    r' = r.opposite ∨ ∃ s s' p, r = .number s 0 p ∧ r' = .number s' 0 p := by
  cases d with
  | nan s f => simp [Ieee.Datum.sum] at h
  | infinity s =>
    cases e with
    | nan t f => simp [Ieee.Datum.sum, Ieee.Datum.opposite] at h
    | infinity t =>
      simp only [Ieee.Datum.sum, Ieee.Datum.opposite] at h h'
      left
      cases s <;> cases t <;> simp at h h' <;> subst h <;> subst h' <;> rfl
    | number t n j =>
      simp only [Ieee.Datum.sum, Ieee.Datum.opposite, Option.some.injEq] at h h'
      left; subst h; subst h'; rfl
  | number s m i =>
    cases e with
    | nan t f => simp [Ieee.Datum.sum, Ieee.Datum.opposite] at h
    | infinity t =>
      simp only [Ieee.Datum.sum, Ieee.Datum.opposite, Option.some.injEq] at h h'
      left; subst h; subst h'; simp [Ieee.Datum.opposite]
    | number t n j =>
      simp only [Ieee.Datum.sum, Ieee.Datum.opposite, Option.some.injEq] at h h'
      rw [signed_opp] at h h'
      rw [Int.min_comm j i] at h'
      generalize Ieee.signed s m (i - min i j).toNat = x at h h'
      generalize Ieee.signed t n (j - min i j).toNat = y at h h'
      have hxy : y + -x = -(x + -y) := by omega
      rw [hxy] at h'
      generalize x + -y = z at h h'
      by_cases hz : z = 0
      · right
        subst hz
        simp only [Int.neg_zero, if_true, Int.natAbs_zero] at h h'
        exact ⟨_, _, _, h.symm, h'.symm⟩
      · left
        rw [if_neg hz] at h
        rw [if_neg (by omega), Int.natAbs_neg] at h'
        subst h; subst h'
        show Ieee.Datum.number _ _ _ = Ieee.Datum.number _ _ _
        congr 1
        by_cases h0 : z < 0
        · rw [decide_eq_false (by omega), decide_eq_true h0]; rfl
        · rw [decide_eq_true (by omega), decide_eq_false h0]; rfl
theorem write_zero (s : Bool) (p : Int) : Ieee.double.write (.number s 0 p) = Ieee.double.word s 0 := rfl
theorem sub_some {x y r : Nat} (h : floatBits .sub .f64 x y = some r) : ∃ d, (Ieee.double.read x).sum (Ieee.double.read y).opposite = some d ∧ r = Ieee.double.write d := by
  have h' : ((Ieee.double.read x).sum (Ieee.double.read y).opposite).map Ieee.double.write = some r := h
  cases e : (Ieee.double.read x).sum (Ieee.double.read y).opposite with
  | none => rw [e] at h'; cases h'
  | some d => rw [e] at h'; exact ⟨d, rfl, (Option.some.inj h').symm⟩
theorem write_lt64 (d : Ieee.Datum) : Ieee.double.write d < 18446744073709551616 := Ieee.double.write_lt d
theorem sub_swap_none {x y : Nat} (h : floatBits .sub .f64 x y = none) : floatBits .sub .f64 y x = none := by
  have h1 : ((Ieee.double.read x).sum (Ieee.double.read y).opposite).map Ieee.double.write = none := h
  show ((Ieee.double.read y).sum (Ieee.double.read x).opposite).map Ieee.double.write = none
  rw [Option.map_eq_none_iff] at h1 ⊢
  generalize Ieee.double.read x = d at *
  generalize Ieee.double.read y = e at *
  cases d <;> cases e <;> simp [Ieee.Datum.sum, Ieee.Datum.opposite] at h1 ⊢
  rename_i s t
  cases s <;> cases t <;> simp at h1 ⊢
theorem order_zero (s t : Bool) : Ieee.double.order (Ieee.double.word s 0) (Ieee.double.word t 0) = some .eq := by
  cases s <;> cases t <;> decide
/-- the outer product the other way round -/
theorem cross_swap (p q p' q' : Nat) (hp : sm p p' = true) (hq : sm q q' = true) (w W : World) :
    ((FloatKind.f64.format.order (fv .sub p q w) (ng (fv .sub q' p' W)) == some .eq) || (nn (fv .sub p q w) && nn (fv .sub q' p' W))) = true := by
  have hs := sub_sm hq hp
  cases e : floatBits .sub .f64 p q with
  | none =>
    have e' := sub_swap_none e
    rw [hs] at e'
    rw [fv_none e, fv_none e']; simp
  | some r =>
    cases e' : floatBits .sub .f64 q p with
    | none => rw [sub_swap_none e'] at e; cases e
    | some r' =>
      have e1 := e'
      rw [hs] at e1
      have a1 : fv .sub p q w = r := by simp only [fv, e, Option.getD_some]
      have a2 : fv .sub q' p' W = r' := by simp only [fv, e1, Option.getD_some]
      rw [a1, a2]
      obtain ⟨d, hd, rfl⟩ := sub_some e
      obtain ⟨d', hd', rfl⟩ := sub_some e'
      have hn := sum_not_nan hd
      have : Ieee.double.order (Ieee.double.write d) (ng (Ieee.double.write d')) = some .eq := by
        rcases sum_swap hd hd' with rfl | ⟨s, s', p, rfl, rfl⟩
        · rw [write_opp d hn, ng_ng (write_lt64 d), order_self64]
          have : nn (Ieee.double.write d) = false := write_ok64 d hn
          rw [this]; rfl
        · rw [write_zero, write_zero, word_ng _ _ (by decide)]
          exact order_zero _ _
      have h2 : (FloatKind.f64.format.order (Ieee.double.write d) (ng (Ieee.double.write d')) == some .eq) = true := by
        show (Ieee.double.order _ _ == _) = true
        rw [this]; rfl
      rw [h2]; rfl
end Go.Proofs.Ytghhjebacnodcaa
