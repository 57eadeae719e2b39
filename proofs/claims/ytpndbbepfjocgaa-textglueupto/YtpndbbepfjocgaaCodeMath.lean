import Derived.Test.YtpndbbepfjocgaaCRaMath
import Derived.Test.YtpndbbepfjocgaaCoded
namespace Go.Proofs.Ytpndbbepfjocgaa

theorem encZ_1 {r : Int} (h : r < 128) : encZ r = [r] := by rw [encZ, if_pos h]
theorem encZ_2 {r : Int} (h0 : 128 ≤ r) (h : r < 2048) : encZ r = [192 + r / 64, 128 + r % 64] := by rw [encZ, if_neg (by omega), if_pos h]
theorem encZ_3 {r : Int} (h0 : 2048 ≤ r) (h : r < 65536) : encZ r = [224 + r / 4096, 128 + r / 64 % 64, 128 + r % 64] := by rw [encZ, if_neg (by omega), if_neg (by omega), if_pos h]
theorem encZ_4 {r : Int} (h0 : 65536 ≤ r) : encZ r = [240 + r / 262144, 128 + r / 4096 % 64, 128 + r / 64 % 64, 128 + r % 64] := by rw [encZ, if_neg (by omega), if_neg (by omega), if_neg (by omega)]

/-- a rune's bytes are those of its number -/
theorem code_cut (s : ByteArray) (i : Nat) (hi : i < s.size) (hn : 0 ≤ numAt s i) :
    (encZ (numAt s i)).length = wid s i ∧ ¬ (55296 ≤ numAt s i ∧ numAt s i ≤ 57343) ∧ ∀ j, j < (encZ (numAt s i)).length → i + j < s.size ∧ (bt s (i + j) : Int) = (encZ (numAt s i)).getD j 0 := by
  rcases ra_num s i with ⟨_, h, _⟩ | ⟨_, hra⟩
  · have := bt_lt s i; omega
  have hb := bt_lt s i
  unfold ra at hra
  by_cases a1 : bt s i < 128
  · rw [if_pos a1] at hra
    simp only [Prod.mk.injEq] at hra
    obtain ⟨e1, e2⟩ := hra
    rw [← e1, ← e2, encZ_1 (by omega)]
    refine ⟨rfl, by omega, fun j hj => ?_⟩
    obtain rfl : j = 0 := by simp at hj; omega
    exact ⟨hi, rfl⟩
  · rw [if_neg a1] at hra
    by_cases a2 : bt s i < 192
    · rw [if_pos a2] at hra
      simp only [Prod.mk.injEq] at hra
      have := wid_pos s i
      omega
    · rw [if_neg a2] at hra
      by_cases a3 : bt s i < 224
      · rw [if_pos a3] at hra
        rcases raN_cases s i 2 ((bt s i : Int) - 192) 128 with h | ⟨h, g1, g2, g3, g4, g5⟩
        · rw [h] at hra; simp only [Prod.mk.injEq] at hra; have := wid_pos s i; omega
        · rw [h] at hra
          simp only [Prod.mk.injEq, Nat.reduceSub] at hra g1 g4 g5
          obtain ⟨e1, e2⟩ := hra
          have c1 := g3 1 (by omega) (by omega)
          have e := acc1 s i ((bt s i : Int) - 192)
          rw [← e1, ← e2, encZ_2 g1 (by omega)]
          refine ⟨rfl, g5, fun j hj => ?_⟩
          simp only [List.length_cons, List.length_nil] at hj
          rcases (show j = 0 ∨ j = 1 by omega) with rfl | rfl
          · exact ⟨by omega, by simp; omega⟩
          · exact ⟨by omega, by simp; omega⟩
      · rw [if_neg a3] at hra
        by_cases a4 : bt s i < 240
        · rw [if_pos a4] at hra
          rcases raN_cases s i 3 ((bt s i : Int) - 224) 2048 with h | ⟨h, g1, g2, g3, g4, g5⟩
          · rw [h] at hra; simp only [Prod.mk.injEq] at hra; have := wid_pos s i; omega
          · rw [h] at hra
            simp only [Prod.mk.injEq, Nat.reduceSub] at hra g1 g4 g5
            obtain ⟨e1, e2⟩ := hra
            have c1 := g3 1 (by omega) (by omega)
            have c2 := g3 2 (by omega) (by omega)
            have e := acc2 s i ((bt s i : Int) - 224)
            rw [← e1, ← e2, encZ_3 g1 (by omega)]
            refine ⟨rfl, g5, fun j hj => ?_⟩
            simp only [List.length_cons, List.length_nil] at hj
            rcases (show j = 0 ∨ j = 1 ∨ j = 2 by omega) with rfl | rfl | rfl
            · exact ⟨by omega, by simp; omega⟩
            · exact ⟨by omega, by simp; omega⟩
            · exact ⟨by omega, by simp; omega⟩
        · rw [if_neg a4] at hra
          by_cases a5 : bt s i < 248
          · rw [if_pos a5] at hra
            rcases raN_cases s i 4 ((bt s i : Int) - 240) 65536 with h | ⟨h, g1, g2, g3, g4, g5⟩
            · rw [h] at hra; simp only [Prod.mk.injEq] at hra; have := wid_pos s i; omega
            · rw [h] at hra
              simp only [Prod.mk.injEq, Nat.reduceSub] at hra g1 g4 g5
              obtain ⟨e1, e2⟩ := hra
              have c1 := g3 1 (by omega) (by omega)
              have c2 := g3 2 (by omega) (by omega)
              have c3 := g3 3 (by omega) (by omega)
              have e := acc3 s i ((bt s i : Int) - 240)
              rw [← e1, ← e2, encZ_4 g1]
              refine ⟨rfl, g5, fun j hj => ?_⟩
              simp only [List.length_cons, List.length_nil] at hj
              rcases (show j = 0 ∨ j = 1 ∨ j = 2 ∨ j = 3 by omega) with rfl | rfl | rfl | rfl
              · exact ⟨by omega, by simp; omega⟩
              · exact ⟨by omega, by simp; omega⟩
              · exact ⟨by omega, by simp; omega⟩
              · exact ⟨by omega, by simp; omega⟩
          · rw [if_neg a5] at hra
            simp only [Prod.mk.injEq] at hra
            have := wid_pos s i
            omega

/-- the place behind a thing -/
def ieStep {s : ByteArray} (i : Nat) (x : Cut s) : Nat := i + if x.1.2 < 0 then 1 else (encZ x.1.2).length
def ieFrom {s : ByteArray} (p : Nat) (l : List (Cut s)) : Nat := l.foldl ieStep p
theorem ie_snoc {s : ByteArray} (p : Nat) (l : List (Cut s)) (x : Cut s) : ieFrom p (l ++ [x]) = ieStep (ieFrom p l) x := by simp [ieFrom]

/-- the thing stands at place i of the text, as its number says -/
def Good (s : ByteArray) (i : Nat) (x : Cut s) : Prop :=
  x.1.1 = i ∧ ((x.1.2 ≤ -129 ∧ (bt s i : Int) = -1 - x.1.2) ∨
    (0 ≤ x.1.2 ∧ ¬ (55296 ≤ x.1.2 ∧ x.1.2 ≤ 57343) ∧ ∀ j, j < (encZ x.1.2).length → i + j < s.size ∧ (bt s (i + j) : Int) = (encZ x.1.2).getD j 0))

theorem good_cut (s : ByteArray) (i : Nat) (hi : i < s.size) : Good s i (cutAt s i hi) ∧ ieStep i (cutAt s i hi) = i + wid s i := by
  have e : (cutAt s i hi).1.2 = numAt s i := rfl
  by_cases hn : 0 ≤ numAt s i
  · obtain ⟨c1, c2, c3⟩ := code_cut s i hi hn
    refine ⟨⟨rfl, .inr ?_⟩, ?_⟩
    · rw [e]; exact ⟨hn, c2, c3⟩
    · unfold ieStep; rw [e, if_neg (by omega), c1]
  · rcases ra_num s i with ⟨_, h, hw⟩ | ⟨h, _⟩
    · have hb : 128 ≤ bt s i := by
        rcases Nat.lt_or_ge (bt s i) 128 with hb | hb
        · have := (dec_low s i hi hb).2; omega
        · exact hb
      refine ⟨⟨rfl, .inl ?_⟩, ?_⟩
      · rw [e, h]; omega
      · unfold ieStep; rw [e, if_pos (by omega), hw]
    · exact absurd h hn

theorem good_from (s : ByteArray) : ∀ (q : List (Cut s)) (f pos : Nat) (x : Cut s) (t : List (Cut s)), cutsFrom s f pos = q ++ x :: t → Good s (ieFrom pos q) x := by
  intro q
  induction q with
  | nil =>
    intro f pos x t h
    cases f with
    | zero => simp [cutsFrom] at h
    | succ f =>
      by_cases hl : pos < s.size
      · rw [cutsFrom_step s f pos hl] at h
        simp only [List.nil_append, List.cons.injEq] at h
        rw [← h.1]
        exact (good_cut s pos hl).1
      · rw [cutsFrom_end s _ pos hl] at h; simp at h
  | cons y q ih =>
    intro f pos x t h
    cases f with
    | zero => simp [cutsFrom] at h
    | succ f =>
      by_cases hl : pos < s.size
      · rw [cutsFrom_step s f pos hl] at h
        simp only [List.cons_append, List.cons.injEq] at h
        have := ih f (pos + wid s pos) x t h.2
        have e : ieFrom pos (y :: q) = ieFrom (ieStep pos y) q := rfl
        rw [e, ← h.1, (good_cut s pos hl).2]
        exact this
      · rw [cutsFrom_end s _ pos hl] at h; simp at h

theorem ie_from (s : ByteArray) : ∀ (f pos : Nat), pos ≤ s.size → s.size ≤ pos + f → ieFrom pos (cutsFrom s f pos) = s.size := by
  intro f
  induction f with
  | zero => intro pos h1 h2; simp [cutsFrom, ieFrom]; omega
  | succ f ih =>
    intro pos h1 h2
    by_cases hl : pos < s.size
    · rw [cutsFrom_step s f pos hl]
      have e : ieFrom pos (cutAt s pos hl :: cutsFrom s f (pos + wid s pos)) = ieFrom (ieStep pos (cutAt s pos hl)) (cutsFrom s f (pos + wid s pos)) := rfl
      have hw := wid_pos s pos
      rw [e, (good_cut s pos hl).2, ih _ (wid_le s pos hl) (by omega)]
    · rw [cutsFrom_end s _ pos hl]; simp [ieFrom]; omega

theorem good_pre {s : ByteArray} {q : List (Cut s)} {x : Cut s} (h : q ++ [x] <+: cuts s) : Good s (ieFrom 0 q) x := by
  obtain ⟨t, ht⟩ := h
  exact good_from s q s.size 0 x t (by rw [← cuts, ← ht]; simp)
theorem ie_all (s : ByteArray) : ieFrom 0 (cuts s) = s.size := ie_from s s.size 0 (by omega) (by omega)
end Go.Proofs.Ytpndbbepfjocgaa
