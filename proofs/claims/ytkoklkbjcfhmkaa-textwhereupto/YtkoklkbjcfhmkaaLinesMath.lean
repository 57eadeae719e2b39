import Derived.Test.YtkoklkbjcfhmkaaDec
import Derived.Test.YtkoklkbjcfhmkaaWhere
namespace Go.Proofs.Ytkoklkbjcfhmkaa

/-- line ends among the first bytes -/
def nl (s : ByteArray) : Nat → Nat
  | 0 => 0
  | k + 1 => nl s k + if bt s k = 10 then 1 else 0

theorem nl_same (s : ByteArray) (a b : Nat) (hab : a ≤ b) (h : ∀ i, a ≤ i → i < b → bt s i ≠ 10) : nl s b = nl s a := by
  induction b with
  | zero => obtain rfl : a = 0 := by omega
            rfl
  | succ b ih =>
    by_cases e : a = b + 1
    · rw [e]
    · have := h b (by omega) (by omega)
      rw [nl, if_neg this, ih (by omega) (fun i h1 h2 => h i h1 (by omega))]; rfl

theorem take_none (s : ByteArray) (f pos p : Nat) (h : p ≤ pos) : (cutsFrom s f pos).takeWhile (fun x => decide (x.1.1 < p)) = [] := by
  cases f with
  | zero => rfl
  | succ f =>
    by_cases hl : pos < s.size
    · rw [cutsFrom_step s f pos hl]
      have : ¬ (cutAt s pos hl).1.1 < p := by show ¬ pos < p; omega
      simp [this]
    · rw [cutsFrom_end s _ pos hl]; rfl
theorem take_one (s : ByteArray) (f pos p : Nat) (hl : pos < s.size) (h : pos < p) :
    (cutsFrom s (f + 1) pos).takeWhile (fun x => decide (x.1.1 < p)) = cutAt s pos hl :: (cutsFrom s f (pos + wid s pos)).takeWhile (fun x => decide (x.1.1 < p)) := by
  rw [cutsFrom_step s f pos hl]
  have : (cutAt s pos hl).1.1 < p := h
  simp [this]

theorem step_num (s : ByteArray) (pos : Nat) (hl : pos < s.size) (q : Int × Int) : lcStep q (cutAt s pos hl) = if bt s pos = 10 then (q.1 + 1, 1) else (q.1, q.2 + 1) := by
  unfold lcStep
  have e : (cutAt s pos hl).1.2 = numAt s pos := rfl
  rw [e]
  by_cases hb : bt s pos < 128
  · rw [(dec_low s pos hl hb).2]
    by_cases h10 : bt s pos = 10
    · simp [h10]
    · rw [if_neg (by omega), if_neg h10]
  · have := (dec_high s pos hl (by omega)).2.1
    rw [if_neg (by omega), if_neg (by omega)]

theorem where_from (s : ByteArray) (p : Nat) (hp : p ≤ s.size) : ∀ (f pos : Nat) (q : Int × Int), s.size ≤ pos + f → pos ≤ p → 1 ≤ q.2 →
    (((cutsFrom s f pos).takeWhile (fun x => decide (x.1.1 < p))).foldl lcStep q).1 = q.1 + nl s p - nl s pos ∧
    (p = pos → (((cutsFrom s f pos).takeWhile (fun x => decide (x.1.1 < p))).foldl lcStep q).2 = q.2) ∧
    (pos < p → (bt s (p - 1) = 10 → (((cutsFrom s f pos).takeWhile (fun x => decide (x.1.1 < p))).foldl lcStep q).2 = 1) ∧ (bt s (p - 1) ≠ 10 → 1 < (((cutsFrom s f pos).takeWhile (fun x => decide (x.1.1 < p))).foldl lcStep q).2)) ∧
    (((cutsFrom s f pos).takeWhile (fun x => decide (x.1.1 < p))).foldl lcStep q).2 ≤ q.2 + p - pos := by
  intro f
  induction f with
  | zero =>
    intro pos q h1 h2 h3
    obtain rfl : pos = p := by omega
    rw [take_none s 0 pos pos (Nat.le_refl _)]
    simp
  | succ f ih =>
    intro pos q h1 h2 h3
    by_cases he : pos = p
    · subst he
      rw [take_none s _ pos pos (Nat.le_refl _)]
      simp
    · have hl : pos < s.size := by omega
      rw [take_one s f pos p hl (by omega)]
      rw [List.foldl_cons, step_num s pos hl]
      have hw := wid_pos s pos
      by_cases hb : bt s pos < 128
      · -- one byte
        have hw1 := (dec_low s pos hl hb).1
        rw [hw1]
        have hn : nl s (pos + 1) = nl s pos + if bt s pos = 10 then 1 else 0 := rfl
        by_cases h10 : bt s pos = 10
        · rw [if_pos h10] at hn ⊢
          obtain ⟨a1, a2, a3, a4⟩ := ih (pos + 1) (q.1 + 1, 1) (by omega) (by omega) (by simp)
          refine ⟨by rw [a1, hn]; simp; omega, fun h => absurd h.symm he, fun _ => ?_, by simp only at a4; omega⟩
          by_cases hp1 : p = pos + 1
          · rw [a2 hp1, hp1]
            exact ⟨fun _ => rfl, fun h => absurd h10 h⟩
          · exact a3 (by omega)
        · rw [if_neg h10] at hn ⊢
          obtain ⟨a1, a2, a3, a4⟩ := ih (pos + 1) (q.1, q.2 + 1) (by omega) (by omega) (by simp only; omega)
          refine ⟨by rw [a1, hn]; simp, fun h => absurd h.symm he, fun _ => ?_, by simp only at a4; omega⟩
          by_cases hp1 : p = pos + 1
          · rw [a2 hp1, hp1]
            exact ⟨fun h => absurd h h10, fun _ => by simp only; omega⟩
          · exact a3 (by omega)
      · obtain ⟨d1, _, d3⟩ := dec_high s pos hl (by omega)
        rw [if_neg (by omega)]
        by_cases hpw : p < pos + wid s pos
        · rw [take_none s f _ p (by omega)]
          have hs := nl_same s pos p (by omega) (fun i i1 i2 => by have := d3 (i - pos) (by omega); rw [show pos + (i - pos) = i by omega] at this; omega)
          have hlast := d3 (p - 1 - pos) (by omega)
          rw [show pos + (p - 1 - pos) = p - 1 by omega] at hlast
          refine ⟨by rw [hs]; simp, fun h => absurd h.symm he, fun _ => ⟨fun h => by omega, fun _ => by simp only [List.foldl_nil]; omega⟩, by simp only [List.foldl_nil]; omega⟩
        · obtain ⟨a1, a2, a3, a4⟩ := ih (pos + wid s pos) (q.1, q.2 + 1) (by omega) (by omega) (by simp only; omega)
          have hs := nl_same s pos (pos + wid s pos) (by omega) (fun i i1 i2 => by have := d3 (i - pos) (by omega); rw [show pos + (i - pos) = i by omega] at this; omega)
          refine ⟨by rw [a1, hs], fun h => absurd h.symm he, fun _ => ?_, by simp only at a4; omega⟩
          by_cases hp1 : p = pos + wid s pos
          · have hlast := d3 (wid s pos - 1) (by omega)
            rw [show pos + (wid s pos - 1) = p - 1 by omega] at hlast
            rw [a2 hp1]
            exact ⟨fun h => by omega, fun _ => by simp only; omega⟩
          · exact a3 (by omega)

theorem where_line (s : ByteArray) (p : Nat) (hp : p ≤ s.size) : (whereOf s p).1 = 1 + nl s p := by
  have := (where_from s p hp s.size 0 (1, 1) (by omega) (by omega) (by simp)).1
  unfold whereOf lc cuts
  rw [this]; simp [nl]
theorem where_col (s : ByteArray) (p : Nat) (hp : p ≤ s.size) : (p = 0 → (whereOf s p).2 = 1) ∧ (0 < p → (bt s (p - 1) = 10 → (whereOf s p).2 = 1) ∧ (bt s (p - 1) ≠ 10 → 1 < (whereOf s p).2)) ∧ (whereOf s p).2 ≤ 1 + p := by
  have := (where_from s p hp s.size 0 (1, 1) (by omega) (by omega) (by simp)).2
  unfold whereOf lc cuts
  refine ⟨this.1, this.2.1, ?_⟩
  have := this.2.2
  simpa using this
end Go.Proofs.Ytkoklkbjcfhmkaa
