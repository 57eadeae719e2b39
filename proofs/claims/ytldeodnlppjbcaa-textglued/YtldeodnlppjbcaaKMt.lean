import Derived.Test.YtldeodnlppjbcaaKMb
namespace Go.Proofs.Ytldeodnlppjbcaa
open Go.RowKit

/-- a number below 128 is the byte itself -/
theorem first_low (s : ByteArray) (a : Nat) (h : a < s.size) (n : Int) (h0 : 0 ≤ n) (h1 : n < 128) (hf : firstN (sub s a) = n) : (bt s a : Int) = n ∧ wid s a = 1 := by
  rw [first_sub s a h] at hf
  by_cases hb : bt s a < 128
  · have := dec_low s a h hb
    exact ⟨by rw [← hf, this.2], this.1⟩
  · have := (dec_high s a h (by omega)).2.1
    omega
theorem lnI_zero (s : ByteArray) (a : Nat) (h : a < s.size) (h0 : lnI s a = 0) : bt s a = 10 := by
  unfold lnI at h0
  rw [sub_list] at h0
  have hl : a < s.data.toList.length := by rw [Array.length_toList]; exact h
  rw [List.drop_eq_getElem_cons hl] at h0
  unfold Lib.indexByte at h0
  split at h0
  · rename_i hb
    have e : s.data.toList[a] = 10 := by simpa using hb
    rw [bt_eq s a h]
    have : (s[a]'h) = s.data.toList[a] := by simp [ByteArray.getElem_eq_getElem_data]
    rw [this, e]; rfl
  · split at h0
    · omega
    · have := Lib.indexByte_ge (s.data.toList.drop (a + 1)) 10
      rename_i hb
      have : Lib.indexByte (s.data.toList.drop (a + 1)) 10 ≠ -1 := by simpa using hb
      omega
theorem lnEnd_bd (s : ByteArray) (a : Nat) (h : a < s.size) (hb : bt s a ≠ 10) : a < lnEnd s a ∧ lnEnd s a ≤ s.size := by
  unfold lnEnd
  have h1 := lnI_lt s a
  have h2 := lnI_ge s a
  have h3 : lnI s a ≠ 0 := fun h0 => hb (lnI_zero s a h h0)
  split <;> omega
theorem cutsFrom_ge (s : ByteArray) : ∀ f pos, ∀ x ∈ cutsFrom s f pos, pos ≤ x.1.1
  | 0, pos, x, hx => by simp [cutsFrom] at hx
  | f + 1, pos, x, hx => by
    unfold cutsFrom at hx
    split at hx
    · rcases List.mem_cons.1 hx with rfl | hx
      · exact Nat.le_refl _
      · have := cutsFrom_ge s f _ x hx
        omega
    · simp at hx
theorem nmEnd_bd (s : ByteArray) (a : Nat) (h : a < s.size) (hn : nameL (firstN (sub s a)) = true) : a < nmEnd s a ∧ nmEnd s a ≤ s.size := by
  unfold nmEnd
  have hz : (sub s a).size = s.size - a := sub_size s a
  have hz0 : 0 < (sub s a).size := by omega
  have hc : cuts (sub s a) = cutAt (sub s a) 0 hz0 :: cutsFrom (sub s a) ((sub s a).size - 1) (0 + wid (sub s a) 0) := by
    unfold cuts
    obtain ⟨f, hf⟩ : ∃ f, (sub s a).size = f + 1 := ⟨(sub s a).size - 1, by omega⟩
    rw [show cutsFrom (sub s a) (sub s a).size 0 = cutsFrom (sub s a) (f + 1) 0 by rw [← hf], cutsFrom_step (sub s a) f 0 hz0, hf]
    rfl
  have hw := wid_pos (sub s a) 0
  have hfn : firstN (sub s a) = numAt (sub s a) 0 := by unfold firstN; rw [if_pos hz0]
  rw [hfn] at hn
  unfold nmO
  rw [hc, List.find?_cons_of_neg (by simp only [cutAt]; rw [hn]; simp)]
  cases hfi : List.find? (fun x => !nameL x.1.2) (cutsFrom (sub s a) ((sub s a).size - 1) (0 + wid (sub s a) 0)) with
  | none => simp only; omega
  | some x =>
    have hx := List.mem_of_find?_eq_some hfi
    have h1 := cutsFrom_ge _ _ _ x hx
    have h2 := x.2.1
    simp only
    omega
theorem figF_bd (s : ByteArray) (h : Bool) : ∀ f i, i ≤ s.size → i ≤ figF s h f i ∧ figF s h f i ≤ s.size
  | 0, i, hi => ⟨Nat.le_refl _, hi⟩
  | f + 1, i, hi => by
    unfold figF
    split
    · rename_i hc
      have := figF_bd s h f (i + 1) hc.1
      omega
    · omega
theorem fgEnd_bd (s : ByteArray) (a : Nat) (h : a < s.size) : a < fgEnd s a ∧ fgEnd s a ≤ s.size := by
  have := figF_bd s (hexP s a) s.size (a + 1) h
  unfold fgEnd
  omega
theorem sgF_le (s : ByteArray) (G : List ByteArray) (a : Nat) : ∀ k, sgF s G a k ≤ k
  | 0 => Nat.le_refl _
  | k + 1 => by
    unfold sgF
    split
    · exact Nat.le_refl _
    · have := sgF_le s G a k; omega
theorem sgL_bd (s : ByteArray) (G : List ByteArray) (a : Nat) (h : a < s.size) : a + sgL s G a ≤ s.size ∧ sgL s G a ≤ 3 := by
  have := sgF_le s G a (min 3 (s.size - a))
  unfold sgL
  omega
/-- what a literal's reading gives: an end behind it, or a place of the text -/
theorem litV_bd (s : ByteArray) (a : Nat) (h : a < s.size) : ((litV s a).2.2.2 = 0 → (a < (litV s a).2.1 ∧ (litV s a).2.1 ≤ s.size ∧ ((litV s a).1 = 3 ∨ (litV s a).1 = 4))) ∧ (0 ≤ (litV s a).2.2.1 ∧ (litV s a).2.2.1 ≤ s.size) := by
  have hle := litEnd_le s a h
  unfold litV
  split
  · refine ⟨fun h => by simp at h, by simp only; omega⟩
  · rename_i hne
    have hle2 : a < litEnd s a ∧ litEnd s a ≤ s.size := by omega
    have hsz : (s.extract a (litEnd s a)).size = litEnd s a - a := by simp; omega
    split
    · have hp := bV_place (s.extract a (litEnd s a))
      rw [hsz] at hp
      split
      · exact ⟨fun _ => ⟨hle2.1, hle2.2, .inl rfl⟩, by simp only; omega⟩
      · rename_i hb
        exact ⟨fun h => absurd h hb, by simp only; omega⟩
    · have hp := runeV_place (s.extract a (litEnd s a))
      rw [hsz] at hp
      split
      · exact ⟨fun _ => ⟨hle2.1, hle2.2, .inr rfl⟩, by simp only; omega⟩
      · rename_i hb
        exact ⟨fun h => absurd h hb, by simp only; omega⟩
end Go.Proofs.Ytldeodnlppjbcaa
