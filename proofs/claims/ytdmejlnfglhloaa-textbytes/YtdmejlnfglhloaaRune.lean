import Derived.Test.YtdmejlnfglhloaaRdMath
import Derived.OwnWalk
namespace Go.Proofs.Ytdmejlnfglhloaa
open Go.RowKit

theorem esc_size {t : ByteArray} (h : (escV t).2.2.2 = true) : 2 ≤ (escV t).2.2.1 ∧ (escV t).2.2.1 ≤ t.size + 1 := by
  have hn : ∀ n, 0 < n → numOk (tl t) n = true → n ≤ t.size - 1 := by
    intro n h0 hk
    unfold numOk hexesAt at hk
    have := of_decide_eq_true hk
    split at this
    · rename_i c
      have := c.1
      rw [tl_size] at this
      omega
    · omega
  have h2 := hn 2 (by omega)
  have h4 := hn 4 (by omega)
  revert h
  unfold escV
  repeat' split
  all_goals intro h
  all_goals simp only at h ⊢
  all_goals first | contradiction | omega | (have := h2 h; omega) | (simp only [Bool.and_eq_true] at h; have := h4 h.1; omega)
theorem read_size {u : ByteArray} (hz : 0 < u.size) (h : (readV u).2.2.2 = 0) : 1 ≤ (readV u).2.2.1 ∧ (readV u).2.2.1 ≤ u.size := by
  revert h
  unfold readV
  split
  · split
    · rename_i hok
      intro _
      have := esc_size hok
      rw [tl_size] at this
      simp only
      omega
    · intro h; simp at h
  · split
    · intro h; simp at h
    · split
      · intro h; simp at h
      · split
        · intro h; simp at h
        · intro _
          have e : firstN u = numAt u 0 := by unfold firstN; rw [if_pos hz]
          simp only
          rw [e, runeLen_wid u 0 (by omega)]
          have h1 := wid_pos u 0
          have h2 := wid_le u 0 hz
          omega
theorem pre1 (l : List UInt8) : Lib.hasPrefix l [39] = match l with | [] => false | b :: _ => decide (b = 39) := by
  cases l with
  | nil => rfl
  | cons b t =>
    simp only [Lib.hasPrefix, List.isPrefixOf, Bool.and_true]
    by_cases c : b = 39
    · subst c; rfl
    · have : ((39 : UInt8) == b) = false := by rw [beq_eq_false_iff_ne]; exact fun h => c h.symm
      rw [this]; simp [c]
def qAt (s : ByteArray) (i : Nat) : Bool := decide (i < s.size ∧ bt s i = 39)
theorem pre_q (s : ByteArray) (i : Nat) : Lib.hasPrefix (s.data.toList.drop i) [39] = qAt s i := by
  have hl : s.data.toList.length = s.size := by rw [Array.length_toList]; rfl
  rw [pre1]
  unfold qAt
  by_cases h : i < s.size
  · obtain ⟨b, e, hb⟩ := bt_list s i h
    have hlt : i < s.data.toList.length := by omega
    rw [List.drop_eq_getElem_cons hlt]
    have e2 : s.data.toList[i] = b := by
      rw [List.getElem?_eq_getElem hlt] at e; injection e
    rw [e2, ← hb]
    simp only [h, true_and]
    by_cases c : b = 39
    · rw [c]; rfl
    · have c' : b.toNat ≠ 39 := fun k => c (by apply UInt8.toNat.inj; rw [k]; rfl)
      simp [c, c']
  · rw [List.drop_eq_nil_of_le (by omega)]
    simp [h]
abbrev Rv := Int × Int × Int
def runeV (s : ByteArray) : Rv :=
  if qAt s 0 = false then (0, 0, 11)
  else if s.size = 1 then (0, 1, 11)
  else if bt s 1 = 39 then (0, 1, 10)
  else if (readV (sub s 1)).2.2.2 ≠ 0 then (0, 1, (readV (sub s 1)).2.2.2)
  else if qAt s (1 + (readV (sub s 1)).2.2.1).toNat = false then (0, 1 + (readV (sub s 1)).2.2.1, 11)
  else if (1 + (readV (sub s 1)).2.2.1) + 1 < s.size then (0, 1 + (readV (sub s 1)).2.2.1 + 1, 10)
  else ((readV (sub s 1)).1, 0, 0)
def runeR (x : Rv) : Ending := .returned (.tuple #[.int .i32 x.1, .int .i64 x.2.1, .int .i64 x.2.2])
theorem pre_0 (s : ByteArray) : Lib.hasPrefix s.data.toList [39] = qAt s 0 := by
  rw [← pre_q, List.drop_zero]

end Go.Proofs.Ytdmejlnfglhloaa
