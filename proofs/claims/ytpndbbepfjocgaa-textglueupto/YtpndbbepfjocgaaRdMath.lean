import Derived.Test.YtpndbbepfjocgaaRead
import Derived.Test.YtpndbbepfjocgaaCRaMath
namespace Go.Proofs.Ytpndbbepfjocgaa
open Go.RowKit

def sub (s : ByteArray) (i : Nat) : ByteArray := s.extract i s.size
theorem tl_eq (s : ByteArray) : tl s = sub s 1 := rfl
theorem sub_list (s : ByteArray) (i : Nat) : (sub s i).data.toList = s.data.toList.drop i := by
  have hl : s.data.toList.length = s.size := by rw [Array.length_toList]; rfl
  unfold sub
  rw [Lib.extract_data, List.take_of_length_le (by rw [List.length_drop, hl]; exact Nat.le_refl _)]
theorem ba_ext {a b : ByteArray} (h : a.data.toList = b.data.toList) : a = b := by
  obtain ⟨⟨l⟩⟩ := a; obtain ⟨⟨m⟩⟩ := b
  simp only at h; rw [h]
theorem sub_sub (s : ByteArray) (i j : Nat) : sub (sub s i) j = sub s (i + j) := by
  apply ba_ext; rw [sub_list, sub_list, sub_list, List.drop_drop]
theorem sub_size (s : ByteArray) (i : Nat) : (sub s i).size = s.size - i := by simp [sub, ByteArray.size_extract]
theorem bt_out (s : ByteArray) (i : Nat) (h : s.size ≤ i) : bt s i = 0 := by
  unfold bt
  have : s.get! i = 0 := by
    obtain ⟨⟨l⟩⟩ := s
    simp only [ByteArray.get!, ByteArray.size] at *
    simp at h
    simp [h]; rfl
  rw [this]; rfl
theorem bt_sub (s : ByteArray) (i j : Nat) : bt (sub s i) j = bt s (i + j) := by
  by_cases h : i + j < s.size
  · have h' : j < (sub s i).size := by rw [sub_size]; omega
    obtain ⟨b, e, hb⟩ := bt_list s (i + j) h
    obtain ⟨b', e', hb'⟩ := bt_list (sub s i) j h'
    rw [sub_list, List.getElem?_drop, e] at e'
    rw [← hb, ← hb']; injection e' with e'; rw [e']
  · rw [bt_out s _ (by omega), bt_out _ _ (by rw [sub_size]; omega)]
theorem cn_sub (s : ByteArray) (i j : Nat) : cn (sub s i) j = cn s (i + j) := by
  unfold cn
  rw [bt_sub, sub_size]
  congr 1
  by_cases h : i + j < s.size <;> simp <;> omega
theorem decode_sub (s : ByteArray) (i : Nat) : Utf8.decode (sub s i) 0 = Utf8.decode s i := by
  rw [decode_bt, decode_bt]
  simp only [v3, v4, bt_sub, cn_sub, Nat.add_zero, Nat.zero_add]
  rfl
theorem numAt_sub (s : ByteArray) (i : Nat) : numAt (sub s i) 0 = numAt s i := by
  have h := bt_sub s i 0
  unfold bt at h
  unfold numAt
  rw [decode_sub, sub_list, List.drop_zero, h]; rfl
theorem wid_sub (s : ByteArray) (i : Nat) : wid (sub s i) 0 = wid s i := by unfold wid; rw [decode_sub]
theorem first_sub (s : ByteArray) (i : Nat) (h : i < s.size) : firstN (sub s i) = numAt s i := by
  unfold firstN; rw [if_pos (by rw [sub_size]; omega), numAt_sub]
theorem hx_sub (s : ByteArray) (i : Nat) : ∀ n, hx (sub s i) 0 n = hx s i n
  | 0 => rfl
  | n + 1 => by rw [hx, hx, hx_sub s i n, bt_sub, Nat.zero_add]
theorem hexes_sub (s : ByteArray) (i n : Nat) (hn : 0 < n) : hexesAt (sub s i) 0 n = hexesAt s i n := by
  unfold hexesAt
  simp only [hx_sub, bt_sub, sub_size, Nat.zero_add]
  by_cases h : i + n ≤ s.size ∧ (∀ j, j < n → 0 ≤ hexv (bt s (i + j)))
  · rw [if_pos h, if_pos ⟨by omega, h.2⟩]
  · rw [if_neg h, if_neg (fun c => h ⟨by omega, c.2⟩)]
theorem rl_one {s : ByteArray} {i n : Nat} {r0 least : Int} {r : Int} {w : Nat} (h : raN s i n r0 least = (r, w)) (hw : 1 ≤ w) : n = w ∧ r = acc s i r0 (n - 1) ∧ least ≤ r ∧ r ≤ 1114111 ∧ ¬ (55296 ≤ r ∧ r ≤ 57343) ∧ (∀ j, j < n → 1 ≤ j → isCont s (i + j)) := by
  rcases raN_cases s i n r0 least with e | ⟨e, a1, _, a3, a4, a5⟩
  · rw [e] at h; injection h with h1 h2; omega
  · rw [e] at h; injection h with h1 h2
    subst h1; subst h2
    exact ⟨rfl, rfl, a1, a4, a5, a3⟩
theorem runeLen_wid (s : ByteArray) (i : Nat) (h : 0 ≤ numAt s i) : Lib.runeLen (numAt s i) = wid s i := by
  rcases ra_num s i with ⟨_, e, _⟩ | ⟨_, e⟩
  · omega
  have hw := wid_pos s i
  generalize numAt s i = r at *
  generalize wid s i = w at *
  have hb := bt_lt s i
  unfold ra at e
  split at e
  · injection e with e1 e2; subst e1; subst e2
    unfold Lib.runeLen
    rw [if_neg (by omega), if_pos (by omega)]; rfl
  split at e
  · injection e with e1 e2; omega
  split at e
  · obtain ⟨a1, a2, a3, a4, a5, a6⟩ := rl_one e hw
    have c1 := a6 1 (by omega) (by omega)
    unfold isCont at c1
    subst a1
    rw [acc1] at a2
    unfold Lib.runeLen
    rw [if_neg (by omega), if_neg (by omega), if_pos (by omega)]; rfl
  split at e
  · obtain ⟨a1, a2, a3, a4, a5, a6⟩ := rl_one e hw
    have c1 := a6 1 (by omega) (by omega)
    have c2 := a6 2 (by omega) (by omega)
    unfold isCont at c1 c2
    subst a1
    rw [acc2] at a2
    unfold Lib.runeLen
    rw [if_neg (by omega), if_neg (by omega), if_neg (by omega), if_neg a5, if_pos (by omega)]; rfl
  split at e
  · obtain ⟨a1, a2, a3, a4, a5, a6⟩ := rl_one e hw
    subst a1
    unfold Lib.runeLen
    rw [if_neg (by omega), if_neg (by omega), if_neg (by omega), if_neg a5, if_neg (by omega), if_pos (by omega)]; rfl
  · injection e with e1 e2; omega
end Go.Proofs.Ytpndbbepfjocgaa
