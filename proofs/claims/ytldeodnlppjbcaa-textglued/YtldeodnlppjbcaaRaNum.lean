import Derived.Test.YtldeodnlppjbcaaRaMath
namespace Go.Proofs.Ytldeodnlppjbcaa

theorem bt_list (s : ByteArray) (i : Nat) (h : i < s.size) : ∃ b : UInt8, s.data.toList[i]? = some b ∧ b.toNat = bt s i := by
  have hl : i < s.data.toList.length := by rw [Array.length_toList]; exact h
  refine ⟨s.data.toList[i], List.getElem?_eq_getElem hl, ?_⟩
  rw [bt_eq s i h]; rfl

theorem drop_three (s : ByteArray) (pos : Nat) (h : pos + 3 ≤ s.size) : ∃ b0 b1 b2 t, s.data.toList.drop pos = b0 :: b1 :: b2 :: t ∧ b0.toNat = bt s pos ∧ b1.toNat = bt s (pos + 1) ∧ b2.toNat = bt s (pos + 2) := by
  have hl : s.data.toList.length = s.size := by rw [Array.length_toList]; rfl
  obtain ⟨b0, e0, h0⟩ := bt_list s pos (by omega)
  obtain ⟨b1, e1, h1⟩ := bt_list s (pos + 1) (by omega)
  obtain ⟨b2, e2, h2⟩ := bt_list s (pos + 2) (by omega)
  refine ⟨b0, b1, b2, s.data.toList.drop (pos + 3), ?_, h0, h1, h2⟩
  obtain ⟨l0, g0⟩ := List.getElem?_eq_some_iff.1 e0
  obtain ⟨l1, g1⟩ := List.getElem?_eq_some_iff.1 e1
  obtain ⟨l2, g2⟩ := List.getElem?_eq_some_iff.1 e2
  rw [List.drop_eq_getElem_cons l0, List.drop_eq_getElem_cons l1, List.drop_eq_getElem_cons l2, g0, g1, g2]

theorem pre3_of (s : ByteArray) (pos : Nat) (h : pos + 3 ≤ s.size) (h0 : bt s pos = 239) (h1 : bt s (pos + 1) = 191) (h2 : bt s (pos + 2) = 189) : Lib.hasPrefix (s.data.toList.drop pos) [239, 191, 189] = true := by
  obtain ⟨b0, b1, b2, t, e, g0, g1, g2⟩ := drop_three s pos h
  rw [e]
  have e0 : b0 = 239 := UInt8.toNat_inj.1 (by rw [g0, h0]; rfl)
  have e1 : b1 = 191 := UInt8.toNat_inj.1 (by rw [g1, h1]; rfl)
  have e2 : b2 = 189 := UInt8.toNat_inj.1 (by rw [g2, h2]; rfl)
  subst e0; subst e1; subst e2
  simp [Lib.hasPrefix, List.isPrefixOf]
theorem pre3_to (s : ByteArray) (pos : Nat) (h : Lib.hasPrefix (s.data.toList.drop pos) [239, 191, 189] = true) : pos + 3 ≤ s.size ∧ bt s pos = 239 ∧ bt s (pos + 1) = 191 ∧ bt s (pos + 2) = 189 := by
  have hl : s.data.toList.length = s.size := by rw [Array.length_toList]; rfl
  have hsz : pos + 3 ≤ s.size := by
    unfold Lib.hasPrefix at h
    have := (List.isPrefixOf_iff_prefix.1 h).length_le
    simp only [List.length_cons, List.length_nil, List.length_drop] at this
    omega
  obtain ⟨b0, b1, b2, t, e, g0, g1, g2⟩ := drop_three s pos hsz
  rw [e] at h
  simp [Lib.hasPrefix, List.isPrefixOf] at h
  obtain ⟨x0, x1, x2⟩ := h
  refine ⟨hsz, ?_, ?_, ?_⟩
  · rw [← g0, ← x0]; rfl
  · rw [← g1, ← x1]; rfl
  · rw [← g2, ← x2]; rfl

theorem raN_cases (s : ByteArray) (i n : Nat) (r0 least : Int) : raN s i n r0 least = (0, 0) ∨ (raN s i n r0 least = (acc s i r0 (n - 1), n) ∧ least ≤ acc s i r0 (n - 1) ∧ i + n ≤ s.size ∧ (∀ j, j < n → 1 ≤ j → isCont s (i + j)) ∧ acc s i r0 (n - 1) ≤ 1114111 ∧ ¬ (55296 ≤ acc s i r0 (n - 1) ∧ acc s i r0 (n - 1) ≤ 57343)) := by
  unfold raN
  split
  · rename_i h
    exact .inr ⟨rfl, h.2.2.1, h.1, h.2.1, h.2.2.2.1, h.2.2.2.2⟩
  · exact .inl rfl

/-- what runeAt tells: nothing, or a rune's number and its bytes -/
theorem ra_cases (s : ByteArray) (i : Nat) : ra s i = (0, 0) ∨ (0 ≤ (ra s i).1 ∧ 1 ≤ (ra s i).2 ∧ ((ra s i).1 = 65533 → Lib.hasPrefix (s.data.toList.drop i) [239, 191, 189] = true)) := by
  have hb := bt_lt s i
  unfold ra
  by_cases a1 : bt s i < 128
  · rw [if_pos a1]; right; refine ⟨by simp, by simp, fun h => ?_⟩; simp only at h; omega
  · rw [if_neg a1]
    by_cases a2 : bt s i < 192
    · rw [if_pos a2]; exact .inl rfl
    · rw [if_neg a2]
      by_cases a3 : bt s i < 224
      · rw [if_pos a3]
        rcases raN_cases s i 2 ((bt s i : Int) - 192) 128 with h | ⟨h, g1, g2, g3, _⟩
        · exact .inl h
        · right
          have c1 := g3 1 (by omega) (by omega)
          have e := acc1 s i ((bt s i : Int) - 192)
          rw [h]
          simp only [Nat.reduceSub] at g1 ⊢
          exact ⟨by omega, by omega, fun x => by omega⟩
      · rw [if_neg a3]
        by_cases a4 : bt s i < 240
        · rw [if_pos a4]
          rcases raN_cases s i 3 ((bt s i : Int) - 224) 2048 with h | ⟨h, g1, g2, g3, _⟩
          · exact .inl h
          · right
            have c1 := g3 1 (by omega) (by omega)
            have c2 := g3 2 (by omega) (by omega)
            have e := acc2 s i ((bt s i : Int) - 224)
            rw [h]
            simp only [Nat.reduceSub] at g1 ⊢
            exact ⟨by omega, by omega, fun x => pre3_of s i g2 (by omega) (by omega) (by omega)⟩
        · rw [if_neg a4]
          by_cases a5 : bt s i < 248
          · rw [if_pos a5]
            rcases raN_cases s i 4 ((bt s i : Int) - 240) 65536 with h | ⟨h, g1, g2, g3, _⟩
            · exact .inl h
            · right
              rw [h]
              simp only [Nat.reduceSub] at g1 ⊢
              exact ⟨by omega, by omega, fun x => by omega⟩
          · rw [if_neg a5]; exact .inl rfl

theorem ra_fffd (s : ByteArray) (i : Nat) (h : Lib.hasPrefix (s.data.toList.drop i) [239, 191, 189] = true) : ra s i = (65533, 3) := by
  obtain ⟨h1, h2, h3, h4⟩ := pre3_to s i h
  have e := acc2 s i ((bt s i : Int) - 224)
  unfold ra
  rw [if_neg (by omega), if_neg (by omega), if_neg (by omega), if_pos (by omega)]
  rw [raN_good h1 (fun j j1 j2 => by
    rcases (show j = 1 ∨ j = 2 by omega) with rfl | rfl
    · unfold isCont; omega
    · unfold isCont; omega) (by simp only [Nat.reduceSub]; omega) (by simp only [Nat.reduceSub]; omega) (by simp only [Nat.reduceSub]; omega)]
  simp only [Nat.reduceSub]
  congr 1
  omega

theorem ra_num (s : ByteArray) (i : Nat) : (ra s i = (0, 0) ∧ numAt s i = -1 - (bt s i : Int) ∧ wid s i = 1) ∨ (0 ≤ numAt s i ∧ ra s i = (numAt s i, wid s i)) := by
  have hd := dec_ra s i
  rcases ra_cases s i with h | ⟨h1, h2, h3⟩
  · left
    have hp : Lib.hasPrefix (s.data.toList.drop i) [239, 191, 189] = false := by
      rw [Bool.eq_false_iff]
      intro hp
      have := ra_fffd s i hp
      rw [h] at this
      cases this
    rw [h] at hd
    have e : Utf8.decode s i = (65533, 1) := hd
    refine ⟨h, ?_, by unfold wid; rw [e]⟩
    unfold numAt
    rw [e, if_pos ⟨rfl, hp⟩]; rfl
  · right
    have e : Utf8.decode s i = ((ra s i).1.toNat, (ra s i).2) := by
      rw [hd]; unfold asDecode; rw [if_neg (by omega)]
    have en : numAt s i = (ra s i).1 := by
      unfold numAt
      rw [e]
      simp only
      rw [if_neg (fun c => by
        have := h3 (by omega)
        rw [c.2] at this
        cases this)]
      omega
    have ew : wid s i = (ra s i).2 := by unfold wid; rw [e]
    rw [en, ew]
    exact ⟨h1, rfl⟩
end Go.Proofs.Ytldeodnlppjbcaa
