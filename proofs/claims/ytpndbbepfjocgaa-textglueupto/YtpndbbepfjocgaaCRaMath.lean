import Derived.Test.YtpndbbepfjocgaaRuneAt
namespace Go.Proofs.Ytpndbbepfjocgaa

/-- the bytes that may follow -/
def cn (s : ByteArray) (j : Nat) : Bool := decide (j < s.size) && (bt s j / 64 == 2)
theorem cn_iff (s : ByteArray) (j : Nat) : cn s j = true ↔ j < s.size ∧ isCont s j := by
  have := bt_lt s j
  unfold cn isCont
  simp only [Bool.and_eq_true, decide_eq_true_eq, beq_iff_eq]
  omega
def v3 (s : ByteArray) (pos : Nat) : Nat := (bt s pos % 16) * 4096 + (bt s (pos + 1) % 64) * 64 + bt s (pos + 2) % 64
def v4 (s : ByteArray) (pos : Nat) : Nat := (bt s pos % 8) * 262144 + (bt s (pos + 1) % 64) * 4096 + (bt s (pos + 2) % 64) * 64 + bt s (pos + 3) % 64
theorem decode_bt (s : ByteArray) (pos : Nat) : Utf8.decode s pos =
    if bt s pos < 128 then (bt s pos, 1)
    else if bt s pos / 32 == 6 && cn s (pos + 1) then
      (if (bt s pos % 32) * 64 + bt s (pos + 1) % 64 ≥ 128 then ((bt s pos % 32) * 64 + bt s (pos + 1) % 64, 2) else (65533, 1))
    else if bt s pos / 16 == 14 && cn s (pos + 1) && cn s (pos + 2) then
      (if v3 s pos ≥ 2048 && Utf8.valid (v3 s pos) then (v3 s pos, 3) else (65533, 1))
    else if bt s pos / 8 == 30 && cn s (pos + 1) && cn s (pos + 2) && cn s (pos + 3) then
      (if v4 s pos ≥ 65536 && Utf8.valid (v4 s pos) then (v4 s pos, 4) else (65533, 1))
    else (65533, 1) := rfl

theorem valid_iff (c : Nat) : Utf8.valid c = true ↔ c ≤ 1114111 ∧ ¬ (55296 ≤ c ∧ c ≤ 57343) := by
  unfold Utf8.valid
  simp
  omega

theorem acc1 (s : ByteArray) (i : Nat) (r0 : Int) : acc s i r0 1 = r0 * 64 + bt s (i + 1) - 128 := by simp only [acc, Nat.zero_add]
theorem acc2 (s : ByteArray) (i : Nat) (r0 : Int) : acc s i r0 2 = (r0 * 64 + bt s (i + 1) - 128) * 64 + bt s (i + 2) - 128 := by simp only [acc, Nat.zero_add, Nat.reduceAdd]
theorem acc3 (s : ByteArray) (i : Nat) (r0 : Int) : acc s i r0 3 = ((r0 * 64 + bt s (i + 1) - 128) * 64 + bt s (i + 2) - 128) * 64 + bt s (i + 3) - 128 := by simp only [acc, Nat.zero_add, Nat.reduceAdd]

/-- what the model reads, by what runeAt tells -/
def asDecode (q : Int × Nat) : Nat × Nat := if q.2 = 0 then (65533, 1) else (q.1.toNat, q.2)

theorem dec2 (s : ByteArray) (pos : Nat) (h0 : 192 ≤ bt s pos) (h1 : bt s pos < 224) : Utf8.decode s pos = asDecode (raN s pos 2 (bt s pos - 192) 128) := by
  have b1 := bt_lt s (pos + 1)
  rw [decode_bt, if_neg (by omega)]
  have e1 : (bt s pos / 32 == 6) = true := by rw [beq_iff_eq]; omega
  have e2 : (bt s pos / 16 == 14) = false := by rw [beq_eq_false_iff_ne]; omega
  have e3 : (bt s pos / 8 == 30) = false := by rw [beq_eq_false_iff_ne]; omega
  simp only [e1, e2, e3, Bool.true_and, Bool.false_and, Bool.false_eq_true, if_false]
  have a1 := acc1 s pos ((bt s pos : Int) - 192)
  by_cases hc : cn s (pos + 1) = true
  · obtain ⟨hl, hc1, hc2⟩ := (cn_iff s (pos + 1)).1 hc
    rw [if_pos hc]
    by_cases hr : bt s pos % 32 * 64 + bt s (pos + 1) % 64 ≥ 128
    · rw [if_pos hr, raN_good (by omega) (fun j j1 j2 => by obtain rfl : j = 1 := by omega
                                                            exact ⟨hc1, hc2⟩) (by rw [show 2 - 1 = 1 from rfl, a1]; omega) (by rw [show 2 - 1 = 1 from rfl, a1]; omega) (by rw [show 2 - 1 = 1 from rfl, a1]; omega)]
      rw [show 2 - 1 = 1 from rfl, a1]
      simp only [asDecode]
      rw [if_neg (by omega)]
      congr 1
      omega
    · rw [if_neg hr, raN_bad (by rw [show 2 - 1 = 1 from rfl, a1]; omega)]; rfl
  · rw [if_neg hc]
    by_cases hl : pos + 2 ≤ s.size
    · rw [raN_lost (j := 1) (by omega) (by omega) (fun c => hc ((cn_iff s (pos + 1)).2 ⟨by omega, c⟩))]; rfl
    · rw [raN_short hl]; rfl

theorem dec3 (s : ByteArray) (pos : Nat) (h0 : 224 ≤ bt s pos) (h1 : bt s pos < 240) : Utf8.decode s pos = asDecode (raN s pos 3 (bt s pos - 224) 2048) := by
  have b1 := bt_lt s (pos + 1)
  have b2 := bt_lt s (pos + 2)
  rw [decode_bt, if_neg (by omega)]
  have e1 : (bt s pos / 32 == 6) = false := by rw [beq_eq_false_iff_ne]; omega
  have e2 : (bt s pos / 16 == 14) = true := by rw [beq_iff_eq]; omega
  have e3 : (bt s pos / 8 == 30) = false := by rw [beq_eq_false_iff_ne]; omega
  simp only [e1, e2, e3, Bool.true_and, Bool.false_and, Bool.false_eq_true, if_false]
  have a1 := acc2 s pos ((bt s pos : Int) - 224)
  by_cases hc : cn s (pos + 1) = true ∧ cn s (pos + 2) = true
  · obtain ⟨hl, hc1, hc2⟩ := (cn_iff s (pos + 1)).1 hc.1
    obtain ⟨hl', hd1, hd2⟩ := (cn_iff s (pos + 2)).1 hc.2
    rw [if_pos (by rw [hc.1, hc.2]; rfl)]
    have hr0 : v3 s pos = bt s pos % 16 * 4096 + bt s (pos + 1) % 64 * 64 + bt s (pos + 2) % 64 := rfl
    generalize v3 s pos = r at hr0 ⊢
    have ar : acc s pos ((bt s pos : Int) - 224) (3 - 1) = r := by rw [show 3 - 1 = 2 from rfl, a1]; omega
    by_cases hv : r ≥ 2048 ∧ Utf8.valid r = true
    · obtain ⟨v1, v2⟩ := (valid_iff r).1 hv.2
      rw [if_pos (by simp [hv.1, hv.2]), raN_good (by omega) (fun j j1 j2 => by
        rcases (show j = 1 ∨ j = 2 by omega) with rfl | rfl
        · exact ⟨hc1, hc2⟩
        · exact ⟨hd1, hd2⟩) (by rw [ar]; omega) (by rw [ar]; omega) (by rw [ar]; omega), ar]
      simp [asDecode]
    · rw [if_neg (by simpa using hv), raN_bad (by
        rw [ar]
        by_cases g : r ≥ 2048
        · have : ¬ (r ≤ 1114111 ∧ ¬ (55296 ≤ r ∧ r ≤ 57343)) := fun c => hv ⟨g, (valid_iff r).2 c⟩
          omega
        · omega)]; rfl
  · rw [if_neg (by simpa using hc)]
    by_cases hl : pos + 3 ≤ s.size
    · by_cases g : isCont s (pos + 1)
      · rw [raN_lost (j := 2) (by omega) (by omega) (fun c => hc ⟨(cn_iff s (pos + 1)).2 ⟨by omega, g⟩, (cn_iff s (pos + 2)).2 ⟨by omega, c⟩⟩)]; rfl
      · rw [raN_lost (j := 1) (by omega) (by omega) g]; rfl
    · rw [raN_short hl]; rfl

theorem dec4 (s : ByteArray) (pos : Nat) (h0 : 240 ≤ bt s pos) (h1 : bt s pos < 248) : Utf8.decode s pos = asDecode (raN s pos 4 (bt s pos - 240) 65536) := by
  have b1 := bt_lt s (pos + 1)
  have b2 := bt_lt s (pos + 2)
  have b3 := bt_lt s (pos + 3)
  rw [decode_bt, if_neg (by omega)]
  have e1 : (bt s pos / 32 == 6) = false := by rw [beq_eq_false_iff_ne]; omega
  have e2 : (bt s pos / 16 == 14) = false := by rw [beq_eq_false_iff_ne]; omega
  have e3 : (bt s pos / 8 == 30) = true := by rw [beq_iff_eq]; omega
  simp only [e1, e2, e3, Bool.true_and, Bool.false_and, Bool.false_eq_true, if_false]
  have a1 := acc3 s pos ((bt s pos : Int) - 240)
  by_cases hc : cn s (pos + 1) = true ∧ cn s (pos + 2) = true ∧ cn s (pos + 3) = true
  · obtain ⟨hl, hc1, hc2⟩ := (cn_iff s (pos + 1)).1 hc.1
    obtain ⟨hl', hd1, hd2⟩ := (cn_iff s (pos + 2)).1 hc.2.1
    obtain ⟨hl'', he1, he2⟩ := (cn_iff s (pos + 3)).1 hc.2.2
    rw [if_pos (by rw [hc.1, hc.2.1, hc.2.2]; rfl)]
    have hr0 : v4 s pos = bt s pos % 8 * 262144 + bt s (pos + 1) % 64 * 4096 + bt s (pos + 2) % 64 * 64 + bt s (pos + 3) % 64 := rfl
    generalize v4 s pos = r at hr0 ⊢
    have ar : acc s pos ((bt s pos : Int) - 240) (4 - 1) = r := by rw [show 4 - 1 = 3 from rfl, a1]; omega
    by_cases hv : r ≥ 65536 ∧ Utf8.valid r = true
    · obtain ⟨v1, v2⟩ := (valid_iff r).1 hv.2
      rw [if_pos (by simp [hv.1, hv.2]), raN_good (by omega) (fun j j1 j2 => by
        rcases (show j = 1 ∨ j = 2 ∨ j = 3 by omega) with rfl | rfl | rfl
        · exact ⟨hc1, hc2⟩
        · exact ⟨hd1, hd2⟩
        · exact ⟨he1, he2⟩) (by rw [ar]; omega) (by rw [ar]; omega) (by rw [ar]; omega), ar]
      simp [asDecode]
    · rw [if_neg (by simpa using hv), raN_bad (by
        rw [ar]
        by_cases g : r ≥ 65536
        · have : ¬ (r ≤ 1114111 ∧ ¬ (55296 ≤ r ∧ r ≤ 57343)) := fun c => hv ⟨g, (valid_iff r).2 c⟩
          omega
        · omega)]; rfl
  · rw [if_neg (by simpa [and_assoc] using hc)]
    by_cases hl : pos + 4 ≤ s.size
    · by_cases g : isCont s (pos + 1)
      · by_cases g' : isCont s (pos + 2)
        · rw [raN_lost (j := 3) (by omega) (by omega) (fun c => hc ⟨(cn_iff s (pos + 1)).2 ⟨by omega, g⟩, (cn_iff s (pos + 2)).2 ⟨by omega, g'⟩, (cn_iff s (pos + 3)).2 ⟨by omega, c⟩⟩)]; rfl
        · rw [raN_lost (j := 2) (by omega) (by omega) g']; rfl
      · rw [raN_lost (j := 1) (by omega) (by omega) g]; rfl
    · rw [raN_short hl]; rfl

theorem dec_ra (s : ByteArray) (pos : Nat) : Utf8.decode s pos = asDecode (ra s pos) := by
  have hb := bt_lt s pos
  unfold ra
  by_cases a1 : bt s pos < 128
  · rw [if_pos a1, decode_bt, if_pos a1]; simp [asDecode]
  · rw [if_neg a1]
    have hlost : bt s pos / 32 ≠ 6 → bt s pos / 16 ≠ 14 → bt s pos / 8 ≠ 30 → Utf8.decode s pos = asDecode (0, 0) := by
      intro x1 x2 x3
      rw [decode_bt, if_neg a1, if_neg (by simp [x1]), if_neg (by simp [x2]), if_neg (by simp [x3])]; rfl
    by_cases a2 : bt s pos < 192
    · rw [if_pos a2]; exact hlost (by omega) (by omega) (by omega)
    · rw [if_neg a2]
      by_cases a3 : bt s pos < 224
      · rw [if_pos a3]; exact dec2 s pos (by omega) a3
      · rw [if_neg a3]
        by_cases a4 : bt s pos < 240
        · rw [if_pos a4]; exact dec3 s pos (by omega) a4
        · rw [if_neg a4]
          by_cases a5 : bt s pos < 248
          · rw [if_pos a5]; exact dec4 s pos (by omega) a5
          · rw [if_neg a5]; exact hlost (by omega) (by omega) (by omega)
end Go.Proofs.Ytpndbbepfjocgaa
namespace Go.Proofs.Ytpndbbepfjocgaa

theorem bt_list (s : ByteArray) (i : Nat) (h : i < s.size) : ∃ b : UInt8, s.data.toList[i]? = some b ∧ b.toNat = bt s i := by
  have hl : i < s.data.toList.length := by rw [Array.length_toList]; exact h
  refine ⟨s.data.toList[i], List.getElem?_eq_getElem hl, ?_⟩
  rw [bt_eq s i h]; rfl

theorem drop_three (s : ByteArray) (pos : Nat) (h : pos + 3 ≤ s.size) : ∃ b0 b1 b2 t, s.data.toList.drop pos = b0 :: b1 :: b2 :: t ∧ b0.toNat = bt s pos ∧ b1.toNat = bt s (pos + 1) ∧ b2.toNat = bt s (pos + 2) := by
  have hl : s.data.toList.length = s.size := by rw [Array.length_toList]; rfl
  obtain ⟨b0, e0, h0⟩ := bt_list s pos (by omega)
  obtain ⟨b1, e1, h1⟩ := bt_list s (pos + 1) (by omega)
  obtain ⟨b2, e2, h2⟩ := bt_list s (pos + 2) (by omega)
  refine ⟨b0, b1, b2, s.data.toList.drop (pos + 3), ?_, h0, h1, h2⟩
  obtain ⟨l0, g0⟩ := List.getElem?_eq_some_iff.1 e0
  obtain ⟨l1, g1⟩ := List.getElem?_eq_some_iff.1 e1
  obtain ⟨l2, g2⟩ := List.getElem?_eq_some_iff.1 e2
  rw [List.drop_eq_getElem_cons l0, List.drop_eq_getElem_cons l1, List.drop_eq_getElem_cons l2, g0, g1, g2]

theorem pre3_of (s : ByteArray) (pos : Nat) (h : pos + 3 ≤ s.size) (h0 : bt s pos = 239) (h1 : bt s (pos + 1) = 191) (h2 : bt s (pos + 2) = 189) : Lib.hasPrefix (s.data.toList.drop pos) [239, 191, 189] = true := by
  obtain ⟨b0, b1, b2, t, e, g0, g1, g2⟩ := drop_three s pos h
  rw [e]
  have e0 : b0 = 239 := UInt8.toNat_inj.1 (by rw [g0, h0]; rfl)
  have e1 : b1 = 191 := UInt8.toNat_inj.1 (by rw [g1, h1]; rfl)
  have e2 : b2 = 189 := UInt8.toNat_inj.1 (by rw [g2, h2]; rfl)
  subst e0; subst e1; subst e2
  simp [Lib.hasPrefix, List.isPrefixOf]
theorem pre3_to (s : ByteArray) (pos : Nat) (h : Lib.hasPrefix (s.data.toList.drop pos) [239, 191, 189] = true) : pos + 3 ≤ s.size ∧ bt s pos = 239 ∧ bt s (pos + 1) = 191 ∧ bt s (pos + 2) = 189 := by
  have hl : s.data.toList.length = s.size := by rw [Array.length_toList]; rfl
  have hsz : pos + 3 ≤ s.size := by
    unfold Lib.hasPrefix at h
    have := (List.isPrefixOf_iff_prefix.1 h).length_le
    simp only [List.length_cons, List.length_nil, List.length_drop] at this
    omega
  obtain ⟨b0, b1, b2, t, e, g0, g1, g2⟩ := drop_three s pos hsz
  rw [e] at h
  simp [Lib.hasPrefix, List.isPrefixOf] at h
  obtain ⟨x0, x1, x2⟩ := h
  refine ⟨hsz, ?_, ?_, ?_⟩
  · rw [← g0, ← x0]; rfl
  · rw [← g1, ← x1]; rfl
  · rw [← g2, ← x2]; rfl

theorem raN_cases (s : ByteArray) (i n : Nat) (r0 least : Int) : raN s i n r0 least = (0, 0) ∨ (raN s i n r0 least = (acc s i r0 (n - 1), n) ∧ least ≤ acc s i r0 (n - 1) ∧ i + n ≤ s.size ∧ (∀ j, j < n → 1 ≤ j → isCont s (i + j)) ∧ acc s i r0 (n - 1) ≤ 1114111 ∧ ¬ (55296 ≤ acc s i r0 (n - 1) ∧ acc s i r0 (n - 1) ≤ 57343)) := by
  unfold raN
  split
  · rename_i h
    exact .inr ⟨rfl, h.2.2.1, h.1, h.2.1, h.2.2.2.1, h.2.2.2.2⟩
  · exact .inl rfl

/-- what runeAt tells: nothing, or a rune's number and its bytes -/
theorem ra_cases (s : ByteArray) (i : Nat) : ra s i = (0, 0) ∨ (0 ≤ (ra s i).1 ∧ 1 ≤ (ra s i).2 ∧ ((ra s i).1 = 65533 → Lib.hasPrefix (s.data.toList.drop i) [239, 191, 189] = true)) := by
  have hb := bt_lt s i
  unfold ra
  by_cases a1 : bt s i < 128
  · rw [if_pos a1]; right; refine ⟨by simp, by simp, fun h => ?_⟩; simp only at h; omega
  · rw [if_neg a1]
    by_cases a2 : bt s i < 192
    · rw [if_pos a2]; exact .inl rfl
    · rw [if_neg a2]
      by_cases a3 : bt s i < 224
      · rw [if_pos a3]
        rcases raN_cases s i 2 ((bt s i : Int) - 192) 128 with h | ⟨h, g1, g2, g3, _⟩
        · exact .inl h
        · right
          have c1 := g3 1 (by omega) (by omega)
          have e := acc1 s i ((bt s i : Int) - 192)
          rw [h]
          simp only [Nat.reduceSub] at g1 ⊢
          exact ⟨by omega, by omega, fun x => by omega⟩
      · rw [if_neg a3]
        by_cases a4 : bt s i < 240
        · rw [if_pos a4]
          rcases raN_cases s i 3 ((bt s i : Int) - 224) 2048 with h | ⟨h, g1, g2, g3, _⟩
          · exact .inl h
          · right
            have c1 := g3 1 (by omega) (by omega)
            have c2 := g3 2 (by omega) (by omega)
            have e := acc2 s i ((bt s i : Int) - 224)
            rw [h]
            simp only [Nat.reduceSub] at g1 ⊢
            exact ⟨by omega, by omega, fun x => pre3_of s i g2 (by omega) (by omega) (by omega)⟩
        · rw [if_neg a4]
          by_cases a5 : bt s i < 248
          · rw [if_pos a5]
            rcases raN_cases s i 4 ((bt s i : Int) - 240) 65536 with h | ⟨h, g1, g2, g3, _⟩
            · exact .inl h
            · right
              rw [h]
              simp only [Nat.reduceSub] at g1 ⊢
              exact ⟨by omega, by omega, fun x => by omega⟩
          · rw [if_neg a5]; exact .inl rfl

theorem ra_fffd (s : ByteArray) (i : Nat) (h : Lib.hasPrefix (s.data.toList.drop i) [239, 191, 189] = true) : ra s i = (65533, 3) := by
  obtain ⟨h1, h2, h3, h4⟩ := pre3_to s i h
  have e := acc2 s i ((bt s i : Int) - 224)
  unfold ra
  rw [if_neg (by omega), if_neg (by omega), if_neg (by omega), if_pos (by omega)]
  rw [raN_good h1 (fun j j1 j2 => by
    rcases (show j = 1 ∨ j = 2 by omega) with rfl | rfl
    · unfold isCont; omega
    · unfold isCont; omega) (by simp only [Nat.reduceSub]; omega) (by simp only [Nat.reduceSub]; omega) (by simp only [Nat.reduceSub]; omega)]
  simp only [Nat.reduceSub]
  congr 1
  omega

theorem ra_num (s : ByteArray) (i : Nat) : (ra s i = (0, 0) ∧ numAt s i = -1 - (bt s i : Int) ∧ wid s i = 1) ∨ (0 ≤ numAt s i ∧ ra s i = (numAt s i, wid s i)) := by
  have hd := dec_ra s i
  rcases ra_cases s i with h | ⟨h1, h2, h3⟩
  · left
    have hp : Lib.hasPrefix (s.data.toList.drop i) [239, 191, 189] = false := by
      rw [Bool.eq_false_iff]
      intro hp
      have := ra_fffd s i hp
      rw [h] at this
      cases this
    rw [h] at hd
    have e : Utf8.decode s i = (65533, 1) := hd
    refine ⟨h, ?_, by unfold wid; rw [e]⟩
    unfold numAt
    rw [e, if_pos ⟨rfl, hp⟩]; rfl
  · right
    have e : Utf8.decode s i = ((ra s i).1.toNat, (ra s i).2) := by
      rw [hd]; unfold asDecode; rw [if_neg (by omega)]
    have en : numAt s i = (ra s i).1 := by
      unfold numAt
      rw [e]
      simp only
      rw [if_neg (fun c => by
        have := h3 (by omega)
        rw [c.2] at this
        cases this)]
      omega
    have ew : wid s i = (ra s i).2 := by unfold wid; rw [e]
    rw [en, ew]
    exact ⟨h1, rfl⟩
end Go.Proofs.Ytpndbbepfjocgaa
