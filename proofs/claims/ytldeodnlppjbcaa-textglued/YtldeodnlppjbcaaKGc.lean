import Derived.Test.YtldeodnlppjbcaaKGb
import Derived.Test.YtldeodnlppjbcaaKSt
namespace Go.Proofs.Ytldeodnlppjbcaa
open Go.RowKit

theorem bt_ext (u : ByteArray) (b e j : Nat) (h : j < e - b) (he : e ≤ u.size) : bt (u.extract b e) j = bt u (b + j) := by
  have hz : (u.extract b e).size = e - b := by simp; omega
  obtain ⟨x, e0, c0⟩ := bt_list (u.extract b e) j (by omega)
  obtain ⟨y, e1, c1⟩ := bt_list u (b + j) (by omega)
  rw [← c0, ← c1]
  rw [Lib.extract_data, List.getElem?_take_of_lt h, List.getElem?_drop, e1] at e0
  injection e0 with e0
  rw [e0]
set_option maxRecDepth 100000 in
theorem sg_byte : ∀ c : Fin 256, 0 ≤ sgI c.val → (c.val < 128 ∧ c.val ≠ 32 ∧ c.val ≠ 10 ∧ c.val ≠ 9 ∧ c.val ≠ 13 ∧ c.val ≠ 35 ∧ c.val ≠ 95 ∧ c.val ≠ 34 ∧ c.val ≠ 39) ∧ letterL (c.val : Int) = false ∧ digitL (c.val : Int) = false := by decide +kernel
theorem sg_b (c : Nat) (hc : c < 256) (h : 0 ≤ sgI c) : (c < 128 ∧ c ≠ 32 ∧ c ≠ 10 ∧ c ≠ 9 ∧ c ≠ 13 ∧ c ≠ 35 ∧ c ≠ 95 ∧ c ≠ 34 ∧ c ≠ 39) ∧ letterL (c : Int) = false ∧ digitL (c : Int) = false := sg_byte ⟨c, hc⟩ h
theorem isSg_at {x : ByteArray} (h : isSg x = true) (j : Nat) (hj : j < x.size) : 0 ≤ sgI (bt x j) := by
  unfold isSg at h
  simp only [Bool.and_eq_true] at h
  have := sgA_mono x (j + 1) x.size hj h.2
  simp only [sgA, Bool.and_eq_true, decide_eq_true_eq] at this
  exact this.2
theorem mayB_sg {G : List ByteArray} (h : mayB G = true) : ∀ x ∈ G, isSg x = true := by
  intro x hx
  obtain ⟨k, hk, rfl⟩ := List.getElem_of_mem hx
  unfold mayB at h
  simp only [Bool.and_eq_true] at h
  have := mayF_mono G (k + 1) G.length hk h.2
  simp only [mayF, Bool.and_eq_true] at this
  have h2 := this.2.1
  rw [List.getD_eq_getElem?_getD, List.getElem?_eq_getElem hk] at h2
  exact h2
theorem sgF_has (s : ByteArray) (G : List ByteArray) (a : Nat) : ∀ k, sgF s G a k ≠ 0 → Lib.containsS G (s.extract a (a + sgF s G a k)) = true
  | 0, h => absurd rfl h
  | k + 1, h => by
    unfold sgF at h ⊢
    split
    · assumption
    · rename_i c
      rw [if_neg c] at h
      exact sgF_has s G a k h
theorem sg_local {u : ByteArray} {G : List ByteArray} {b m : Nat} (hm : mayB G = true) (h0 : 0 < m) (hT : Lib.containsS G (u.extract b (b + m)) = true) (hr : b + m ≤ u.size) (hF : Fo u (b + m)) : ∀ k, m ≤ k → b + k ≤ u.size → sgF u G b k = m
  | 0, h, _ => by omega
  | k + 1, h, hk => by
    unfold sgF
    by_cases hkm : k + 1 = m
    · rw [hkm, if_pos hT]
    · rw [if_neg (fun hc => ?_)]
      · exact sg_local hm h0 hT hr hF k (by omega) (by omega)
      · have hmem := (Lib.containsS_iff _ _).1 hc
        have hsz : (u.extract b (b + (k + 1))).size = k + 1 := by simp; omega
        have h1 := isSg_at (mayB_sg hm _ hmem) m (by omega)
        rw [bt_ext u b _ m (by omega) hk] at h1
        have := (sg_b _ (bt_lt u (b + m)) h1).1
        rcases hF with hF | ⟨_, hF⟩ <;> omega
theorem first_of (u : ByteArray) (b : Nat) (hb : b < u.size) (h : bt u b < 128) : firstN (sub u b) = bt u b := by rw [first_sub u b hb, (dec_low u b hb h).2]
/-- a token is the same wherever it stands -/
theorem stp_local {s u : ByteArray} {G : List ByteArray} {a b : Nat} (hm : mayB G = true) (ha : a < s.size) (hw : (stp s G a).what = 1) (hS : Sm s a u b ((stp s G a).go - a)) (hF : Fo u (b + ((stp s G a).go - a))) :
    stp u G b = ⟨1, (stp s G a).kind, b + ((stp s G a).go - a), 0, 0⟩ := by
  have hgo : a < (stp s G a).go := by
    rcases stp_cases s G a ha with ⟨h1, _⟩ | ⟨_, h2, _⟩ | ⟨h1, _⟩
    · omega
    · exact h2
    · omega
  have hr := hS.r
  have hb : b < u.size := by omega
  have e0 := hS.e 0 (by omega)
  rw [Nat.add_zero, Nat.add_zero] at e0
  -- a first number below 128 is the same in both
  have low : ∀ n : Int, 0 ≤ n → n < 128 → firstN (sub s a) = n → firstN (sub u b) = n := by
    intro n h0 h1 hn
    have h2 := (first_low s a ha n h0 h1 hn).1
    rw [first_of u b hb (by omega), ← e0, h2]
  by_cases c1 : firstN (sub s a) = 9 ∨ firstN (sub s a) = 13 ∨ firstN (sub s a) = 32
  · have : (stp s G a).what = 0 := by unfold stp; rw [if_pos c1]
    omega
  by_cases c2 : firstN (sub s a) = 35
  · have : (stp s G a).what = 0 := by unfold stp; rw [if_neg c1, if_pos c2]
    omega
  by_cases c3 : firstN (sub s a) = 10
  · have e : stp s G a = ⟨1, 6, a + 1, 0, 0⟩ := by unfold stp; rw [if_neg c1, if_neg c2, if_pos c3]
    have f := low 10 (by omega) (by omega) c3
    rw [e]
    unfold stp
    rw [f, if_neg (by omega), if_neg (by omega), if_pos rfl]
    simp
  by_cases c4 : firstN (sub s a) = 95 ∨ letterL (firstN (sub s a)) = true
  · have e : stp s G a = ⟨1, 1, nmEnd s a, 0, 0⟩ := by unfold stp; rw [if_neg c1, if_neg c2, if_neg c3, if_pos c4]
    have hnl : nameL (numAt s a) = true := by
      rw [← first_sub s a ha]
      unfold nameL
      rcases c4 with c | c <;> simp [c]
    rw [e] at hS hF ⊢
    have hwd : a + wid s a ≤ nmEnd s a := by
      rw [nmEnd_F s a (by omega)]
      obtain ⟨f, hf⟩ : ∃ f, s.size - a = f + 1 := ⟨s.size - a - 1, by omega⟩
      rw [hf, nmF, if_pos ⟨ha, hnl⟩]
      exact nmF_ge s f _
    obtain ⟨n1, n2⟩ := num_local (u := u) (b := b) (nameL_nn hnl) (hS.less (by simp only; omega))
    have f : firstN (sub u b) = firstN (sub s a) := by rw [first_sub u b hb, first_sub s a ha, n1]
    have hn := nmEnd_local (by omega) (by omega) hS hF
    unfold stp
    rw [f, if_neg c1, if_neg c2, if_neg c3, if_pos c4, hn]
  by_cases c5 : digitL (firstN (sub s a)) = true
  · have e : stp s G a = ⟨1, 2, fgEnd s a, 0, 0⟩ := by unfold stp; rw [if_neg c1, if_neg c2, if_neg c3, if_neg c4, if_pos c5]
    have hd : 48 ≤ firstN (sub s a) ∧ firstN (sub s a) ≤ 57 := by
      unfold digitL at c5
      simpa using c5
    have f := low (firstN (sub s a)) (by omega) (by omega) rfl
    rw [e] at hS hF ⊢
    have hn := fgEnd_local ha hS hF
    unfold stp
    rw [f, if_neg c1, if_neg c2, if_neg c3, if_neg c4, if_pos c5, hn]
  by_cases c6 : firstN (sub s a) = 34 ∨ firstN (sub s a) = 39
  · have f := low (firstN (sub s a)) (by omega) (by omega) rfl
    by_cases hz : (litV s a).2.2.2 = 0
    · have e : stp s G a = ⟨1, (litV s a).1, (litV s a).2.1, 0, 0⟩ := by unfold stp; rw [if_neg c1, if_neg c2, if_neg c3, if_neg c4, if_neg c5, if_pos c6, if_pos hz]
      rw [e] at hS hF ⊢
      have hn := litV_local ha hz hS
      unfold stp
      rw [f, if_neg c1, if_neg c2, if_neg c3, if_neg c4, if_neg c5, if_pos c6, hn, if_pos rfl]
    · have : (stp s G a).what = 2 := by unfold stp; rw [if_neg c1, if_neg c2, if_neg c3, if_neg c4, if_neg c5, if_pos c6, if_neg hz]
      omega
  by_cases c7 : sgL s G a = 0
  · have : (stp s G a).what = 2 := by unfold stp; rw [if_neg c1, if_neg c2, if_neg c3, if_neg c4, if_neg c5, if_neg c6, if_pos c7]
    omega
  have e : stp s G a = ⟨1, 5, a + sgL s G a, 0, 0⟩ := by unfold stp; rw [if_neg c1, if_neg c2, if_neg c3, if_neg c4, if_neg c5, if_neg c6, if_neg c7]
  have hbd := sgL_bd s G a ha
  rw [e] at hS hF ⊢
  simp only [Nat.add_sub_cancel_left] at hS hF ⊢
  have hhas : Lib.containsS G (s.extract a (a + sgL s G a)) = true := sgF_has s G a _ c7
  have hx := sm_extract hS
  have hb2 : bt s a < 128 := by
    have hmem := (Lib.containsS_iff _ _).1 hhas
    have hsz : (s.extract a (a + sgL s G a)).size = sgL s G a := by simp; omega
    have h1 := isSg_at (mayB_sg hm _ hmem) 0 (by omega)
    rw [bt_ext s a _ 0 (by omega) hbd.1] at h1
    have := (sg_b _ (bt_lt s (a + 0)) h1).1
    simp only [Nat.add_zero] at this
    omega
  have f : firstN (sub u b) = firstN (sub s a) := by rw [first_of u b hb (by omega), first_of s a ha hb2, e0]
  have hsg : sgL u G b = sgL s G a := by
    rw [hx] at hhas
    have hr2 := hS.r
    exact sg_local hm (show 0 < sgL s G a by omega) hhas hr2 hF (min 3 (u.size - b)) (by omega) (by omega)
  unfold stp
  rw [f, if_neg c1, if_neg c2, if_neg c3, if_neg c4, if_neg c5, if_neg c6, hsg, if_neg c7]
end Go.Proofs.Ytldeodnlppjbcaa
