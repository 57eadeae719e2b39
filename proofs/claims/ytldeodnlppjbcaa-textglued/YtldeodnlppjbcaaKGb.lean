import Derived.Test.YtldeodnlppjbcaaKGa
namespace Go.Proofs.Ytldeodnlppjbcaa
open Go.RowKit

/-! figures -/
theorem fo_fig {u : ByteArray} {q : Nat} (h : Fo u q) (hq : q < u.size) (hx : Bool) : figC u hx q = false := by
  rcases h with h | ⟨_, h⟩
  · omega
  · unfold figC
    rcases h with h | h <;> rw [h] <;> rfl
theorem fig_local {s u : ByteArray} {a b : Nat} (hx : Bool) : ∀ f x g, 1 ≤ x → s.size - (a + x) ≤ f → u.size - (b + x) ≤ g → a + x ≤ s.size → Sm s a u b (figF s hx f (a + x) - a) → Fo u (b + (figF s hx f (a + x) - a)) → figF u hx g (b + x) = b + (figF s hx f (a + x) - a)
  | f, x, g, h1, hf, hg, hl, hS, hF => by
    have stop : figF s hx f (a + x) = a + x → figF u hx g (b + x) = b + (figF s hx f (a + x) - a) := by
      intro he
      rw [he, Nat.add_sub_cancel_left] at hF ⊢
      exact figF_stop u hx g _ (fun h => by have := fo_fig hF h.1 hx; rw [this] at h; simp at h)
    cases f with
    | zero => exact stop rfl
    | succ f =>
      by_cases hc : a + x < s.size ∧ figC s hx (a + x) = true
      · have e : figF s hx (f + 1) (a + x) = figF s hx f (a + (x + 1)) := by rw [figF, if_pos hc]; rfl
        have hge := (figF_bd s hx f (a + (x + 1)) (by omega)).1
        rw [e] at hS hF ⊢
        have hr := hS.r
        have hcu : figC u hx (b + x) = true := by
          have e1 := hS.e x (by omega)
          have e2 := hS.e (x - 1) (by omega)
          have h2 := hc.2
          unfold figC at h2 ⊢
          rw [← e1, show b + x - 1 = b + (x - 1) by omega, ← e2, show a + (x - 1) = a + x - 1 by omega]
          exact h2
        obtain ⟨g', rfl⟩ : ∃ g', g = g' + 1 := ⟨g - 1, by omega⟩
        rw [figF, if_pos ⟨by omega, hcu⟩]
        exact fig_local hx f (x + 1) g' (by omega) (by omega) (by omega) (by omega) hS hF
      · exact stop (by rw [figF, if_neg hc])
theorem pre2 (s : ByteArray) (a : Nat) (x y : UInt8) : Lib.hasPrefix (sub s a).data.toList [x, y] = decide (a + 1 < s.size ∧ bt s a = x.toNat ∧ bt s (a + 1) = y.toNat) := by
  rw [sub_list]
  have hl : s.data.toList.length = s.size := by rw [Array.length_toList]; rfl
  have inj : ∀ p q : UInt8, (p == q) = decide (q.toNat = p.toNat) := by
    intro p q
    by_cases h : p = q
    · subst h; simp
    · have h1 : (p == q) = false := by simpa using h
      have h2 : ¬ q.toNat = p.toNat := fun e => h (UInt8.toNat.inj e.symm)
      rw [h1]; simp [h2]
  by_cases h : a + 1 < s.size
  · obtain ⟨b0, e0, c0⟩ := bt_list s a (by omega)
    obtain ⟨b1, e1, c1⟩ := bt_list s (a + 1) h
    have hd : s.data.toList.drop a = b0 :: b1 :: s.data.toList.drop (a + 2) := by
      have h0 : a < s.data.toList.length := by omega
      have h1 : a + 1 < s.data.toList.length := by omega
      rw [List.drop_eq_getElem_cons h0, List.drop_eq_getElem_cons h1]
      rw [List.getElem?_eq_getElem h0] at e0
      rw [List.getElem?_eq_getElem h1] at e1
      injection e0 with e0
      injection e1 with e1
      rw [e0, e1]
    rw [hd, ← c0, ← c1]
    simp only [Lib.hasPrefix, List.isPrefixOf, inj, h, true_and, Bool.and_true]
    by_cases p1 : b0.toNat = x.toNat <;> by_cases p2 : b1.toNat = y.toNat <;> simp [p1, p2]
  · have hn : (s.data.toList.drop a).length ≤ 1 := by rw [List.length_drop]; omega
    rw [decide_eq_false (fun hh => h hh.1)]
    match hm : s.data.toList.drop a, hn with
    | [], _ => rfl
    | [z], _ => simp [Lib.hasPrefix, List.isPrefixOf]
    | z :: z2 :: r, hn => simp at hn
theorem hexP_iff (s : ByteArray) (a : Nat) : hexP s a = true ↔ a + 1 < s.size ∧ bt s a = 48 ∧ (bt s (a + 1) = 120 ∨ bt s (a + 1) = 88) := by
  unfold hexP
  rw [pre2, pre2, Bool.or_eq_true, decide_eq_true_eq, decide_eq_true_eq]
  have e1 : (48 : UInt8).toNat = 48 := rfl
  have e2 : (120 : UInt8).toNat = 120 := rfl
  have e3 : (88 : UInt8).toNat = 88 := rfl
  rw [e1, e2, e3]
  omega
theorem hexP_local {s u : ByteArray} {a b : Nat} (ha : a < s.size) (hS : Sm s a u b (fgEnd s a - a)) (hF : Fo u (b + (fgEnd s a - a))) : hexP u b = hexP s a := by
  have hbd := fgEnd_bd s a ha
  have hr := hS.r
  have hl := hS.l
  by_cases h2 : 2 ≤ fgEnd s a - a
  · have e0 := hS.e 0 (by omega)
    have e1 := hS.e 1 (by omega)
    rw [Nat.add_zero, Nat.add_zero] at e0
    cases h : hexP s a with
    | true =>
      have := (hexP_iff s a).1 h
      exact (hexP_iff u b).2 ⟨by omega, by omega, by omega⟩
    | false =>
      cases h' : hexP u b with
      | false => rfl
      | true =>
        have := (hexP_iff u b).1 h'
        have := (hexP_iff s a).2 ⟨by omega, by omega, by omega⟩
        rw [h] at this; cases this
  · have h1 : fgEnd s a = a + 1 := by omega
    have f1 : hexP s a = false := by
      cases h : hexP s a with
      | false => rfl
      | true =>
        have hh := (hexP_iff s a).1 h
        have hc : figC s true (a + 1) = true := by
          unfold figC
          rcases hh.2.2 with h | h <;> rw [h] <;> rfl
        obtain ⟨g, _, hst⟩ := figF_step s true s.size (a + 1) hh.1 hc (by omega)
        have := (figF_bd s true g (a + 1 + 1) (by omega)).1
        unfold fgEnd at h1
        rw [h, hst] at h1
        omega
    have f2 : hexP u b = false := by
      cases h : hexP u b with
      | false => rfl
      | true =>
        have hh := (hexP_iff u b).1 h
        rw [h1, Nat.add_sub_cancel_left] at hF
        rcases hF with hF | ⟨_, hF⟩ <;> omega
    rw [f1, f2]
theorem fgEnd_local {s u : ByteArray} {a b : Nat} (ha : a < s.size) (hS : Sm s a u b (fgEnd s a - a)) (hF : Fo u (b + (fgEnd s a - a))) : fgEnd u b = b + (fgEnd s a - a) := by
  have hx := hexP_local ha hS hF
  have hbd := fgEnd_bd s a ha
  have := hS.r
  unfold fgEnd at hS hF hbd ⊢
  rw [hx]
  exact fig_local (hexP s a) s.size 1 u.size (by omega) (by omega) (by omega) (by omega) hS hF
/-! literals -/
theorem lit_local {s u : ByteArray} {a b m : Nat} : ∀ f x g y, 1 ≤ x → litF s m a f (a + x) = a + y → 0 < y → u.size - (b + x) ≤ g → Sm s a u b y → litF u m b g (b + x) = b + y
  | 0, x, g, y, _, h, hy, _, _ => by simp only [litF] at h; omega
  | f + 1, x, g, y, h1, h, hy, hg, hS => by
    have hr := hS.r
    by_cases hlt : a + x < s.size
    · have hxy : x < y := by
        rcases litF_le s m a (by omega) (f + 1) (a + x) (by omega) with h' | h' <;> omega
      obtain ⟨g', rfl⟩ : ∃ g', g = g' + 1 := ⟨g - 1, by omega⟩
      have e := hS.e x hxy
      unfold litF at h ⊢
      rw [if_pos hlt] at h
      rw [if_pos (by omega), ← e]
      split at h
      · rename_i c; rw [if_pos c]; omega
      · rename_i c; rw [if_neg c]
        split at h
        · omega
        · rename_i c2; rw [if_neg c2]
          split at h
          · rename_i c3; rw [if_pos c3]
            exact lit_local f (x + 2) g' y (by omega) h hy (by omega) hS
          · rename_i c3; rw [if_neg c3]
            exact lit_local f (x + 1) g' y (by omega) h hy (by omega) hS
    · unfold litF at h
      rw [if_neg hlt] at h
      omega
theorem litEnd_local {s u : ByteArray} {a b : Nat} (ha : a < s.size) (hne : litEnd s a ≠ a) (hS : Sm s a u b (litEnd s a - a)) : litEnd u b = b + (litEnd s a - a) := by
  have hle := litEnd_le s a ha
  have e0 := hS.e 0 (by omega)
  rw [Nat.add_zero, Nat.add_zero] at e0
  have h : litF s (bt s a) a s.size (a + 1) = a + (litEnd s a - a) := by unfold litEnd at *; omega
  unfold litEnd
  rw [← e0]
  exact lit_local s.size 1 u.size _ (by omega) h (by omega) (by omega) hS
theorem sm_extract {s u : ByteArray} {a b n : Nat} (hS : Sm s a u b n) : s.extract a (a + n) = u.extract b (b + n) := by
  have hl := hS.l
  have hr := hS.r
  apply ba_ext
  rw [Lib.extract_data, Lib.extract_data, Nat.add_sub_cancel_left, Nat.add_sub_cancel_left]
  have l1 : s.data.toList.length = s.size := by rw [Array.length_toList]; rfl
  have l2 : u.data.toList.length = u.size := by rw [Array.length_toList]; rfl
  apply List.ext_getElem?
  intro j
  by_cases hj : j < n
  · rw [List.getElem?_take_of_lt hj, List.getElem?_take_of_lt hj, List.getElem?_drop, List.getElem?_drop]
    obtain ⟨b0, e0, c0⟩ := bt_list s (a + j) (by omega)
    obtain ⟨b1, e1, c1⟩ := bt_list u (b + j) (by omega)
    rw [e0, e1]
    congr 1
    apply UInt8.toNat.inj
    rw [c0, c1]
    exact hS.e j hj
  · rw [List.getElem?_eq_none (by rw [List.length_take]; omega), List.getElem?_eq_none (by rw [List.length_take]; omega)]
theorem litV_local {s u : ByteArray} {a b : Nat} (ha : a < s.size) (hz : (litV s a).2.2.2 = 0) (hS : Sm s a u b ((litV s a).2.1 - a)) : litV u b = ((litV s a).1, b + ((litV s a).2.1 - a), 0, 0) := by
  have hne : litEnd s a ≠ a := by
    intro h
    unfold litV at hz
    rw [if_pos h] at hz
    simp at hz
  have hle := litEnd_le s a ha
  have hE : (litV s a).2.1 = litEnd s a := by
    unfold litV at hz ⊢
    rw [if_neg hne] at hz ⊢
    split at hz
    · rename_i c; rw [if_pos c]
      split at hz
      · rename_i c; rw [if_pos c]
      · rename_i c; exact absurd hz c
    · rename_i c; rw [if_neg c]
      split at hz
      · rename_i c; rw [if_pos c]
      · rename_i c; exact absurd hz c
  rw [hE] at hS ⊢
  have hu := litEnd_local ha hne hS
  have e0 := hS.e 0 (by omega)
  rw [Nat.add_zero, Nat.add_zero] at e0
  have hx := sm_extract hS
  rw [show a + (litEnd s a - a) = litEnd s a by omega] at hx
  unfold litV at hz ⊢
  rw [if_neg hne] at hz
  rw [if_neg (show ¬ litEnd u b = b by omega), if_neg hne, hu, ← e0, ← hx]
  split at hz
  · rename_i c; rw [if_pos c, if_pos c]
    split at hz
    · rename_i c; rw [if_pos c, if_pos c]
    · rename_i c; exact absurd hz c
  · rename_i c; rw [if_neg c, if_neg c]
    split at hz
    · rename_i c; rw [if_pos c, if_pos c]
    · rename_i c; exact absurd hz c
end Go.Proofs.Ytldeodnlppjbcaa
