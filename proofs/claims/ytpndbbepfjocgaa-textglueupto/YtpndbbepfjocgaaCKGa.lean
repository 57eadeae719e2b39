import Derived.Test.YtpndbbepfjocgaaCKLt
import Derived.Test.YtpndbbepfjocgaaCKTk
namespace Go.Proofs.Ytpndbbepfjocgaa
open Go.RowKit

/-- the same bytes at two places -/
structure Sm (s : ByteArray) (a : Nat) (u : ByteArray) (b n : Nat) : Prop where
  l : a + n ≤ s.size
  r : b + n ≤ u.size
  e : ∀ j, j < n → bt s (a + j) = bt u (b + j)
theorem Sm.less {s u : ByteArray} {a b n m : Nat} (h : Sm s a u b n) (hm : m ≤ n) : Sm s a u b m := ⟨by have := h.l; omega, by have := h.r; omega, fun j hj => h.e j (by omega)⟩
theorem Sm.from {s u : ByteArray} {a b n k : Nat} (h : Sm s a u b n) (hk : k ≤ n) : Sm s (a + k) u (b + k) (n - k) := ⟨by have := h.l; omega, by have := h.r; omega, fun j hj => by have := h.e (k + j) (by omega); rw [Nat.add_assoc, Nat.add_assoc]; exact this⟩
/-- what ends a name or a figure -/
def Fo (u : ByteArray) (q : Nat) : Prop := q = u.size ∨ (q < u.size ∧ (bt u q = 32 ∨ bt u q = 10))
theorem acc_local {s u : ByteArray} {a b : Nat} (r0 : Int) : ∀ k, (∀ j, 1 ≤ j → j ≤ k → bt s (a + j) = bt u (b + j)) → acc s a r0 k = acc u b r0 k
  | 0, _ => rfl
  | k + 1, h => by
    simp only [acc]
    rw [acc_local r0 k (fun j h1 h2 => h j h1 (by omega)), h (k + 1) (by omega) (Nat.le_refl _)]
theorem raN_local {s u : ByteArray} {a b n m : Nat} {r0 least r : Int} (h : raN s a n r0 least = (r, m)) (hm : 1 ≤ m) (hS : Sm s a u b m) : raN u b n r0 least = (r, m) := by
  have hc : a + n ≤ s.size ∧ (∀ j, j < n → 1 ≤ j → isCont s (a + j)) ∧ least ≤ acc s a r0 (n - 1) ∧ acc s a r0 (n - 1) ≤ 1114111 ∧ ¬ (55296 ≤ acc s a r0 (n - 1) ∧ acc s a r0 (n - 1) ≤ 57343) := by
    unfold raN at h
    split at h
    · assumption
    · simp only [Prod.mk.injEq] at h; omega
  unfold raN at h
  rw [if_pos hc] at h
  simp only [Prod.mk.injEq] at h
  obtain ⟨hr, rfl⟩ := h
  have hacc : acc s a r0 (n - 1) = acc u b r0 (n - 1) := acc_local r0 (n - 1) (fun j h1 h2 => hS.e j (by omega))
  unfold raN
  rw [← hacc, if_pos ⟨hS.r, fun j h1 h2 => by have := hc.2.1 j h1 h2; unfold isCont at *; rw [← hS.e j h1]; exact this, hc.2.2⟩, hr]
theorem ra_local {s u : ByteArray} {a b : Nat} {r : Int} {m : Nat} (h : ra s a = (r, m)) (hm : 1 ≤ m) (hS : Sm s a u b m) : ra u b = (r, m) := by
  have h0 : bt s a = bt u b := by have := hS.e 0 (by omega); simpa using this
  unfold ra at h ⊢
  rw [← h0]
  split at h
  · rename_i c; rw [if_pos c]; exact h
  · rename_i c; rw [if_neg c]
    split at h
    · simp only [Prod.mk.injEq] at h; omega
    · rename_i c; rw [if_neg c]
      split at h
      · rename_i c; rw [if_pos c]; exact raN_local h hm hS
      · rename_i c; rw [if_neg c]
        split at h
        · rename_i c; rw [if_pos c]; exact raN_local h hm hS
        · rename_i c; rw [if_neg c]
          split at h
          · rename_i c; rw [if_pos c]; exact raN_local h hm hS
          · simp only [Prod.mk.injEq] at h; omega
theorem num_local {s u : ByteArray} {a b : Nat} (h0 : 0 ≤ numAt s a) (hS : Sm s a u b (wid s a)) : numAt u b = numAt s a ∧ wid u b = wid s a := by
  have hw := wid_pos s a
  rcases ra_num s a with ⟨_, h2, _⟩ | ⟨_, h2⟩
  · have := bt_lt s a; omega
  · have h3 := ra_local h2 hw hS
    rcases ra_num u b with ⟨h4, _⟩ | ⟨_, h4⟩
    · rw [h4] at h3; simp only [Prod.mk.injEq] at h3; omega
    · rw [h4] at h3; simp only [Prod.mk.injEq] at h3; exact h3
theorem wid_leG (s : ByteArray) (p : Nat) (h : p < s.size) : p + wid s p ≤ s.size := by
  by_cases hb : bt s p < 128
  · rw [(dec_low s p h hb).1]; exact h
  · exact (dec_high s p h (by omega)).1
theorem num_sub (s : ByteArray) (a p : Nat) : numAt (sub s a) p = numAt s (a + p) := by rw [← numAt_sub (sub s a) p, sub_sub, numAt_sub]
theorem wid_subp (s : ByteArray) (a p : Nat) : wid (sub s a) p = wid s (a + p) := by rw [← wid_sub (sub s a) p, sub_sub, wid_sub]
/-- a name's end, thing by thing -/
def nmF (s : ByteArray) : Nat → Nat → Nat
  | 0, p => p
  | f + 1, p => if p < s.size ∧ nameL (numAt s p) = true then nmF s f (p + wid s p) else p
def nmM (t : ByteArray) (l : Option (Cut t)) : Nat := match l with
  | some x => x.1.1
  | none => t.size
theorem nmO_M (t : ByteArray) : nmO t = nmM t ((cuts t).find? (fun x => !nameL x.1.2)) := by
  unfold nmO nmM
  cases (cuts t).find? (fun x => !nameL x.1.2) <;> rfl
theorem find_nm (t : ByteArray) : ∀ f pos, t.size - pos ≤ f → pos ≤ t.size → nmM t ((cutsFrom t f pos).find? (fun x => !nameL x.1.2)) = nmF t f pos
  | 0, pos, h1, h2 => by simp only [cutsFrom, List.find?_nil, nmF, nmM]; omega
  | f + 1, pos, h1, h2 => by
    by_cases hlt : pos < t.size
    · rw [cutsFrom_step t f pos hlt]
      unfold nmF
      cases hn : nameL (numAt t pos) with
      | true =>
        rw [if_pos ⟨hlt, rfl⟩, List.find?_cons_of_neg (by simp [cutAt, hn])]
        have := wid_pos t pos
        exact find_nm t f _ (by omega) (wid_leG t pos hlt)
      | false =>
        rw [if_neg (by simp), List.find?_cons_of_pos (by simp [cutAt, hn])]
        rfl
    · rw [cutsFrom_end t _ pos hlt]
      unfold nmF
      rw [if_neg (fun h => hlt h.1)]
      simp only [List.find?_nil, nmM]; omega
theorem nmF_sub (s : ByteArray) (a : Nat) : ∀ f p, a ≤ s.size → a + nmF (sub s a) f p = nmF s f (a + p)
  | 0, p, _ => rfl
  | f + 1, p, h => by
    unfold nmF
    rw [num_sub, wid_subp, sub_size]
    by_cases hc : a + p < s.size ∧ nameL (numAt s (a + p)) = true
    · rw [if_pos hc, if_pos ⟨by omega, hc.2⟩, nmF_sub s a f _ h, Nat.add_assoc]
    · rw [if_neg hc, if_neg (fun h => hc ⟨by omega, h.2⟩)]
theorem nmEnd_F (s : ByteArray) (a : Nat) (h : a ≤ s.size) : nmEnd s a = nmF s (s.size - a) a := by
  have := find_nm (sub s a) (sub s a).size 0 (by omega) (Nat.zero_le _)
  unfold nmEnd
  rw [nmO_M, cuts, this, nmF_sub s a _ 0 h, sub_size, Nat.add_zero]
theorem nmF_ge (s : ByteArray) : ∀ f p, p ≤ nmF s f p
  | 0, p => Nat.le_refl _
  | f + 1, p => by
    unfold nmF
    split
    · have := nmF_ge s f (p + wid s p); omega
    · exact Nat.le_refl _
theorem fo_num {u : ByteArray} {q : Nat} (h : Fo u q) (hq : q < u.size) : nameL (numAt u q) = false := by
  rcases h with h | ⟨_, h⟩
  · omega
  · have := (dec_low u q hq (by omega)).2
    rw [this]
    rcases h with h | h <;> rw [h] <;> rfl
theorem nameL_nn {n : Int} (h : nameL n = true) : 0 ≤ n := by
  unfold nameL letterL plainL digitL at h
  simp only [Bool.or_eq_true, Bool.and_eq_true, decide_eq_true_eq] at h
  omega
theorem nm_local {s u : ByteArray} : ∀ f p q g, p ≤ s.size → s.size - p ≤ f → u.size - q ≤ g → Sm s p u q (nmF s f p - p) → Fo u (q + (nmF s f p - p)) → nmF u g q = q + (nmF s f p - p)
  | f, p, q, g, hp, hf, hg, hS, hF => by
    have stop : nmF s f p = p → nmF u g q = q + (nmF s f p - p) := by
      intro he
      rw [he, Nat.sub_self, Nat.add_zero] at hF ⊢
      cases g with
      | zero => rfl
      | succ g =>
        unfold nmF
        rw [if_neg (fun h => by have := fo_num hF h.1; rw [this] at h; simp at h)]
    cases f with
    | zero => exact stop rfl
    | succ f =>
      by_cases hc : p < s.size ∧ nameL (numAt s p) = true
      · have hge := nmF_ge s f (p + wid s p)
        have hw := wid_pos s p
        have e : nmF s (f + 1) p = nmF s f (p + wid s p) := by rw [nmF, if_pos hc]
        rw [e] at hS hF ⊢
        obtain ⟨n1, n2⟩ := num_local (u := u) (b := q) (nameL_nn hc.2) (hS.less (by omega))
        have hqr := hS.r
        obtain ⟨g', rfl⟩ : ∃ g', g = g' + 1 := ⟨g - 1, by omega⟩
        rw [nmF, if_pos ⟨by omega, by rw [n1]; exact hc.2⟩, n2]
        have hS2 := hS.from (k := wid s p) (by omega)
        rw [show nmF s f (p + wid s p) - p - wid s p = nmF s f (p + wid s p) - (p + wid s p) by omega] at hS2
        rw [nm_local f (p + wid s p) (q + wid s p) g' (wid_leG s p hc.1) (by omega) (by omega) hS2 (by rw [show q + wid s p + (nmF s f (p + wid s p) - (p + wid s p)) = q + (nmF s f (p + wid s p) - p) by omega]; exact hF)]
        omega
      · exact stop (by rw [nmF, if_neg hc])
theorem nmEnd_local {s u : ByteArray} {a b : Nat} (ha : a ≤ s.size) (hb : b ≤ u.size) (hS : Sm s a u b (nmEnd s a - a)) (hF : Fo u (b + (nmEnd s a - a))) : nmEnd u b = b + (nmEnd s a - a) := by
  rw [nmEnd_F s a ha] at hS hF ⊢
  rw [nmEnd_F u b hb]
  exact nm_local _ _ _ _ ha (Nat.le_refl _) (Nat.le_refl _) hS hF
end Go.Proofs.Ytpndbbepfjocgaa
namespace Go.Proofs.Ytpndbbepfjocgaa
open Go.RowKit

/-! figures -/
theorem fo_fig {u : ByteArray} {q : Nat} (h : Fo u q) (hq : q < u.size) (hx : Bool) : figC u hx q = false := by
  rcases h with h | ⟨_, h⟩
  · omega
  · unfold figC
    rcases h with h | h <;> rw [h] <;> rfl
theorem fig_local {s u : ByteArray} {a b : Nat} (hx : Bool) : ∀ f x g, 1 ≤ x → s.size - (a + x) ≤ f → u.size - (b + x) ≤ g → a + x ≤ s.size → Sm s a u b (figF s hx f (a + x) - a) → Fo u (b + (figF s hx f (a + x) - a)) → figF u hx g (b + x) = b + (figF s hx f (a + x) - a)
  | f, x, g, h1, hf, hg, hl, hS, hF => by
    have stop : figF s hx f (a + x) = a + x → figF u hx g (b + x) = b + (figF s hx f (a + x) - a) := by
      intro he
      rw [he, Nat.add_sub_cancel_left] at hF ⊢
      exact figF_stop u hx g _ (fun h => by have := fo_fig hF h.1 hx; rw [this] at h; simp at h)
    cases f with
    | zero => exact stop rfl
    | succ f =>
      by_cases hc : a + x < s.size ∧ figC s hx (a + x) = true
      · have e : figF s hx (f + 1) (a + x) = figF s hx f (a + (x + 1)) := by rw [figF, if_pos hc]; rfl
        have hge := (figF_bd s hx f (a + (x + 1)) (by omega)).1
        rw [e] at hS hF ⊢
        have hr := hS.r
        have hcu : figC u hx (b + x) = true := by
          have e1 := hS.e x (by omega)
          have e2 := hS.e (x - 1) (by omega)
          have h2 := hc.2
          unfold figC at h2 ⊢
          rw [← e1, show b + x - 1 = b + (x - 1) by omega, ← e2, show a + (x - 1) = a + x - 1 by omega]
          exact h2
        obtain ⟨g', rfl⟩ : ∃ g', g = g' + 1 := ⟨g - 1, by omega⟩
        rw [figF, if_pos ⟨by omega, hcu⟩]
        exact fig_local hx f (x + 1) g' (by omega) (by omega) (by omega) (by omega) hS hF
      · exact stop (by rw [figF, if_neg hc])
theorem pre2 (s : ByteArray) (a : Nat) (x y : UInt8) : Lib.hasPrefix (sub s a).data.toList [x, y] = decide (a + 1 < s.size ∧ bt s a = x.toNat ∧ bt s (a + 1) = y.toNat) := by
  rw [sub_list]
  have hl : s.data.toList.length = s.size := by rw [Array.length_toList]; rfl
  have inj : ∀ p q : UInt8, (p == q) = decide (q.toNat = p.toNat) := by
    intro p q
    by_cases h : p = q
    · subst h; simp
    · have h1 : (p == q) = false := by simpa using h
      have h2 : ¬ q.toNat = p.toNat := fun e => h (UInt8.toNat.inj e.symm)
      rw [h1]; simp [h2]
  by_cases h : a + 1 < s.size
  · obtain ⟨b0, e0, c0⟩ := bt_list s a (by omega)
    obtain ⟨b1, e1, c1⟩ := bt_list s (a + 1) h
    have hd : s.data.toList.drop a = b0 :: b1 :: s.data.toList.drop (a + 2) := by
      have h0 : a < s.data.toList.length := by omega
      have h1 : a + 1 < s.data.toList.length := by omega
      rw [List.drop_eq_getElem_cons h0, List.drop_eq_getElem_cons h1]
      rw [List.getElem?_eq_getElem h0] at e0
      rw [List.getElem?_eq_getElem h1] at e1
      injection e0 with e0
      injection e1 with e1
      rw [e0, e1]
    rw [hd, ← c0, ← c1]
    simp only [Lib.hasPrefix, List.isPrefixOf, inj, h, true_and, Bool.and_true]
    by_cases p1 : b0.toNat = x.toNat <;> by_cases p2 : b1.toNat = y.toNat <;> simp [p1, p2]
  · have hn : (s.data.toList.drop a).length ≤ 1 := by rw [List.length_drop]; omega
    rw [decide_eq_false (fun hh => h hh.1)]
    match hm : s.data.toList.drop a, hn with
    | [], _ => rfl
    | [z], _ => simp [Lib.hasPrefix, List.isPrefixOf]
    | z :: z2 :: r, hn => simp at hn
theorem hexP_iff (s : ByteArray) (a : Nat) : hexP s a = true ↔ a + 1 < s.size ∧ bt s a = 48 ∧ (bt s (a + 1) = 120 ∨ bt s (a + 1) = 88) := by
  unfold hexP
  rw [pre2, pre2, Bool.or_eq_true, decide_eq_true_eq, decide_eq_true_eq]
  have e1 : (48 : UInt8).toNat = 48 := rfl
  have e2 : (120 : UInt8).toNat = 120 := rfl
  have e3 : (88 : UInt8).toNat = 88 := rfl
  rw [e1, e2, e3]
  omega
theorem hexP_local {s u : ByteArray} {a b : Nat} (ha : a < s.size) (hS : Sm s a u b (fgEnd s a - a)) (hF : Fo u (b + (fgEnd s a - a))) : hexP u b = hexP s a := by
  have hbd := fgEnd_bd s a ha
  have hr := hS.r
  have hl := hS.l
  by_cases h2 : 2 ≤ fgEnd s a - a
  · have e0 := hS.e 0 (by omega)
    have e1 := hS.e 1 (by omega)
    rw [Nat.add_zero, Nat.add_zero] at e0
    cases h : hexP s a with
    | true =>
      have := (hexP_iff s a).1 h
      exact (hexP_iff u b).2 ⟨by omega, by omega, by omega⟩
    | false =>
      cases h' : hexP u b with
      | false => rfl
      | true =>
        have := (hexP_iff u b).1 h'
        have := (hexP_iff s a).2 ⟨by omega, by omega, by omega⟩
        rw [h] at this; cases this
  · have h1 : fgEnd s a = a + 1 := by omega
    have f1 : hexP s a = false := by
      cases h : hexP s a with
      | false => rfl
      | true =>
        have hh := (hexP_iff s a).1 h
        have hc : figC s true (a + 1) = true := by
          unfold figC
          rcases hh.2.2 with h | h <;> rw [h] <;> rfl
        obtain ⟨g, _, hst⟩ := figF_step s true s.size (a + 1) hh.1 hc (by omega)
        have := (figF_bd s true g (a + 1 + 1) (by omega)).1
        unfold fgEnd at h1
        rw [h, hst] at h1
        omega
    have f2 : hexP u b = false := by
      cases h : hexP u b with
      | false => rfl
      | true =>
        have hh := (hexP_iff u b).1 h
        rw [h1, Nat.add_sub_cancel_left] at hF
        rcases hF with hF | ⟨_, hF⟩ <;> omega
    rw [f1, f2]
theorem fgEnd_local {s u : ByteArray} {a b : Nat} (ha : a < s.size) (hS : Sm s a u b (fgEnd s a - a)) (hF : Fo u (b + (fgEnd s a - a))) : fgEnd u b = b + (fgEnd s a - a) := by
  have hx := hexP_local ha hS hF
  have hbd := fgEnd_bd s a ha
  have := hS.r
  unfold fgEnd at hS hF hbd ⊢
  rw [hx]
  exact fig_local (hexP s a) s.size 1 u.size (by omega) (by omega) (by omega) (by omega) hS hF
/-! literals -/
theorem lit_local {s u : ByteArray} {a b m : Nat} : ∀ f x g y, 1 ≤ x → litF s m a f (a + x) = a + y → 0 < y → u.size - (b + x) ≤ g → Sm s a u b y → litF u m b g (b + x) = b + y
  | 0, x, g, y, _, h, hy, _, _ => by simp only [litF] at h; omega
  | f + 1, x, g, y, h1, h, hy, hg, hS => by
    have hr := hS.r
    by_cases hlt : a + x < s.size
    · have hxy : x < y := by
        rcases litF_le s m a (by omega) (f + 1) (a + x) (by omega) with h' | h' <;> omega
      obtain ⟨g', rfl⟩ : ∃ g', g = g' + 1 := ⟨g - 1, by omega⟩
      have e := hS.e x hxy
      unfold litF at h ⊢
      rw [if_pos hlt] at h
      rw [if_pos (by omega), ← e]
      split at h
      · rename_i c; rw [if_pos c]; omega
      · rename_i c; rw [if_neg c]
        split at h
        · omega
        · rename_i c2; rw [if_neg c2]
          split at h
          · rename_i c3; rw [if_pos c3]
            exact lit_local f (x + 2) g' y (by omega) h hy (by omega) hS
          · rename_i c3; rw [if_neg c3]
            exact lit_local f (x + 1) g' y (by omega) h hy (by omega) hS
    · unfold litF at h
      rw [if_neg hlt] at h
      omega
theorem litEnd_local {s u : ByteArray} {a b : Nat} (ha : a < s.size) (hne : litEnd s a ≠ a) (hS : Sm s a u b (litEnd s a - a)) : litEnd u b = b + (litEnd s a - a) := by
  have hle := litEnd_le s a ha
  have e0 := hS.e 0 (by omega)
  rw [Nat.add_zero, Nat.add_zero] at e0
  have h : litF s (bt s a) a s.size (a + 1) = a + (litEnd s a - a) := by unfold litEnd at *; omega
  unfold litEnd
  rw [← e0]
  exact lit_local s.size 1 u.size _ (by omega) h (by omega) (by omega) hS
theorem sm_extract {s u : ByteArray} {a b n : Nat} (hS : Sm s a u b n) : s.extract a (a + n) = u.extract b (b + n) := by
  have hl := hS.l
  have hr := hS.r
  apply ba_ext
  rw [Lib.extract_data, Lib.extract_data, Nat.add_sub_cancel_left, Nat.add_sub_cancel_left]
  have l1 : s.data.toList.length = s.size := by rw [Array.length_toList]; rfl
  have l2 : u.data.toList.length = u.size := by rw [Array.length_toList]; rfl
  apply List.ext_getElem?
  intro j
  by_cases hj : j < n
  · rw [List.getElem?_take_of_lt hj, List.getElem?_take_of_lt hj, List.getElem?_drop, List.getElem?_drop]
    obtain ⟨b0, e0, c0⟩ := bt_list s (a + j) (by omega)
    obtain ⟨b1, e1, c1⟩ := bt_list u (b + j) (by omega)
    rw [e0, e1]
    congr 1
    apply UInt8.toNat.inj
    rw [c0, c1]
    exact hS.e j hj
  · rw [List.getElem?_eq_none (by rw [List.length_take]; omega), List.getElem?_eq_none (by rw [List.length_take]; omega)]
theorem litV_local {s u : ByteArray} {a b : Nat} (ha : a < s.size) (hz : (litV s a).2.2.2 = 0) (hS : Sm s a u b ((litV s a).2.1 - a)) : litV u b = ((litV s a).1, b + ((litV s a).2.1 - a), 0, 0) := by
  have hne : litEnd s a ≠ a := by
    intro h
    unfold litV at hz
    rw [if_pos h] at hz
    simp at hz
  have hle := litEnd_le s a ha
  have hE : (litV s a).2.1 = litEnd s a := by
    unfold litV at hz ⊢
    rw [if_neg hne] at hz ⊢
    split at hz
    · rename_i c; rw [if_pos c]
      split at hz
      · rename_i c; rw [if_pos c]
      · rename_i c; exact absurd hz c
    · rename_i c; rw [if_neg c]
      split at hz
      · rename_i c; rw [if_pos c]
      · rename_i c; exact absurd hz c
  rw [hE] at hS ⊢
  have hu := litEnd_local ha hne hS
  have e0 := hS.e 0 (by omega)
  rw [Nat.add_zero, Nat.add_zero] at e0
  have hx := sm_extract hS
  rw [show a + (litEnd s a - a) = litEnd s a by omega] at hx
  unfold litV at hz ⊢
  rw [if_neg hne] at hz
  rw [if_neg (show ¬ litEnd u b = b by omega), if_neg hne, hu, ← e0, ← hx]
  split at hz
  · rename_i c; rw [if_pos c, if_pos c]
    split at hz
    · rename_i c; rw [if_pos c, if_pos c]
    · rename_i c; exact absurd hz c
  · rename_i c; rw [if_neg c, if_neg c]
    split at hz
    · rename_i c; rw [if_pos c, if_pos c]
    · rename_i c; exact absurd hz c
end Go.Proofs.Ytpndbbepfjocgaa
namespace Go.Proofs.Ytpndbbepfjocgaa
open Go.RowKit

theorem bt_ext (u : ByteArray) (b e j : Nat) (h : j < e - b) (he : e ≤ u.size) : bt (u.extract b e) j = bt u (b + j) := by
  have hz : (u.extract b e).size = e - b := by simp; omega
  obtain ⟨x, e0, c0⟩ := bt_list (u.extract b e) j (by omega)
  obtain ⟨y, e1, c1⟩ := bt_list u (b + j) (by omega)
  rw [← c0, ← c1]
  rw [Lib.extract_data, List.getElem?_take_of_lt h, List.getElem?_drop, e1] at e0
  injection e0 with e0
  rw [e0]
set_option maxRecDepth 100000 in
theorem sg_byte : ∀ c : Fin 256, 0 ≤ sgI c.val → (c.val < 128 ∧ c.val ≠ 32 ∧ c.val ≠ 10 ∧ c.val ≠ 9 ∧ c.val ≠ 13 ∧ c.val ≠ 35 ∧ c.val ≠ 95 ∧ c.val ≠ 34 ∧ c.val ≠ 39) ∧ letterL (c.val : Int) = false ∧ digitL (c.val : Int) = false := by decide +kernel
theorem sg_b (c : Nat) (hc : c < 256) (h : 0 ≤ sgI c) : (c < 128 ∧ c ≠ 32 ∧ c ≠ 10 ∧ c ≠ 9 ∧ c ≠ 13 ∧ c ≠ 35 ∧ c ≠ 95 ∧ c ≠ 34 ∧ c ≠ 39) ∧ letterL (c : Int) = false ∧ digitL (c : Int) = false := sg_byte ⟨c, hc⟩ h
theorem isSg_at {x : ByteArray} (h : isSg x = true) (j : Nat) (hj : j < x.size) : 0 ≤ sgI (bt x j) := by
  unfold isSg at h
  simp only [Bool.and_eq_true] at h
  have := sgA_mono x (j + 1) x.size hj h.2
  simp only [sgA, Bool.and_eq_true, decide_eq_true_eq] at this
  exact this.2
theorem mayB_sg {G : List ByteArray} (h : mayB G = true) : ∀ x ∈ G, isSg x = true := by
  intro x hx
  obtain ⟨k, hk, rfl⟩ := List.getElem_of_mem hx
  unfold mayB at h
  simp only [Bool.and_eq_true] at h
  have := mayF_mono G (k + 1) G.length hk h.2
  simp only [mayF, Bool.and_eq_true] at this
  have h2 := this.2.1
  rw [List.getD_eq_getElem?_getD, List.getElem?_eq_getElem hk] at h2
  exact h2
theorem sgF_has (s : ByteArray) (G : List ByteArray) (a : Nat) : ∀ k, sgF s G a k ≠ 0 → Lib.containsS G (s.extract a (a + sgF s G a k)) = true
  | 0, h => absurd rfl h
  | k + 1, h => by
    unfold sgF at h ⊢
    split
    · assumption
    · rename_i c
      rw [if_neg c] at h
      exact sgF_has s G a k h
theorem sg_local {u : ByteArray} {G : List ByteArray} {b m : Nat} (hm : mayB G = true) (h0 : 0 < m) (hT : Lib.containsS G (u.extract b (b + m)) = true) (hr : b + m ≤ u.size) (hF : Fo u (b + m)) : ∀ k, m ≤ k → b + k ≤ u.size → sgF u G b k = m
  | 0, h, _ => by omega
  | k + 1, h, hk => by
    unfold sgF
    by_cases hkm : k + 1 = m
    · rw [hkm, if_pos hT]
    · rw [if_neg (fun hc => ?_)]
      · exact sg_local hm h0 hT hr hF k (by omega) (by omega)
      · have hmem := (Lib.containsS_iff _ _).1 hc
        have hsz : (u.extract b (b + (k + 1))).size = k + 1 := by simp; omega
        have h1 := isSg_at (mayB_sg hm _ hmem) m (by omega)
        rw [bt_ext u b _ m (by omega) hk] at h1
        have := (sg_b _ (bt_lt u (b + m)) h1).1
        rcases hF with hF | ⟨_, hF⟩ <;> omega
theorem first_of (u : ByteArray) (b : Nat) (hb : b < u.size) (h : bt u b < 128) : firstN (sub u b) = bt u b := by rw [first_sub u b hb, (dec_low u b hb h).2]
/-- a token is the same wherever it stands -/
theorem stp_local {s u : ByteArray} {G : List ByteArray} {a b : Nat} (hm : mayB G = true) (ha : a < s.size) (hw : (stp s G a).what = 1) (hS : Sm s a u b ((stp s G a).go - a)) (hF : Fo u (b + ((stp s G a).go - a))) :
    stp u G b = ⟨1, (stp s G a).kind, b + ((stp s G a).go - a), 0, 0⟩ := by
  have hgo : a < (stp s G a).go := by
    rcases stp_cases s G a ha with ⟨h1, _⟩ | ⟨_, h2, _⟩ | ⟨h1, _⟩
    · omega
    · exact h2
    · omega
  have hr := hS.r
  have hb : b < u.size := by omega
  have e0 := hS.e 0 (by omega)
  rw [Nat.add_zero, Nat.add_zero] at e0
  -- a first number below 128 is the same in both
  have low : ∀ n : Int, 0 ≤ n → n < 128 → firstN (sub s a) = n → firstN (sub u b) = n := by
    intro n h0 h1 hn
    have h2 := (first_low s a ha n h0 h1 hn).1
    rw [first_of u b hb (by omega), ← e0, h2]
  by_cases c1 : firstN (sub s a) = 9 ∨ firstN (sub s a) = 13 ∨ firstN (sub s a) = 32
  · have : (stp s G a).what = 0 := by unfold stp; rw [if_pos c1]
    omega
  by_cases c2 : firstN (sub s a) = 35
  · have : (stp s G a).what = 0 := by unfold stp; rw [if_neg c1, if_pos c2]
    omega
  by_cases c3 : firstN (sub s a) = 10
  · have e : stp s G a = ⟨1, 6, a + 1, 0, 0⟩ := by unfold stp; rw [if_neg c1, if_neg c2, if_pos c3]
    have f := low 10 (by omega) (by omega) c3
    rw [e]
    unfold stp
    rw [f, if_neg (by omega), if_neg (by omega), if_pos rfl]
    simp
  by_cases c4 : firstN (sub s a) = 95 ∨ letterL (firstN (sub s a)) = true
  · have e : stp s G a = ⟨1, 1, nmEnd s a, 0, 0⟩ := by unfold stp; rw [if_neg c1, if_neg c2, if_neg c3, if_pos c4]
    have hnl : nameL (numAt s a) = true := by
      rw [← first_sub s a ha]
      unfold nameL
      rcases c4 with c | c <;> simp [c]
    rw [e] at hS hF ⊢
    have hwd : a + wid s a ≤ nmEnd s a := by
      rw [nmEnd_F s a (by omega)]
      obtain ⟨f, hf⟩ : ∃ f, s.size - a = f + 1 := ⟨s.size - a - 1, by omega⟩
      rw [hf, nmF, if_pos ⟨ha, hnl⟩]
      exact nmF_ge s f _
    obtain ⟨n1, n2⟩ := num_local (u := u) (b := b) (nameL_nn hnl) (hS.less (by simp only; omega))
    have f : firstN (sub u b) = firstN (sub s a) := by rw [first_sub u b hb, first_sub s a ha, n1]
    have hn := nmEnd_local (by omega) (by omega) hS hF
    unfold stp
    rw [f, if_neg c1, if_neg c2, if_neg c3, if_pos c4, hn]
  by_cases c5 : digitL (firstN (sub s a)) = true
  · have e : stp s G a = ⟨1, 2, fgEnd s a, 0, 0⟩ := by unfold stp; rw [if_neg c1, if_neg c2, if_neg c3, if_neg c4, if_pos c5]
    have hd : 48 ≤ firstN (sub s a) ∧ firstN (sub s a) ≤ 57 := by
      unfold digitL at c5
      simpa using c5
    have f := low (firstN (sub s a)) (by omega) (by omega) rfl
    rw [e] at hS hF ⊢
    have hn := fgEnd_local ha hS hF
    unfold stp
    rw [f, if_neg c1, if_neg c2, if_neg c3, if_neg c4, if_pos c5, hn]
  by_cases c6 : firstN (sub s a) = 34 ∨ firstN (sub s a) = 39
  · have f := low (firstN (sub s a)) (by omega) (by omega) rfl
    by_cases hz : (litV s a).2.2.2 = 0
    · have e : stp s G a = ⟨1, (litV s a).1, (litV s a).2.1, 0, 0⟩ := by unfold stp; rw [if_neg c1, if_neg c2, if_neg c3, if_neg c4, if_neg c5, if_pos c6, if_pos hz]
      rw [e] at hS hF ⊢
      have hn := litV_local ha hz hS
      unfold stp
      rw [f, if_neg c1, if_neg c2, if_neg c3, if_neg c4, if_neg c5, if_pos c6, hn, if_pos rfl]
    · have : (stp s G a).what = 2 := by unfold stp; rw [if_neg c1, if_neg c2, if_neg c3, if_neg c4, if_neg c5, if_pos c6, if_neg hz]
      omega
  by_cases c7 : sgL s G a = 0
  · have : (stp s G a).what = 2 := by unfold stp; rw [if_neg c1, if_neg c2, if_neg c3, if_neg c4, if_neg c5, if_neg c6, if_pos c7]
    omega
  have e : stp s G a = ⟨1, 5, a + sgL s G a, 0, 0⟩ := by unfold stp; rw [if_neg c1, if_neg c2, if_neg c3, if_neg c4, if_neg c5, if_neg c6, if_neg c7]
  have hbd := sgL_bd s G a ha
  rw [e] at hS hF ⊢
  simp only [Nat.add_sub_cancel_left] at hS hF ⊢
  have hhas : Lib.containsS G (s.extract a (a + sgL s G a)) = true := sgF_has s G a _ c7
  have hx := sm_extract hS
  have hb2 : bt s a < 128 := by
    have hmem := (Lib.containsS_iff _ _).1 hhas
    have hsz : (s.extract a (a + sgL s G a)).size = sgL s G a := by simp; omega
    have h1 := isSg_at (mayB_sg hm _ hmem) 0 (by omega)
    rw [bt_ext s a _ 0 (by omega) hbd.1] at h1
    have := (sg_b _ (bt_lt s (a + 0)) h1).1
    simp only [Nat.add_zero] at this
    omega
  have f : firstN (sub u b) = firstN (sub s a) := by rw [first_of u b hb (by omega), first_of s a ha hb2, e0]
  have hsg : sgL u G b = sgL s G a := by
    rw [hx] at hhas
    have hr2 := hS.r
    exact sg_local hm (show 0 < sgL s G a by omega) hhas hr2 hF (min 3 (u.size - b)) (by omega) (by omega)
  unfold stp
  rw [f, if_neg c1, if_neg c2, if_neg c3, if_neg c4, if_neg c5, if_neg c6, hsg, if_neg c7]
end Go.Proofs.Ytpndbbepfjocgaa
namespace Go.Proofs.Ytpndbbepfjocgaa
open Go.RowKit

abbrev Kt := Nat × ByteArray
/-- a token that is cut as it is, wherever it stands -/
def Gd (G : List ByteArray) (x : Kt) : Prop := 0 < x.2.size ∧ (x.1 = 6 → bt x.2 0 = 10 ∧ x.2.size = 1) ∧ ∀ u b, Sm x.2 0 u b x.2.size → (x.1 = 6 ∨ Fo u (b + x.2.size)) → stp u G b = ⟨1, x.1, b + x.2.size, 0, 0⟩
theorem stp_ten (u : ByteArray) (G : List ByteArray) (b : Nat) (hb : b < u.size) (h : bt u b = 10) : stp u G b = ⟨1, 6, b + 1, 0, 0⟩ := by
  have f := first_of u b hb (by omega)
  rw [h] at f
  unfold stp
  rw [f, if_neg (by omega), if_neg (by omega), if_pos (by omega)]
theorem stp_blank (u : ByteArray) (G : List ByteArray) (b : Nat) (hb : b < u.size) (h : bt u b = 32) : stp u G b = ⟨0, 0, b + 1, 0, 0⟩ := by
  have f := first_of u b hb (by omega)
  rw [h] at f
  unfold stp
  rw [f, if_pos (by omega)]
theorem stp_six {s : ByteArray} {G : List ByteArray} {a : Nat} (ha : a < s.size) (_ : (stp s G a).what = 1) (hk : (stp s G a).kind = 6) : bt s a = 10 ∧ (stp s G a).go = a + 1 := by
  by_cases h : bt s a = 10
  · exact ⟨h, by rw [stp_ten s G a ha h]⟩
  · exfalso
    have hb := litV_bd s a ha
    unfold stp at hk
    split at hk
    · simp at hk
    · rename_i c1
      split at hk
      · simp at hk
      · split at hk
        · rename_i c3
          have := (first_low s a ha 10 (by omega) (by omega) c3).1
          omega
        · rename_i c3
          split at hk
          · simp at hk
          · rename_i c4
            split at hk
            · simp at hk
            · rename_i c5
              split at hk
              · rename_i c6
                split at hk
                · rename_i c7
                  have := (hb.1 c7).2.2
                  simp only at hk
                  omega
                · simp at hk
              · rename_i c6
                split at hk
                · simp at hk
                · simp at hk
theorem sm_of_ext {s u : ByteArray} {a e b : Nat} (hae : a ≤ e) (he : e ≤ s.size) (h : Sm (s.extract a e) 0 u b (e - a)) : Sm s a u b (e - a) :=
  ⟨by omega, h.r, fun j hj => by have := h.e j hj; rw [Nat.zero_add, bt_ext s a e j hj he] at this; exact this⟩
theorem gd_of {s : ByteArray} {G : List ByteArray} {a : Nat} (hm : mayB G = true) (ha : a < s.size) (hw : (stp s G a).what = 1) : Gd G ((stp s G a).kind, s.extract a (stp s G a).go) := by
  obtain ⟨h1, h2⟩ : a < (stp s G a).go ∧ (stp s G a).go ≤ s.size := by
    rcases stp_cases s G a ha with ⟨h1, _⟩ | ⟨_, h2, h3, _⟩ | ⟨h1, _⟩
    · omega
    · exact ⟨h2, h3⟩
    · omega
  have hz : (s.extract a (stp s G a).go).size = (stp s G a).go - a := by simp; omega
  refine ⟨by simp only [hz]; omega, fun hk => ?_, fun u b hS hF => ?_⟩
  · have := stp_six ha hw hk
    simp only [hz]
    rw [bt_ext s a _ 0 (by omega) h2, Nat.add_zero]
    exact ⟨this.1, by omega⟩
  · simp only [hz] at hS hF ⊢
    have hS2 := sm_of_ext (by omega) h2 hS
    rcases hF with hk | hF
    · have h6 := stp_six ha hw hk
      have e0 := hS2.e 0 (by omega)
      rw [Nat.add_zero, Nat.add_zero] at e0
      have := hS2.r
      rw [hk, stp_ten u G b (by omega) (by omega), h6.2, Nat.add_sub_cancel_left]
    · exact stp_local hm ha hw hS2 hF
theorem cutF_gd (s : ByteArray) (G : List ByteArray) (hm : mayB G = true) : ∀ f a L, a ≤ s.size → (∀ t ∈ L, Gd G (t.1, s.extract t.2.1 t.2.2)) → ∀ t ∈ (cutF s G f a L).1, Gd G (t.1, s.extract t.2.1 t.2.2)
  | 0, a, L, ha, hL => hL
  | f + 1, a, L, ha, hL => by
    by_cases hlt : a < s.size
    · simp only [cutF, if_pos hlt]
      rcases stp_cases s G a hlt with ⟨h1, h2⟩ | ⟨h1, h2, h3, h4⟩ | ⟨h1, h2, h3⟩
      · rw [if_pos h1]
        refine cutF_gd s G hm f _ L ?_ hL
        rcases h2 with ⟨_, h2⟩ | ⟨h5, h2⟩
        · omega
        · have := (lnEnd_bd s a hlt (by omega)).2; omega
      · rw [if_neg (by rw [h1]; decide), if_pos h1]
        refine cutF_gd s G hm f _ _ h3 (fun t ht => ?_)
        rcases List.mem_append.1 ht with h | h
        · exact hL t h
        · simp at h; subst h
          exact gd_of hm hlt h1
      · rw [if_neg (by rw [h1]; decide), if_neg (by rw [h1]; decide)]
        simp
    · rw [cutF_end s G _ _ L hlt]
      exact hL
/-- a token alone is cut into itself -/
theorem gd_alone {G : List ByteArray} {x : Kt} (h : Gd G x) (hz : x.2.size ≤ 524288) : cutV x.2 G = ([(x.1, 0, x.2.size)], 0, 0) := by
  have h1 := h.2.2 x.2 0 ⟨by omega, by omega, fun j _ => rfl⟩ (.inr (.inl (by omega)))
  have h0 := h.1
  rw [cutV, if_neg (by omega)]
  obtain ⟨f, hf⟩ : ∃ f, x.2.size = f + 1 := ⟨x.2.size - 1, by omega⟩
  rw [show cutF x.2 G x.2.size 0 [] = cutF x.2 G (f + 1) 0 [] by rw [← hf]]
  simp only [cutF, if_pos h0, h1, Nat.zero_add]
  rw [if_neg (by decide), if_pos trivial, cutF_end x.2 G f _ _ (by omega)]
  rfl
/-- bytes as numbers -/
def bz (T : ByteArray) : List Int := T.data.toList.map fun b => (b.toNat : Int)
theorem bz_len (T : ByteArray) : (bz T).length = T.size := by rw [bz, List.length_map, Array.length_toList]; rfl
theorem bz_at (T : ByteArray) (j : Nat) (h : j < T.size) : (bz T).getD j 0 = bt T j := by
  obtain ⟨b, e, c⟩ := bt_list T j h
  simp [bz, List.getD_eq_getElem?_getD, List.getElem?_map, e, c]
def sepOf (p : Nat) (x : Kt) : List Int := if x.1 ≠ 6 ∧ p ≠ 6 then [32] else []
def gls : Nat → List Kt → List Int
  | _, [] => []
  | p, x :: r => sepOf p x ++ (bz x.2 ++ gls x.1 r)
/-- numbers stand at a place -/
def AtZ (u : ByteArray) (q : Nat) (l : List Int) : Prop := q + l.length ≤ u.size ∧ ∀ j, j < l.length → (bt u (q + j) : Int) = l.getD j 0
theorem AtZ.left {u : ByteArray} {q : Nat} {l r : List Int} (h : AtZ u q (l ++ r)) : AtZ u q l := by
  obtain ⟨h1, h2⟩ := h
  rw [List.length_append] at h1
  refine ⟨by omega, fun j hj => ?_⟩
  rw [h2 j (by rw [List.length_append]; omega), List.getD_eq_getElem?_getD, List.getElem?_append_left hj, List.getD_eq_getElem?_getD]
theorem AtZ.right {u : ByteArray} {q : Nat} {l r : List Int} (h : AtZ u q (l ++ r)) : AtZ u (q + l.length) r := by
  obtain ⟨h1, h2⟩ := h
  rw [List.length_append] at h1
  refine ⟨by omega, fun j hj => ?_⟩
  rw [Nat.add_assoc, h2 (l.length + j) (by rw [List.length_append]; omega), List.getD_eq_getElem?_getD, List.getElem?_append_right (by omega), Nat.add_sub_cancel_left, List.getD_eq_getElem?_getD]
theorem AtZ.sm {u T : ByteArray} {q : Nat} (h : AtZ u q (bz T)) : Sm T 0 u q T.size := by
  obtain ⟨h1, h2⟩ := h
  rw [bz_len] at h1 h2
  refine ⟨by omega, h1, fun j hj => ?_⟩
  have := h2 j hj
  rw [bz_at T j hj] at this
  rw [Nat.zero_add]
  omega
theorem gl_follow {G : List ByteArray} {u : ByteArray} {q p : Nat} (hp : p ≠ 6) : ∀ r, (∀ x ∈ r, Gd G x) → AtZ u q (gls p r) → q + (gls p r).length = u.size → Fo u q
  | [], _, _, h => .inl (by simpa [gls] using h)
  | y :: r, hg, hA, h => by
    right
    have hy := hg y (by simp)
    by_cases h6 : y.1 = 6
    · have e : gls p (y :: r) = bz y.2 ++ gls y.1 r := by simp [gls, sepOf, h6]
      rw [e] at hA
      have h1 := hA.left
      have h2 := h1.sm
      have h3 := hy.2.1 h6
      have h4 := h2.e 0 (by omega)
      have h5 := h2.r
      simp only [Nat.add_zero] at h4
      exact ⟨by omega, .inr (by omega)⟩
    · have e : gls p (y :: r) = [32] ++ (bz y.2 ++ gls y.1 r) := by simp [gls, sepOf, h6, hp]
      rw [e] at hA
      have h1 := hA.left
      have h2 := h1.2 0 (by simp)
      have h3 := h1.1
      simp at h2 h3
      exact ⟨by omega, .inl (by omega)⟩
theorem glue_cut {G : List ByteArray} {u : ByteArray} : ∀ X p q f L, (∀ x ∈ X, Gd G x) → AtZ u q (gls p X) → q + (gls p X).length = u.size → u.size - q ≤ f →
    ∃ M : List Tk, cutF u G f q L = (L ++ M, 0, 0) ∧ M.map (fun t => (t.1, u.extract t.2.1 t.2.2)) = X
  | [], p, q, f, L, _, _, h, _ => ⟨[], by rw [cutF_end u G f q L (by simp [gls] at h; omega)]; simp, rfl⟩
  | x :: r, p, q, f, L, hg, hA, h, hf => by
    have hx := hg x (by simp)
    -- the token itself, at a place q'
    have tok : ∀ q' g, AtZ u q' (bz x.2 ++ gls x.1 r) → q' + (bz x.2 ++ gls x.1 r).length = u.size → u.size - q' ≤ g → ∃ M : List Tk, cutF u G g q' L = (L ++ M, 0, 0) ∧ M.map (fun t => (t.1, u.extract t.2.1 t.2.2)) = x :: r := by
      intro q' g hA' h' hg'
      have hS := hA'.left.sm
      have hR := hA'.right
      rw [bz_len] at hR
      rw [List.length_append, bz_len] at h'
      have hr := hS.r
      have h0 := hx.1
      have hF : x.1 = 6 ∨ Fo u (q' + x.2.size) := by
        by_cases h6 : x.1 = 6
        · exact .inl h6
        · exact .inr (gl_follow h6 r (fun y hy => hg y (by simp [hy])) hR (by omega))
      have hst := hx.2.2 u q' hS hF
      obtain ⟨g', rfl⟩ : ∃ g', g = g' + 1 := ⟨g - 1, by omega⟩
      obtain ⟨M, h1, h2⟩ := glue_cut r x.1 (q' + x.2.size) g' (L ++ [(x.1, q', q' + x.2.size)]) (fun y hy => hg y (by simp [hy])) hR (by omega) (by omega)
      refine ⟨(x.1, q', q' + x.2.size) :: M, ?_, ?_⟩
      · simp only [cutF, if_pos (show q' < u.size by omega), hst]
        rw [if_neg (by decide), if_pos trivial, h1]
        simp
      · rw [List.map_cons, h2]
        have := sm_extract hS
        rw [Nat.zero_add] at this
        rw [← this]
        have e : x.2.extract 0 x.2.size = x.2 := by simp
        rw [e]
    by_cases hs : x.1 ≠ 6 ∧ p ≠ 6
    · have e : gls p (x :: r) = [32] ++ (bz x.2 ++ gls x.1 r) := by simp [gls, sepOf, hs]
      rw [e] at hA h
      have hb := hA.left
      have hb1 := hb.2 0 (by simp)
      have hb2 := hb.1
      simp at hb1 hb2
      have hst := stp_blank u G q (by omega) (by omega)
      obtain ⟨f', rfl⟩ : ∃ f', f = f' + 1 := ⟨f - 1, by omega⟩
      simp only [cutF, if_pos (show q < u.size by omega), hst]
      rw [if_pos trivial]
      have hR := hA.right
      rw [List.length_append] at h
      simp only [List.length_cons, List.length_nil] at h hR
      exact tok (q + 1) f' hR (by omega) (by omega)
    · have e : gls p (x :: r) = bz x.2 ++ gls x.1 r := by simp [gls, sepOf, hs]
      rw [e] at hA h
      exact tok q f hA h hf
end Go.Proofs.Ytpndbbepfjocgaa
