import Derived.Test.YtldeodnlppjbcaaKMt
namespace Go.Proofs.Ytldeodnlppjbcaa
open Go.RowKit

/-- the same bytes at two places -/
structure Sm (s : ByteArray) (a : Nat) (u : ByteArray) (b n : Nat) : Prop where
  l : a + n ≤ s.size
  r : b + n ≤ u.size
  e : ∀ j, j < n → bt s (a + j) = bt u (b + j)
theorem Sm.less {s u : ByteArray} {a b n m : Nat} (h : Sm s a u b n) (hm : m ≤ n) : Sm s a u b m := ⟨by have := h.l; omega, by have := h.r; omega, fun j hj => h.e j (by omega)⟩
theorem Sm.from {s u : ByteArray} {a b n k : Nat} (h : Sm s a u b n) (hk : k ≤ n) : Sm s (a + k) u (b + k) (n - k) := ⟨by have := h.l; omega, by have := h.r; omega, fun j hj => by have := h.e (k + j) (by omega); rw [Nat.add_assoc, Nat.add_assoc]; exact this⟩
/-- what ends a name or a figure -/
def Fo (u : ByteArray) (q : Nat) : Prop := q = u.size ∨ (q < u.size ∧ (bt u q = 32 ∨ bt u q = 10))
theorem acc_local {s u : ByteArray} {a b : Nat} (r0 : Int) : ∀ k, (∀ j, 1 ≤ j → j ≤ k → bt s (a + j) = bt u (b + j)) → acc s a r0 k = acc u b r0 k
  | 0, _ => rfl
  | k + 1, h => by
    simp only [acc]
    rw [acc_local r0 k (fun j h1 h2 => h j h1 (by omega)), h (k + 1) (by omega) (Nat.le_refl _)]
theorem raN_local {s u : ByteArray} {a b n m : Nat} {r0 least r : Int} (h : raN s a n r0 least = (r, m)) (hm : 1 ≤ m) (hS : Sm s a u b m) : raN u b n r0 least = (r, m) := by
  have hc : a + n ≤ s.size ∧ (∀ j, j < n → 1 ≤ j → isCont s (a + j)) ∧ least ≤ acc s a r0 (n - 1) ∧ acc s a r0 (n - 1) ≤ 1114111 ∧ ¬ (55296 ≤ acc s a r0 (n - 1) ∧ acc s a r0 (n - 1) ≤ 57343) := by
    unfold raN at h
    split at h
    · assumption
    · simp only [Prod.mk.injEq] at h; omega
  unfold raN at h
  rw [if_pos hc] at h
  simp only [Prod.mk.injEq] at h
  obtain ⟨hr, rfl⟩ := h
  have hacc : acc s a r0 (n - 1) = acc u b r0 (n - 1) := acc_local r0 (n - 1) (fun j h1 h2 => hS.e j (by omega))
  unfold raN
  rw [← hacc, if_pos ⟨hS.r, fun j h1 h2 => by have := hc.2.1 j h1 h2; unfold isCont at *; rw [← hS.e j h1]; exact this, hc.2.2⟩, hr]
theorem ra_local {s u : ByteArray} {a b : Nat} {r : Int} {m : Nat} (h : ra s a = (r, m)) (hm : 1 ≤ m) (hS : Sm s a u b m) : ra u b = (r, m) := by
  have h0 : bt s a = bt u b := by have := hS.e 0 (by omega); simpa using this
  unfold ra at h ⊢
  rw [← h0]
  split at h
  · rename_i c; rw [if_pos c]; exact h
  · rename_i c; rw [if_neg c]
    split at h
    · simp only [Prod.mk.injEq] at h; omega
    · rename_i c; rw [if_neg c]
      split at h
      · rename_i c; rw [if_pos c]; exact raN_local h hm hS
      · rename_i c; rw [if_neg c]
        split at h
        · rename_i c; rw [if_pos c]; exact raN_local h hm hS
        · rename_i c; rw [if_neg c]
          split at h
          · rename_i c; rw [if_pos c]; exact raN_local h hm hS
          · simp only [Prod.mk.injEq] at h; omega
theorem num_local {s u : ByteArray} {a b : Nat} (h0 : 0 ≤ numAt s a) (hS : Sm s a u b (wid s a)) : numAt u b = numAt s a ∧ wid u b = wid s a := by
  have hw := wid_pos s a
  rcases ra_num s a with ⟨_, h2, _⟩ | ⟨_, h2⟩
  · have := bt_lt s a; omega
  · have h3 := ra_local h2 hw hS
    rcases ra_num u b with ⟨h4, _⟩ | ⟨_, h4⟩
    · rw [h4] at h3; simp only [Prod.mk.injEq] at h3; omega
    · rw [h4] at h3; simp only [Prod.mk.injEq] at h3; exact h3
theorem wid_leG (s : ByteArray) (p : Nat) (h : p < s.size) : p + wid s p ≤ s.size := by
  by_cases hb : bt s p < 128
  · rw [(dec_low s p h hb).1]; exact h
  · exact (dec_high s p h (by omega)).1
theorem num_sub (s : ByteArray) (a p : Nat) : numAt (sub s a) p = numAt s (a + p) := by rw [← numAt_sub (sub s a) p, sub_sub, numAt_sub]
theorem wid_subp (s : ByteArray) (a p : Nat) : wid (sub s a) p = wid s (a + p) := by rw [← wid_sub (sub s a) p, sub_sub, wid_sub]
/-- a name's end, thing by thing -/
def nmF (s : ByteArray) : Nat → Nat → Nat
  | 0, p => p
  | f + 1, p => if p < s.size ∧ nameL (numAt s p) = true then nmF s f (p + wid s p) else p
def nmM (t : ByteArray) (l : Option (Cut t)) : Nat := match l with
  | some x => x.1.1
  | none => t.size
theorem nmO_M (t : ByteArray) : nmO t = nmM t ((cuts t).find? (fun x => !nameL x.1.2)) := by
  unfold nmO nmM
  cases (cuts t).find? (fun x => !nameL x.1.2) <;> rfl
theorem find_nm (t : ByteArray) : ∀ f pos, t.size - pos ≤ f → pos ≤ t.size → nmM t ((cutsFrom t f pos).find? (fun x => !nameL x.1.2)) = nmF t f pos
  | 0, pos, h1, h2 => by simp only [cutsFrom, List.find?_nil, nmF, nmM]; omega
  | f + 1, pos, h1, h2 => by
    by_cases hlt : pos < t.size
    · rw [cutsFrom_step t f pos hlt]
      unfold nmF
      cases hn : nameL (numAt t pos) with
      | true =>
        rw [if_pos ⟨hlt, rfl⟩, List.find?_cons_of_neg (by simp [cutAt, hn])]
        have := wid_pos t pos
        exact find_nm t f _ (by omega) (wid_leG t pos hlt)
      | false =>
        rw [if_neg (by simp), List.find?_cons_of_pos (by simp [cutAt, hn])]
        rfl
    · rw [cutsFrom_end t _ pos hlt]
      unfold nmF
      rw [if_neg (fun h => hlt h.1)]
      simp only [List.find?_nil, nmM]; omega
theorem nmF_sub (s : ByteArray) (a : Nat) : ∀ f p, a ≤ s.size → a + nmF (sub s a) f p = nmF s f (a + p)
  | 0, p, _ => rfl
  | f + 1, p, h => by
    unfold nmF
    rw [num_sub, wid_subp, sub_size]
    by_cases hc : a + p < s.size ∧ nameL (numAt s (a + p)) = true
    · rw [if_pos hc, if_pos ⟨by omega, hc.2⟩, nmF_sub s a f _ h, Nat.add_assoc]
    · rw [if_neg hc, if_neg (fun h => hc ⟨by omega, h.2⟩)]
theorem nmEnd_F (s : ByteArray) (a : Nat) (h : a ≤ s.size) : nmEnd s a = nmF s (s.size - a) a := by
  have := find_nm (sub s a) (sub s a).size 0 (by omega) (Nat.zero_le _)
  unfold nmEnd
  rw [nmO_M, cuts, this, nmF_sub s a _ 0 h, sub_size, Nat.add_zero]
theorem nmF_ge (s : ByteArray) : ∀ f p, p ≤ nmF s f p
  | 0, p => Nat.le_refl _
  | f + 1, p => by
    unfold nmF
    split
    · have := nmF_ge s f (p + wid s p); omega
    · exact Nat.le_refl _
theorem fo_num {u : ByteArray} {q : Nat} (h : Fo u q) (hq : q < u.size) : nameL (numAt u q) = false := by
  rcases h with h | ⟨_, h⟩
  · omega
  · have := (dec_low u q hq (by omega)).2
    rw [this]
    rcases h with h | h <;> rw [h] <;> rfl
theorem nameL_nn {n : Int} (h : nameL n = true) : 0 ≤ n := by
  unfold nameL letterL plainL digitL at h
  simp only [Bool.or_eq_true, Bool.and_eq_true, decide_eq_true_eq] at h
  omega
theorem nm_local {s u : ByteArray} : ∀ f p q g, p ≤ s.size → s.size - p ≤ f → u.size - q ≤ g → Sm s p u q (nmF s f p - p) → Fo u (q + (nmF s f p - p)) → nmF u g q = q + (nmF s f p - p)
  | f, p, q, g, hp, hf, hg, hS, hF => by
    have stop : nmF s f p = p → nmF u g q = q + (nmF s f p - p) := by
      intro he
      rw [he, Nat.sub_self, Nat.add_zero] at hF ⊢
      cases g with
      | zero => rfl
      | succ g =>
        unfold nmF
        rw [if_neg (fun h => by have := fo_num hF h.1; rw [this] at h; simp at h)]
    cases f with
    | zero => exact stop rfl
    | succ f =>
      by_cases hc : p < s.size ∧ nameL (numAt s p) = true
      · have hge := nmF_ge s f (p + wid s p)
        have hw := wid_pos s p
        have e : nmF s (f + 1) p = nmF s f (p + wid s p) := by rw [nmF, if_pos hc]
        rw [e] at hS hF ⊢
        obtain ⟨n1, n2⟩ := num_local (u := u) (b := q) (nameL_nn hc.2) (hS.less (by omega))
        have hqr := hS.r
        obtain ⟨g', rfl⟩ : ∃ g', g = g' + 1 := ⟨g - 1, by omega⟩
        rw [nmF, if_pos ⟨by omega, by rw [n1]; exact hc.2⟩, n2]
        have hS2 := hS.from (k := wid s p) (by omega)
        rw [show nmF s f (p + wid s p) - p - wid s p = nmF s f (p + wid s p) - (p + wid s p) by omega] at hS2
        rw [nm_local f (p + wid s p) (q + wid s p) g' (wid_leG s p hc.1) (by omega) (by omega) hS2 (by rw [show q + wid s p + (nmF s f (p + wid s p) - (p + wid s p)) = q + (nmF s f (p + wid s p) - p) by omega]; exact hF)]
        omega
      · exact stop (by rw [nmF, if_neg hc])
theorem nmEnd_local {s u : ByteArray} {a b : Nat} (ha : a ≤ s.size) (hb : b ≤ u.size) (hS : Sm s a u b (nmEnd s a - a)) (hF : Fo u (b + (nmEnd s a - a))) : nmEnd u b = b + (nmEnd s a - a) := by
  rw [nmEnd_F s a ha] at hS hF ⊢
  rw [nmEnd_F u b hb]
  exact nm_local _ _ _ _ ha (Nat.le_refl _) (Nat.le_refl _) hS hF
end Go.Proofs.Ytldeodnlppjbcaa
