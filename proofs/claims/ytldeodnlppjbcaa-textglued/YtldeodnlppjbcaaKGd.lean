import Derived.Test.YtldeodnlppjbcaaKGc
namespace Go.Proofs.Ytldeodnlppjbcaa
open Go.RowKit

abbrev Kt := Nat × ByteArray
/-- a token that is cut as it is, wherever it stands -/
def Gd (G : List ByteArray) (x : Kt) : Prop := 0 < x.2.size ∧ (x.1 = 6 → bt x.2 0 = 10 ∧ x.2.size = 1) ∧ ∀ u b, Sm x.2 0 u b x.2.size → (x.1 = 6 ∨ Fo u (b + x.2.size)) → stp u G b = ⟨1, x.1, b + x.2.size, 0, 0⟩
theorem stp_ten (u : ByteArray) (G : List ByteArray) (b : Nat) (hb : b < u.size) (h : bt u b = 10) : stp u G b = ⟨1, 6, b + 1, 0, 0⟩ := by
  have f := first_of u b hb (by omega)
  rw [h] at f
  unfold stp
  rw [f, if_neg (by omega), if_neg (by omega), if_pos (by omega)]
theorem stp_blank (u : ByteArray) (G : List ByteArray) (b : Nat) (hb : b < u.size) (h : bt u b = 32) : stp u G b = ⟨0, 0, b + 1, 0, 0⟩ := by
  have f := first_of u b hb (by omega)
  rw [h] at f
  unfold stp
  rw [f, if_pos (by omega)]
theorem stp_six {s : ByteArray} {G : List ByteArray} {a : Nat} (ha : a < s.size) (_ : (stp s G a).what = 1) (hk : (stp s G a).kind = 6) : bt s a = 10 ∧ (stp s G a).go = a + 1 := by
  by_cases h : bt s a = 10
  · exact ⟨h, by rw [stp_ten s G a ha h]⟩
  · exfalso
    have hb := litV_bd s a ha
    unfold stp at hk
    split at hk
    · simp at hk
    · rename_i c1
      split at hk
      · simp at hk
      · split at hk
        · rename_i c3
          have := (first_low s a ha 10 (by omega) (by omega) c3).1
          omega
        · rename_i c3
          split at hk
          · simp at hk
          · rename_i c4
            split at hk
            · simp at hk
            · rename_i c5
              split at hk
              · rename_i c6
                split at hk
                · rename_i c7
                  have := (hb.1 c7).2.2
                  simp only at hk
                  omega
                · simp at hk
              · rename_i c6
                split at hk
                · simp at hk
                · simp at hk
theorem sm_of_ext {s u : ByteArray} {a e b : Nat} (hae : a ≤ e) (he : e ≤ s.size) (h : Sm (s.extract a e) 0 u b (e - a)) : Sm s a u b (e - a) :=
  ⟨by omega, h.r, fun j hj => by have := h.e j hj; rw [Nat.zero_add, bt_ext s a e j hj he] at this; exact this⟩
theorem gd_of {s : ByteArray} {G : List ByteArray} {a : Nat} (hm : mayB G = true) (ha : a < s.size) (hw : (stp s G a).what = 1) : Gd G ((stp s G a).kind, s.extract a (stp s G a).go) := by
  obtain ⟨h1, h2⟩ : a < (stp s G a).go ∧ (stp s G a).go ≤ s.size := by
    rcases stp_cases s G a ha with ⟨h1, _⟩ | ⟨_, h2, h3, _⟩ | ⟨h1, _⟩
    · omega
    · exact ⟨h2, h3⟩
    · omega
  have hz : (s.extract a (stp s G a).go).size = (stp s G a).go - a := by simp; omega
  refine ⟨by simp only [hz]; omega, fun hk => ?_, fun u b hS hF => ?_⟩
  · have := stp_six ha hw hk
    simp only [hz]
    rw [bt_ext s a _ 0 (by omega) h2, Nat.add_zero]
    exact ⟨this.1, by omega⟩
  · simp only [hz] at hS hF ⊢
    have hS2 := sm_of_ext (by omega) h2 hS
    rcases hF with hk | hF
    · have h6 := stp_six ha hw hk
      have e0 := hS2.e 0 (by omega)
      rw [Nat.add_zero, Nat.add_zero] at e0
      have := hS2.r
      rw [hk, stp_ten u G b (by omega) (by omega), h6.2, Nat.add_sub_cancel_left]
    · exact stp_local hm ha hw hS2 hF
theorem cutF_gd (s : ByteArray) (G : List ByteArray) (hm : mayB G = true) : ∀ f a L, a ≤ s.size → (∀ t ∈ L, Gd G (t.1, s.extract t.2.1 t.2.2)) → ∀ t ∈ (cutF s G f a L).1, Gd G (t.1, s.extract t.2.1 t.2.2)
  | 0, a, L, ha, hL => hL
  | f + 1, a, L, ha, hL => by
    by_cases hlt : a < s.size
    · simp only [cutF, if_pos hlt]
      rcases stp_cases s G a hlt with ⟨h1, h2⟩ | ⟨h1, h2, h3, h4⟩ | ⟨h1, h2, h3⟩
      · rw [if_pos h1]
        refine cutF_gd s G hm f _ L ?_ hL
        rcases h2 with ⟨_, h2⟩ | ⟨h5, h2⟩
        · omega
        · have := (lnEnd_bd s a hlt (by omega)).2; omega
      · rw [if_neg (by rw [h1]; decide), if_pos h1]
        refine cutF_gd s G hm f _ _ h3 (fun t ht => ?_)
        rcases List.mem_append.1 ht with h | h
        · exact hL t h
        · simp at h; subst h
          exact gd_of hm hlt h1
      · rw [if_neg (by rw [h1]; decide), if_neg (by rw [h1]; decide)]
        simp
    · rw [cutF_end s G _ _ L hlt]
      exact hL
/-- a token alone is cut into itself -/
theorem gd_alone {G : List ByteArray} {x : Kt} (h : Gd G x) (hz : x.2.size ≤ 524288) : cutV x.2 G = ([(x.1, 0, x.2.size)], 0, 0) := by
  have h1 := h.2.2 x.2 0 ⟨by omega, by omega, fun j _ => rfl⟩ (.inr (.inl (by omega)))
  have h0 := h.1
  rw [cutV, if_neg (by omega)]
  obtain ⟨f, hf⟩ : ∃ f, x.2.size = f + 1 := ⟨x.2.size - 1, by omega⟩
  rw [show cutF x.2 G x.2.size 0 [] = cutF x.2 G (f + 1) 0 [] by rw [← hf]]
  simp only [cutF, if_pos h0, h1, Nat.zero_add]
  rw [if_neg (by decide), if_pos trivial, cutF_end x.2 G f _ _ (by omega)]
  rfl
/-- bytes as numbers -/
def bz (T : ByteArray) : List Int := T.data.toList.map fun b => (b.toNat : Int)
theorem bz_len (T : ByteArray) : (bz T).length = T.size := by rw [bz, List.length_map, Array.length_toList]; rfl
theorem bz_at (T : ByteArray) (j : Nat) (h : j < T.size) : (bz T).getD j 0 = bt T j := by
  obtain ⟨b, e, c⟩ := bt_list T j h
  simp [bz, List.getD_eq_getElem?_getD, List.getElem?_map, e, c]
def sepOf (p : Nat) (x : Kt) : List Int := if x.1 ≠ 6 ∧ p ≠ 6 then [32] else []
def gls : Nat → List Kt → List Int
  | _, [] => []
  | p, x :: r => sepOf p x ++ (bz x.2 ++ gls x.1 r)
/-- numbers stand at a place -/
def AtZ (u : ByteArray) (q : Nat) (l : List Int) : Prop := q + l.length ≤ u.size ∧ ∀ j, j < l.length → (bt u (q + j) : Int) = l.getD j 0
theorem AtZ.left {u : ByteArray} {q : Nat} {l r : List Int} (h : AtZ u q (l ++ r)) : AtZ u q l := by
  obtain ⟨h1, h2⟩ := h
  rw [List.length_append] at h1
  refine ⟨by omega, fun j hj => ?_⟩
  rw [h2 j (by rw [List.length_append]; omega), List.getD_eq_getElem?_getD, List.getElem?_append_left hj, List.getD_eq_getElem?_getD]
theorem AtZ.right {u : ByteArray} {q : Nat} {l r : List Int} (h : AtZ u q (l ++ r)) : AtZ u (q + l.length) r := by
  obtain ⟨h1, h2⟩ := h
  rw [List.length_append] at h1
  refine ⟨by omega, fun j hj => ?_⟩
  rw [Nat.add_assoc, h2 (l.length + j) (by rw [List.length_append]; omega), List.getD_eq_getElem?_getD, List.getElem?_append_right (by omega), Nat.add_sub_cancel_left, List.getD_eq_getElem?_getD]
theorem AtZ.sm {u T : ByteArray} {q : Nat} (h : AtZ u q (bz T)) : Sm T 0 u q T.size := by
  obtain ⟨h1, h2⟩ := h
  rw [bz_len] at h1 h2
  refine ⟨by omega, h1, fun j hj => ?_⟩
  have := h2 j hj
  rw [bz_at T j hj] at this
  rw [Nat.zero_add]
  omega
theorem gl_follow {G : List ByteArray} {u : ByteArray} {q p : Nat} (hp : p ≠ 6) : ∀ r, (∀ x ∈ r, Gd G x) → AtZ u q (gls p r) → q + (gls p r).length = u.size → Fo u q
  | [], _, _, h => .inl (by simpa [gls] using h)
  | y :: r, hg, hA, h => by
    right
    have hy := hg y (by simp)
    by_cases h6 : y.1 = 6
    · have e : gls p (y :: r) = bz y.2 ++ gls y.1 r := by simp [gls, sepOf, h6]
      rw [e] at hA
      have h1 := hA.left
      have h2 := h1.sm
      have h3 := hy.2.1 h6
      have h4 := h2.e 0 (by omega)
      have h5 := h2.r
      simp only [Nat.add_zero] at h4
      exact ⟨by omega, .inr (by omega)⟩
    · have e : gls p (y :: r) = [32] ++ (bz y.2 ++ gls y.1 r) := by simp [gls, sepOf, h6, hp]
      rw [e] at hA
      have h1 := hA.left
      have h2 := h1.2 0 (by simp)
      have h3 := h1.1
      simp at h2 h3
      exact ⟨by omega, .inl (by omega)⟩
theorem glue_cut {G : List ByteArray} {u : ByteArray} : ∀ X p q f L, (∀ x ∈ X, Gd G x) → AtZ u q (gls p X) → q + (gls p X).length = u.size → u.size - q ≤ f →
    ∃ M : List Tk, cutF u G f q L = (L ++ M, 0, 0) ∧ M.map (fun t => (t.1, u.extract t.2.1 t.2.2)) = X
  | [], p, q, f, L, _, _, h, _ => ⟨[], by rw [cutF_end u G f q L (by simp [gls] at h; omega)]; simp, rfl⟩
  | x :: r, p, q, f, L, hg, hA, h, hf => by
    have hx := hg x (by simp)
    -- the token itself, at a place q'
    have tok : ∀ q' g, AtZ u q' (bz x.2 ++ gls x.1 r) → q' + (bz x.2 ++ gls x.1 r).length = u.size → u.size - q' ≤ g → ∃ M : List Tk, cutF u G g q' L = (L ++ M, 0, 0) ∧ M.map (fun t => (t.1, u.extract t.2.1 t.2.2)) = x :: r := by
      intro q' g hA' h' hg'
      have hS := hA'.left.sm
      have hR := hA'.right
      rw [bz_len] at hR
      rw [List.length_append, bz_len] at h'
      have hr := hS.r
      have h0 := hx.1
      have hF : x.1 = 6 ∨ Fo u (q' + x.2.size) := by
        by_cases h6 : x.1 = 6
        · exact .inl h6
        · exact .inr (gl_follow h6 r (fun y hy => hg y (by simp [hy])) hR (by omega))
      have hst := hx.2.2 u q' hS hF
      obtain ⟨g', rfl⟩ : ∃ g', g = g' + 1 := ⟨g - 1, by omega⟩
      obtain ⟨M, h1, h2⟩ := glue_cut r x.1 (q' + x.2.size) g' (L ++ [(x.1, q', q' + x.2.size)]) (fun y hy => hg y (by simp [hy])) hR (by omega) (by omega)
      refine ⟨(x.1, q', q' + x.2.size) :: M, ?_, ?_⟩
      · simp only [cutF, if_pos (show q' < u.size by omega), hst]
        rw [if_neg (by decide), if_pos trivial, h1]
        simp
      · rw [List.map_cons, h2]
        have := sm_extract hS
        rw [Nat.zero_add] at this
        rw [← this]
        have e : x.2.extract 0 x.2.size = x.2 := by simp
        rw [e]
    by_cases hs : x.1 ≠ 6 ∧ p ≠ 6
    · have e : gls p (x :: r) = [32] ++ (bz x.2 ++ gls x.1 r) := by simp [gls, sepOf, hs]
      rw [e] at hA h
      have hb := hA.left
      have hb1 := hb.2 0 (by simp)
      have hb2 := hb.1
      simp at hb1 hb2
      have hst := stp_blank u G q (by omega) (by omega)
      obtain ⟨f', rfl⟩ : ∃ f', f = f' + 1 := ⟨f - 1, by omega⟩
      simp only [cutF, if_pos (show q < u.size by omega), hst]
      rw [if_pos trivial]
      have hR := hA.right
      rw [List.length_append] at h
      simp only [List.length_cons, List.length_nil] at h hR
      exact tok (q + 1) f' hR (by omega) (by omega)
    · have e : gls p (x :: r) = bz x.2 ++ gls x.1 r := by simp [gls, sepOf, hs]
      rw [e] at hA h
      exact tok q f hA h hf
end Go.Proofs.Ytldeodnlppjbcaa
