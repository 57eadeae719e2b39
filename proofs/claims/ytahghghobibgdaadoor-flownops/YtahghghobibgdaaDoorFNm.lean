import Derived.Test.YtahghghobibgdaaDoorFDt
namespace Go.Proofs.YtahghghobibgdaaDoor
open Go.RowKit Go.WideShapes Go.Shelf
/-- a nop in the place of instruction k -/
def nopL (L : List (Nat × Nat)) (k : Nat) : List (Nat × Nat) := L.set k (1, 0)
theorem nopL_len (L : List (Nat × Nat)) (k : Nat) : (nopL L k).length = L.length := List.length_set
theorem nopL_get {L : List (Nat × Nat)} {k i : Nat} (h : i ≠ k) : (nopL L k).getD i (0, 0) = L.getD i (0, 0) := by
  unfold nopL
  rw [List.getD_eq_getElem?_getD, List.getElem?_set, if_neg (fun e => h e.symm), List.getD_eq_getElem?_getD]
theorem nopL_at {L : List (Nat × Nat)} {k : Nat} (h : k < L.length) : (nopL L k).getD k (0, 0) = (1, 0) := by
  unfold nopL
  rw [List.getD_eq_getElem?_getD, List.getElem?_set, if_pos rfl, if_pos h]
  rfl
section
variable {L : List (Nat × Nat)} {J : List Nat} {k : Nat} (hk : k < L.length) (hn : isEn L k = false)
include hk hn
theorem nop_en : isEn (nopL L k) = isEn L := by
  funext i
  unfold isEn
  rw [nopL_len]
  by_cases h : i = k
  · subst h
    rw [nopL_at hk]
    unfold isEn at hn
    rw [hn]
    simp
  · rw [nopL_get h]
theorem nop_bgs : bgs (nopL L k) = bgs L := by
  unfold bgs
  rw [nopL_len, nop_en hk hn]
theorem nop_bAt (i : Nat) : bAt (nopL L k) i = bAt L i := by
  unfold bAt
  rw [nop_bgs hk hn, nopL_len]
theorem nop_of (x : Nat) : ofL (nopL L k) x = ofL L x := by
  unfold ofL
  rw [nopL_len, nop_en hk hn]
theorem nop_nxt {i : Nat} (h : i ≠ k) : nxt (nopL L k) J i = nxt L J i := by
  unfold nxt tgs opL argL
  rw [nopL_get h, nop_of hk hn, nop_bAt hk hn, nop_bAt hk hn]
theorem nop_sol {D : List Int} (hd : D.getD k (-1) < 0) (p : Nat) : Sol (nopL L k) J p D ↔ Sol L J p D := by
  constructor
  · intro h
    refine ⟨by rw [← nop_bAt hk hn]; exact h.at0, fun i h1 h2 h3 => ?_⟩
    have hik : i ≠ k := fun e => by rw [e] at h3; omega
    have := h.ok i (by rw [nop_bAt hk hn]; exact h1) (by rw [nop_bAt hk hn]; exact h2) h3
    rwa [nop_nxt hk hn hik, show opL (nopL L k) i = opL L i by unfold opL; rw [nopL_get hik]] at this
  · intro h
    refine ⟨by rw [nop_bAt hk hn]; exact h.at0, fun i h1 h2 h3 => ?_⟩
    have hik : i ≠ k := fun e => by rw [e] at h3; omega
    have := h.ok i (by rw [← nop_bAt hk hn]; exact h1) (by rw [← nop_bAt hk hn]; exact h2) h3
    rwa [nop_nxt hk hn hik, show opL (nopL L k) i = opL L i by unfold opL; rw [nopL_get hik]]
theorem nop_same {D N D2 N2 : List Int} (hE : isEn L 0 = true) (hd : D.getD k (-1) < 0) (h : DpK L J D N (bgs L).length) (h2 : DpK (nopL L k) J D2 N2 (bgs (nopL L k)).length) : D2 = D ∧ N2 = N := by
  rw [nop_bgs hk hn] at h2
  have le2 : ∀ p, p < (bgs L).length → ∀ i, bAt L p ≤ i → i < bAt L (p + 1) → 0 ≤ D2.getD i (-1) → D.getD i (-1) = D2.getD i (-1) := fun p hp i a b c =>
    (h2.fin p hp).least D ((nop_sol hk hn hd p).2 (h.fin p hp).sol) i (by rw [nop_bAt hk hn]; exact a) (by rw [nop_bAt hk hn]; exact b) c
  obtain ⟨q, hq, q1, q2⟩ := lies_in hE hk
  rw [getD_anyP hq 0 L.length] at q1
  have hd2 : D2.getD k (-1) < 0 := by
    refine Classical.byContradiction fun hc => ?_
    have := le2 q hq k q1 q2 (by omega)
    omega
  have le1 : ∀ p, p < (bgs L).length → ∀ i, bAt L p ≤ i → i < bAt L (p + 1) → 0 ≤ D.getD i (-1) → D2.getD i (-1) = D.getD i (-1) := fun p hp i a b c =>
    (h.fin p hp).least D2 ((nop_sol hk hn hd2 p).1 (h2.fin p hp).sol) i a b c
  have same : ∀ i, i < L.length → D2.getD i (-1) = D.getD i (-1) := fun i hi => by
    obtain ⟨p, hp, p1, p2⟩ := lies_in hE hi
    rw [getD_anyP hp 0 L.length] at p1
    have b1 := ((h.fin p hp).bd i p1 p2).1
    have b2 := ((h2.fin p hp).bd i (by rw [nop_bAt hk hn]; exact p1) (by rw [nop_bAt hk hn]; exact p2)).1
    by_cases c1 : 0 ≤ D.getD i (-1)
    · exact le1 p hp i p1 p2 c1
    · by_cases c2 : 0 ≤ D2.getD i (-1)
      · exact (le2 p hp i p1 p2 c2).symm
      · omega
  have hDD : D2 = D := by
    have l1 := h.len
    have l2 := h2.len
    rw [nopL_len] at l2
    refine List.ext_getElem (by omega) fun i a b => ?_
    have := same i (by omega)
    rwa [List.getD_eq_getElem?_getD, List.getD_eq_getElem?_getD, List.getElem?_eq_getElem a, List.getElem?_eq_getElem b] at this
  refine ⟨hDD, ?_⟩
  subst hDD
  have n1 := h.nl
  have n2 := h2.nl
  refine List.ext_getElem (by omega) fun p a b => ?_
  have hp : p < (bgs L).length := by omega
  have f1 := h.fin p hp
  have f2 := h2.fin p hp
  have op : ∀ i, 0 ≤ D2.getD i (-1) → opL (nopL L k) i = opL L i := fun i c => by
    unfold opL
    rw [nopL_get (fun e => by rw [e] at c; omega)]
  have u1 := f1.ub (N2.getD p 0) f2.nd.1 (fun i a b c => by
    have := f2.le i (by rw [nop_bAt hk hn]; exact a) (by rw [nop_bAt hk hn]; exact b) c
    rwa [op i c] at this)
  have u2 := f2.ub (N.getD p 0) f1.nd.1 (fun i a b c => by
    have := f1.le i (by rw [← nop_bAt hk hn]; exact a) (by rw [← nop_bAt hk hn]; exact b) c
    rwa [← op i c] at this)
  have e : N2.getD p 0 = N.getD p 0 := by omega
  rwa [List.getD_eq_getElem?_getD, List.getD_eq_getElem?_getD, List.getElem?_eq_getElem a, List.getElem?_eq_getElem b] at e
end
end Go.Proofs.YtahghghobibgdaaDoor
