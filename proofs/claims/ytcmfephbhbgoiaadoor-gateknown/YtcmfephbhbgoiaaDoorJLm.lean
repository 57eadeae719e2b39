import Derived.Test.YtcmfephbhbgoiaaDoorJSg
import Derived.Test.YtcmfephbhbgoiaaDoorJGr
import Derived.Test.YtcmfephbhbgoiaaDoorJTh
namespace Go.Proofs.YtcmfephbhbgoiaaDoor
open Go.RowKit
set_option maxRecDepth 100000
theorem getD_get {α : Type} {l : List α} {d : α} {k : Nat} (h : k < l.length) : l.getD k d = l[k] := by simp [List.getD, List.getElem?_eq_getElem h]
theorem okG_nodup {L : List (Nat × Int)} (h : okG L) : (L.map (·.1)).Nodup := by
  rw [List.Nodup, List.pairwise_iff_getElem]
  intro i j hi hj hij e
  have hj' : j < L.length := by simpa using hj
  have hi' : i < L.length := by simpa using hi
  have h1 := h.2 j hj'
  unfold gdA at h1
  simp only [Bool.and_eq_true, Bool.not_eq_true'] at h1
  have h2 := List.any_eq_false.1 h1.1 L[i] (by
    rw [List.mem_take_iff_getElem]
    exact ⟨i, by omega, rfl⟩)
  rw [getD_get hj'] at h2
  simp only [List.getElem_map] at e
  simp [e] at h2
theorem okG_may {L : List (Nat × Int)} (h : okG L) : ∀ p ∈ L, mayB p.1 p.2 = true := by
  intro p hp
  obtain ⟨k, hk, rfl⟩ := List.getElem_of_mem hp
  have h1 := h.2 k hk
  unfold gdA at h1
  simp only [Bool.and_eq_true, getD_get hk] at h1
  exact h1.2
theorem okG_mk {L : List (Nat × Int)} (h0 : L.length ≤ 64) (h1 : (L.map (·.1)).Nodup) (h2 : ∀ p ∈ L, mayB p.1 p.2 = true) : okG L := by
  refine ⟨h0, fun k hk => ?_⟩
  unfold gdA
  rw [getD_get hk, h2 _ (List.getElem_mem hk), Bool.and_true, Bool.not_eq_true', List.any_eq_false]
  intro p hp e
  rw [List.mem_take_iff_getElem] at hp
  obtain ⟨i, hi, rfl⟩ := hp
  have hi' : i < k := by omega
  rw [List.Nodup, List.pairwise_iff_getElem] at h1
  exact h1 i k (by simp; omega) (by simpa using hk) hi' (by simpa using e)
theorem okG_rev {L : List (Nat × Int)} (h : okG L) : okG L.reverse :=
  okG_mk (by simpa using h.1) (by rw [List.map_reverse]; exact (List.reverse_perm _).nodup_iff.2 (okG_nodup h)) (fun p hp => okG_may h p (List.mem_reverse.1 hp))
theorem fold_out : ∀ (L : List (Nat × Int)) (f : Int → Option Int) (x : Int), (∀ p ∈ L, (p.1 : Int) ≠ x) → (L.foldl (fun f p => putF f p.1 p.2) f) x = f x
  | [], f, x, _ => rfl
  | p :: L, f, x, h => by
    rw [List.foldl_cons, fold_out L _ x (fun q hq => h q (by simp [hq]))]
    have := h p (by simp)
    simp only [putF]
    rw [if_neg (fun e => this e.symm)]
theorem fold_in : ∀ (L : List (Nat × Int)) (f : Int → Option Int) (p : Nat × Int), (L.map (·.1)).Nodup → p ∈ L → (L.foldl (fun f p => putF f p.1 p.2) f) p.1 = some p.2
  | [], _, _, _, h => by simp at h
  | q :: L, f, p, hn, h => by
    rw [List.map_cons, List.nodup_cons] at hn
    rw [List.foldl_cons]
    rcases List.mem_cons.1 h with e | h
    · subst e
      rw [fold_out L _ _ (fun r hr e => hn.1 (List.mem_map.2 ⟨r, hr, by omega⟩))]
      simp [putF]
    · exact fold_in L _ p hn.2 h
theorem ofL_in {L : List (Nat × Int)} (h : okG L) {p : Nat × Int} (hp : p ∈ L) : ofL L p.1 = some p.2 := fold_in L _ p (okG_nodup h) hp
theorem ofL_inv {L : List (Nat × Int)} (h : okG L) {k v : Int} (e : ofL L k = some v) : ∃ p ∈ L, (p.1 : Int) = k ∧ p.2 = v := by
  by_cases hx : ∃ p ∈ L, (p.1 : Int) = k
  · obtain ⟨p, hp, rfl⟩ := hx
    rw [ofL_in h hp] at e
    exact ⟨p, hp, rfl, by cases e; rfl⟩
  · have := fold_out L (fun _ => none) k (fun p hp e => hx ⟨p, hp, e⟩)
    unfold ofL at e
    rw [this] at e
    cases e
theorem ofL_rev {L : List (Nat × Int)} (h : okG L) : withinP (ofL L) (ofL L.reverse) ∧ withinP (ofL L.reverse) (ofL L) := by
  constructor
  · intro k v e
    obtain ⟨p, hp, rfl, rfl⟩ := ofL_inv h e
    exact ofL_in (okG_rev h) (List.mem_reverse.2 hp)
  · intro k v e
    obtain ⟨p, hp, rfl, rfl⟩ := ofL_inv (okG_rev h) e
    exact ofL_in h (List.mem_reverse.1 hp)
theorem withinP_eq {f g : Int → Option Int} (a : withinP f g) (b : withinP g f) : f = g := by
  funext k
  cases hf : f k with
  | some v => exact (a k v hf).symm
  | none =>
    cases hg : g k with
    | none => rfl
    | some v => rw [b k v hg] at hf; cases hf
theorem srt_pw {M : List (Nat × Int)} (h : SrtG M) : M.Pairwise (fun p q => p.1 < q.1) := by
  rw [List.pairwise_iff_getElem]
  intro i j hi hj hij
  have := h i j hij hj
  rwa [getD_get hi, getD_get hj] at this
theorem srt_one : ∀ {M N : List (Nat × Int)}, M.Pairwise (fun p q => p.1 < q.1) → N.Pairwise (fun p q => p.1 < q.1) → (∀ p, p ∈ M ↔ p ∈ N) → M = N
  | [], [], _, _, _ => rfl
  | [], b :: s, _, _, h => by have := (h b).2 (by simp); simp at this
  | a :: r, [], _, _, h => by have := (h a).1 (by simp); simp at this
  | a :: r, b :: s, h1, h2, h => by
    obtain ⟨a1, a2⟩ := List.pairwise_cons.1 h1
    obtain ⟨b1, b2⟩ := List.pairwise_cons.1 h2
    have hab : a = b := by
      rcases List.mem_cons.1 ((h a).1 (by simp)) with e | ha
      · exact e
      · rcases List.mem_cons.1 ((h b).2 (by simp)) with e | hb
        · exact e.symm
        · have := a1 b hb; have := b1 a ha; omega
    subst hab
    rw [srt_one a2 b2 (fun p => ⟨fun hp => by
      rcases List.mem_cons.1 ((h p).1 (by simp [hp])) with e | hp'
      · have := a1 p hp; subst e; omega
      · exact hp', fun hp => by
      rcases List.mem_cons.1 ((h p).2 (by simp [hp])) with e | hp'
      · have := b1 p hp; subst e; omega
      · exact hp'⟩)]
theorem srt_len {L M : List (Nat × Int)} (h : okG L) (hs : SrtG M) (hm : ∀ p, p ∈ M ↔ ofL L p.1 = some p.2) : M.length = L.length := by
  have hp : M.Perm L := by
    rw [List.perm_ext_iff_of_nodup]
    · intro p
      rw [hm p]
      constructor
      · intro e
        obtain ⟨q, hq, e1, e2⟩ := ofL_inv h e
        have : q = p := by cases q; cases p; simp only at e1 e2; subst e2; congr; omega
        exact this ▸ hq
      · exact fun hp => ofL_in h hp
    · exact (srt_pw hs).imp (fun h e => by subst e; omega)
    · have := okG_nodup h
      exact List.Pairwise.of_map _ (fun a b hab e => hab (by rw [e])) this
  exact hp.length_eq
end Go.Proofs.YtcmfephbhbgoiaaDoor
