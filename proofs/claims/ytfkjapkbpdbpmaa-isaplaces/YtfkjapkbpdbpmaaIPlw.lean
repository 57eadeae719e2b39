import Derived.Test.YtfkjapkbpdbpmaaIPla
import Derived.Test.YtfkjapkbpdbpmaaLApI
namespace Go.Proofs.Ytfkjapkbpdbpmaa
open Go.RowKit

theorem lent_crd {w : World} {B g c n : Nat} {L : List (Nat × Nat)} (hn : n = L.length + 64) (h : w.ownsRow B 32 2 (.slice (some ⟨g, 0, none⟩) n c) n (cv (L ++ mksC 64))) : CRd w (some ⟨g, 0, none⟩) (L ++ mksC 64) w.heap.size := by
  have e : n = (L ++ mksC 64).length := by rw [List.length_append, mksC_len]; exact hn
  subst e
  exact own_crd2 h
theorem farT {w w1 : World} {B n n' e e' s s' : Nat} {v v' : Value} {xs xs' : List Value} (h : w.ownsRow B e s v n xs) (h' : w1.ownsRow w.heap.size e' s' v' n' xs') : v.ownBlock = none ∨ v.ownBlock ≠ v'.ownBlock := ones_apart h h' (Nat.le_refl _)
theorem farT' {w w1 : World} {B n n' e e' s s' : Nat} {v v' : Value} {xs xs' : List Value} (h : w.ownsRow B e s v n xs) (h' : w1.ownsRow w.heap.size e' s' v' n' xs') : v'.ownBlock = none ∨ v'.ownBlock ≠ v.ownBlock := by
  cases hv : v'.ownBlock with
  | none => exact .inl rfl
  | some g =>
    right
    intro e
    have h1 := (h'.lt g hv).1
    have h2 := (h.lt g e.symm).2
    omega
def vals3 (a b c : Value) (i : Nat) : Value := if i = 0 then a else if i = 1 then b else c
theorem lt2 {i : Nat} (h : i < 2) : i = 0 ∨ i = 1 := by omega
theorem own2L {w : World} {B : Nat} {a c : Value} {A C : List Int} (hB : B ≤ w.heap.size) (ha : w.ownsRow B 3 1 a A.length (bi A)) (hc : w.ownsRow B 3 1 c C.length (bi C))
    (f1 : a.ownBlock = none ∨ a.ownBlock ≠ c.ownBlock) (f2 : c.ownBlock = none ∨ c.ownBlock ≠ a.ownBlock) :
    OwnL (w.alloc (.cells #[a, c] 40)) B (some ⟨w.heap.size, 0, none⟩) 2 2 (vals3 a c c) (fun i => if i = 0 then A else C) := by
  refine ⟨World.ownsRow_lit (size := 1) (base := B) (e := 40) w #[a, c] 2 hB (by decide) rfl, ?_, ?_⟩
  · intro i hi
    rcases lt2 hi with rfl | rfl
    · exact ha.alloc _
    · exact hc.alloc _
  · intro i j hi hj hne
    rcases lt2 hi with rfl | rfl <;> rcases lt2 hj with rfl | rfl <;> first | exact absurd rfl hne | exact f1 | exact f2
theorem touch_row2 {w w' : World} {B n e sz : Nat} {a c v : Value} {xs : List Value} (hT : Touch 2 (vals3 a c c) w w') (h : w.ownsRow B e sz v n xs) (f1 : v.ownBlock = none ∨ v.ownBlock ≠ a.ownBlock) (f2 : v.ownBlock = none ∨ v.ownBlock ≠ c.ownBlock) : w'.ownsRow B e sz v n xs := by
  refine ⟨h.1, ?_⟩
  rcases h.2 with h1 | ⟨g, cap, cur, rfl, h2, h3, h4⟩
  · exact .inl h1
  · refine .inr ⟨g, cap, cur, rfl, h2, ?_, h4⟩
    rw [hT.block g (Array.getElem?_eq_some_iff.1 h3).1 ?_]
    · exact h3
    · intro i hi e
      rcases lt2 hi with rfl | rfl
      · rcases f1 with f | f
        · cases f
        · exact f e.symm
      · rcases f2 with f | f
        · cases f
        · exact f e.symm
theorem own_readi {w : World} {B : Nat} {v : Value} {zs : List Int} (h : w.ownsRow B 3 1 v zs.length (bi zs)) : ∃ ao cap, v = .slice ao zs.length cap ∧ ReadsK w .i64 ao zs w.heap.size := by
  rcases h.2 with ⟨rfl, h0⟩ | ⟨g, cap, cur, rfl, hh⟩
  · exact ⟨none, 0, by rw [h0], fun hp => absurd hp (by omega)⟩
  · refine ⟨some ⟨g, 0, none⟩, cap, rfl, fun _ => ⟨g, 0, rfl, (h.lt g rfl).2, fun j hj => ?_⟩⟩
    rw [Nat.zero_add]
    exact iown_get h hj
theorem plB_le (L : List (Nat × Nat)) : (plB L).length ≤ 16385 := by
  by_cases h : encX L = 0
  · rw [(plB_bi L h).2]; have := (encX_zero L h).2; omega
  · simp [plB, h]
/-- what is written over the code -/
def arL (m : Nat) : List (Nat × Nat) := (List.range m).map fun _ => (12, 1)
theorem arL_succ (m : Nat) : arL (m + 1) = arL m ++ [(12, 1)] := by unfold arL; rw [List.range_succ, List.map_append]; rfl
theorem arL_len (m : Nat) : (arL m).length = m := by simp [arL]
theorem arL_wf (m : Nat) : Wfc (arL m) := by
  intro p hp
  obtain ⟨i, _, rfl⟩ := List.mem_map.1 hp
  exact ⟨by show 12 < 256; decide, by show 1 < 4294967296; decide⟩
theorem arL_ok (m : Nat) : allOk (arL m) = true := by
  rw [allOk, List.all_eq_true]
  intro p hp
  obtain ⟨i, _, rfl⟩ := List.mem_map.1 hp
  rfl
theorem ar_step (M : List (Nat × Nat)) (k : Nat) (h : k < M.length) : cv (arL (k + 1) ++ M.drop (k + 1)) = ((cv (arL k ++ M.drop k)).set (k * 2) (.int .u8 12)).set (k * 2 + 1) (.int .u32 1) := by
  have hl : (cv (arL k)).length = k * 2 := by rw [cv_len, arL_len]
  rw [arL_succ, List.drop_eq_getElem_cons h, cv_append, cv_append, cv_append]
  have e : cv (M[k] :: M.drop (k + 1)) = .int .u8 M[k].1 :: .int .u32 M[k].2 :: cv (M.drop (k + 1)) := rfl
  rw [e, List.set_append_right _ _ (by omega), List.set_append_right _ _ (by omega), hl]
  simp [cv]
theorem encF_ar : ∀ m, (encF (arL m)).length = 2 * m
  | 0 => rfl
  | m + 1 => by
    rw [arL_succ, encF_append, List.length_append, encF_ar m]
    have : (encF [(12, 1)]).length = 2 := by decide
    omega
theorem ar_take (n j : Nat) (h : j ≤ n) : (arL n).take j = arL j := by
  unfold arL; rw [← List.map_take, List.take_range, Nat.min_eq_left h]
theorem pl_ar (n j : Nat) (h : j ≤ n) : pl (arL n) j = 2 * j := by
  unfold pl; rw [ar_take n j h, encF_ar]
theorem encX_ar (n : Nat) : encX (arL n) = if 16384 < n then 73 else 0 := by
  unfold encX; rw [arL_len]
  split
  · rfl
  · rw [if_pos (arL_ok n)]
theorem plB_ar (n : Nat) (h : n ≤ 16384) : plB (arL n) = (List.range (n + 1)).map (fun j => ((2 * j : Nat) : Int)) := by
  have hX : encX (arL n) = 0 := by rw [encX_ar, if_neg (by omega)]
  rw [plB, if_pos hX, arL_len]
  apply List.map_congr_left
  intro j hj
  rw [pl_ar n j (by have := List.mem_range.1 hj; omega)]
theorem plB_arN (n : Nat) (h : 16384 < n) : plB (arL n) = [] := by
  have hX : encX (arL n) = 73 := by rw [encX_ar, if_pos h]
  rw [plB, if_neg (by rw [hX]; decide)]
end Go.Proofs.Ytfkjapkbpdbpmaa
