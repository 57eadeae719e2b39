import Derived.Test.YtdegmojfphkejaaIEnd
import Derived.Test.YtdegmojfphkejaaLApart
namespace Go.Proofs.Ytdegmojfphkejaa
open Go.RowKit
set_option maxRecDepth 100000

theorem lent_crd {w : World} {B g c n : Nat} {L : List (Nat × Nat)} (hn : n = L.length + 64) (h : w.ownsRow B 32 2 (.slice (some ⟨g, 0, none⟩) n c) n (cv (L ++ mksC 64))) : CRd w (some ⟨g, 0, none⟩) (L ++ mksC 64) w.heap.size := by
  have e : n = (L ++ mksC 64).length := by rw [List.length_append, mksC_len]; exact hn
  subst e
  exact own_crd2 h
theorem farT {w w1 : World} {B n n' e e' s s' : Nat} {v v' : Value} {xs xs' : List Value} (h : w.ownsRow B e s v n xs) (h' : w1.ownsRow w.heap.size e' s' v' n' xs') : v.ownBlock = none ∨ v.ownBlock ≠ v'.ownBlock := ones_apart h h' (Nat.le_refl _)
theorem farT' {w w1 : World} {B n n' e e' s s' : Nat} {v v' : Value} {xs xs' : List Value} (h : w.ownsRow B e s v n xs) (h' : w1.ownsRow w.heap.size e' s' v' n' xs') : v'.ownBlock = none ∨ v'.ownBlock ≠ v.ownBlock := by
  cases hv : v'.ownBlock with
  | none => exact .inl rfl
  | some g =>
    right
    intro e
    have h1 := (h'.lt g hv).1
    have h2 := (h.lt g e.symm).2
    omega
def vals3 (a b c : Value) (i : Nat) : Value := if i = 0 then a else if i = 1 then b else c
def z3 (A C : List Int) (i : Nat) : List Int := if i = 2 then C else A
theorem lt3 {i : Nat} (h : i < 3) : i = 0 ∨ i = 1 ∨ i = 2 := by omega
theorem lt2 {i : Nat} (h : i < 2) : i = 0 ∨ i = 1 := by omega
theorem own3 {w : World} {B : Nat} {a b c : Value} {A C : List Int} (hB : B ≤ w.heap.size) (ha : w.ownsRow B 5 1 a A.length (bv A)) (hb : w.ownsRow B 5 1 b A.length (bv A)) (hc : w.ownsRow B 5 1 c C.length (bv C))
    (f1 : a.ownBlock = none ∨ a.ownBlock ≠ b.ownBlock) (f2 : b.ownBlock = none ∨ b.ownBlock ≠ a.ownBlock) (f3 : a.ownBlock = none ∨ a.ownBlock ≠ c.ownBlock) (f4 : c.ownBlock = none ∨ c.ownBlock ≠ a.ownBlock) (f5 : b.ownBlock = none ∨ b.ownBlock ≠ c.ownBlock) (f6 : c.ownBlock = none ∨ c.ownBlock ≠ b.ownBlock) :
    OwnL (w.alloc (.cells #[a, b, c] 24)) B (some ⟨w.heap.size, 0, none⟩) 3 3 (vals3 a b c) (z3 A C) := by
  refine ⟨World.ownsRow_lit (size := 1) (base := B) (e := 24) w #[a, b, c] 3 hB (by decide) rfl, ?_, ?_⟩
  · intro i hi
    rcases lt3 hi with rfl | rfl | rfl
    · exact ha.alloc _
    · exact hb.alloc _
    · exact hc.alloc _
  · intro i j hi hj hne
    rcases lt3 hi with rfl | rfl | rfl <;> rcases lt3 hj with rfl | rfl | rfl <;> first | exact absurd rfl hne | exact f1 | exact f2 | exact f3 | exact f4 | exact f5 | exact f6
theorem own2L {w : World} {B : Nat} {a c : Value} {A C : List Int} (hB : B ≤ w.heap.size) (ha : w.ownsRow B 5 1 a A.length (bv A)) (hc : w.ownsRow B 5 1 c C.length (bv C))
    (f1 : a.ownBlock = none ∨ a.ownBlock ≠ c.ownBlock) (f2 : c.ownBlock = none ∨ c.ownBlock ≠ a.ownBlock) :
    OwnL (w.alloc (.cells #[a, c] 24)) B (some ⟨w.heap.size, 0, none⟩) 2 2 (vals3 a c c) (fun i => if i = 0 then A else C) := by
  refine ⟨World.ownsRow_lit (size := 1) (base := B) (e := 24) w #[a, c] 2 hB (by decide) rfl, ?_, ?_⟩
  · intro i hi
    rcases lt2 hi with rfl | rfl
    · exact ha.alloc _
    · exact hc.alloc _
  · intro i j hi hj hne
    rcases lt2 hi with rfl | rfl <;> rcases lt2 hj with rfl | rfl <;> first | exact absurd rfl hne | exact f1 | exact f2
theorem touch_row {w w' : World} {B n e sz : Nat} {a b c v : Value} {xs : List Value} (hT : Touch 3 (vals3 a b c) w w') (h : w.ownsRow B e sz v n xs) (f1 : v.ownBlock = none ∨ v.ownBlock ≠ a.ownBlock) (f2 : v.ownBlock = none ∨ v.ownBlock ≠ b.ownBlock) (f3 : v.ownBlock = none ∨ v.ownBlock ≠ c.ownBlock) : w'.ownsRow B e sz v n xs := by
  refine ⟨h.1, ?_⟩
  rcases h.2 with h1 | ⟨g, cap, cur, rfl, h2, h3, h4⟩
  · exact .inl h1
  · refine .inr ⟨g, cap, cur, rfl, h2, ?_, h4⟩
    rw [hT.block g (Array.getElem?_eq_some_iff.1 h3).1 ?_]
    · exact h3
    · intro i hi e
      rcases lt3 hi with rfl | rfl | rfl
      · rcases f1 with f | f
        · cases f
        · exact f e.symm
      · rcases f2 with f | f
        · cases f
        · exact f e.symm
      · rcases f3 with f | f
        · cases f
        · exact f e.symm
theorem encB_le (L : List (Nat × Nat)) : (encB L).length ≤ 81920 := by
  unfold encB
  split
  · simp
  · split
    · have := encF_le L; omega
    · simp
/-- what is written over the code -/
def ovL (m : Nat) : List (Nat × Nat) := (List.range m).map fun i => (8, i % 4294967296)
theorem ovL_succ (m : Nat) : ovL (m + 1) = ovL m ++ [(8, m % 4294967296)] := by unfold ovL; rw [List.range_succ, List.map_append]; rfl
theorem ovL_len (m : Nat) : (ovL m).length = m := by simp [ovL]
theorem ovL_wf (m : Nat) : Wfc (ovL m) := by
  intro p hp
  obtain ⟨i, _, rfl⟩ := List.mem_map.1 hp
  exact ⟨by show 8 < 256; decide, Nat.mod_lt _ (by decide)⟩
theorem ov_step (M : List (Nat × Nat)) (k : Nat) (h : k < M.length) : cv (ovL (k + 1) ++ M.drop (k + 1)) = ((cv (ovL k ++ M.drop k)).set (k * 2) (.int .u8 8)).set (k * 2 + 1) (.int .u32 ((k % 4294967296 : Nat) : Int)) := by
  have hl : (cv (ovL k)).length = k * 2 := by rw [cv_len, ovL_len]
  rw [ovL_succ, List.drop_eq_getElem_cons h, cv_append, cv_append, cv_append]
  have e : cv (M[k] :: M.drop (k + 1)) = .int .u8 M[k].1 :: .int .u32 M[k].2 :: cv (M.drop (k + 1)) := rfl
  rw [e, List.set_append_right _ _ (by omega), List.set_append_right _ _ (by omega), hl]
  simp [cv]
end Go.Proofs.Ytdegmojfphkejaa
