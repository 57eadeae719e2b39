import Derived.Test.YtibjjlogdepgjaaLWd8
import Derived.Test.YtibjjlogdepgjaaLWd16
import Derived.Test.YtibjjlogdepgjaaLWd32
import Derived.Test.YtibjjlogdepgjaaISzs
import Derived.Deep.AppendLies
namespace Go.Proofs.Ytibjjlogdepgjaa
open Go.RowKit
set_option maxRecDepth 100000

/-- code as values -/
def cv (L : List (Nat × Nat)) : List Value := L.flatMap fun p => [.int .u8 p.1, .int .u32 p.2]
theorem cv_append (L M : List (Nat × Nat)) : cv (L ++ M) = cv L ++ cv M := by simp [cv]
theorem cv_one (p : Nat × Nat) : cv [p] = [.int .u8 p.1, .int .u32 p.2] := rfl
theorem cv_len (L : List (Nat × Nat)) : (cv L).length = L.length * 2 := by
  induction L with
  | nil => rfl
  | cons p L ih =>
    rw [show cv (p :: L) = [.int .u8 p.1, .int .u32 p.2] ++ cv L from rfl, List.length_append, ih, List.length_cons]
    simp; omega
/-- what a slice of instructions that is read holds -/
def CRd (w : World) (ao : Option Addr) (L : List (Nat × Nat)) (B : Nat) : Prop :=
  0 < L.length → ∃ b off, ao = some ⟨b, off, none⟩ ∧ b < B ∧ ∀ j, j < L.length → w.cell? ⟨b, off + j * 2, none⟩ = some (.int .u8 (L.getD j (0, 0)).1) ∧ w.cell? ⟨b, off + j * 2 + 1, none⟩ = some (.int .u32 (L.getD j (0, 0)).2)
theorem CRd.below {w w' : World} {ao : Option Addr} {L : List (Nat × Nat)} {B : Nat} (h : CRd w ao L B) (hb : Below B w w') : CRd w' ao L B := by
  intro hl
  obtain ⟨b, off, e, hlt, hc⟩ := h hl
  exact ⟨b, off, e, hlt, fun j hj => ⟨(hb.cell (p := ⟨b, off + j * 2, none⟩) hlt).trans (hc j hj).1, (hb.cell (p := ⟨b, off + j * 2 + 1, none⟩) hlt).trans (hc j hj).2⟩⟩
theorem CRd.mono {w : World} {ao : Option Addr} {L : List (Nat × Nat)} {B C : Nat} (h : CRd w ao L B) (hb : B ≤ C) : CRd w ao L C := by
  intro hl
  obtain ⟨b, off, e, hlt, hc⟩ := h hl
  exact ⟨b, off, e, Nat.lt_of_lt_of_le hlt hb, hc⟩
/-- each number is one of its kind -/
def Wfc (L : List (Nat × Nat)) : Prop := ∀ p ∈ L, p.1 < 256 ∧ p.2 < 4294967296
theorem Wfc.at {L : List (Nat × Nat)} (h : Wfc L) {k : Nat} (hk : k < L.length) : (L.getD k (0, 0)).1 < 256 ∧ (L.getD k (0, 0)).2 < 4294967296 := by
  apply h
  rw [List.getD_eq_getElem?_getD, List.getElem?_eq_getElem hk]
  exact List.getElem_mem hk
theorem ptake {α : Type} (d : α) (zs : List α) (k : Nat) (h : k < zs.length) : zs.take (k + 1) = zs.take k ++ [zs.getD k d] := by
  rw [List.take_add_one, List.getD_eq_getElem?_getD, List.getElem?_eq_getElem h]; rfl

def okI (p : Nat × Nat) : Bool := erV p.1 p.2 == 0
def enc1 (p : Nat × Nat) : List Int := (p.1 : Int) :: nb (opWi p.1) p.2
def encF (L : List (Nat × Nat)) : List Int := L.flatMap enc1
theorem encF_append (L M : List (Nat × Nat)) : encF (L ++ M) = encF L ++ encF M := by simp [encF]
theorem encF_one (p : Nat × Nat) : encF [p] = (p.1 : Int) :: nb (opWi p.1) p.2 := by simp [encF, enc1]
theorem enc1_len (p : Nat × Nat) : (enc1 p).length = 1 + opWi p.1 := by simp [enc1, nb_len]; omega
theorem encF_le (L : List (Nat × Nat)) : (encF L).length ≤ 5 * L.length := by
  induction L with
  | nil => simp [encF]
  | cons p L ih =>
    have := opWi_le p.1
    rw [show encF (p :: L) = enc1 p ++ encF L from rfl, List.length_append, enc1_len, List.length_cons]; omega
/-- the number of instructions ahead of the first that may not be -/
def badAt : List (Nat × Nat) → Nat
  | [] => 0
  | p :: L => if okI p then badAt L + 1 else 0
def allOk (L : List (Nat × Nat)) : Bool := L.all okI
theorem badAt_of (L : List (Nat × Nat)) (k : Nat) (hk : k < L.length) (h : ∀ j, j < k → okI (L.getD j (0, 0)) = true) (hb : okI (L.getD k (0, 0)) = false) : badAt L = k ∧ allOk L = false := by
  induction L generalizing k with
  | nil => simp at hk
  | cons p L ih =>
    cases k with
    | zero => 
      have hb' : okI p = false := hb
      simp [badAt, allOk, hb']
    | succ k =>
      have h0 : okI p = true := h 0 (by omega)
      obtain ⟨e1, e2⟩ := ih k (by simpa using hk) (fun j hj => h (j + 1) (by omega)) hb
      refine ⟨by rw [badAt, if_pos h0, e1], ?_⟩
      simp only [allOk, List.all_cons, h0, Bool.true_and] at e2 ⊢
      exact e2
theorem allOk_of (L : List (Nat × Nat)) (h : ∀ j, j < L.length → okI (L.getD j (0, 0)) = true) : allOk L = true := by
  rw [allOk, List.all_eq_true]
  intro p hp
  obtain ⟨j, hj, rfl⟩ := List.getElem_of_mem hp
  have := h j hj
  rwa [List.getD_eq_getElem?_getD, List.getElem?_eq_getElem hj] at this
def encB (L : List (Nat × Nat)) : List Int := if 16384 < L.length then [] else if allOk L then encF L else []
def encI (L : List (Nat × Nat)) : Nat := if 16384 < L.length then 16384 else if allOk L then 0 else badAt L
def encX (L : List (Nat × Nat)) : Nat := if 16384 < L.length then 73 else if allOk L then 0 else erV (L.getD (badAt L) (0, 0)).1 (L.getD (badAt L) (0, 0)).2
theorem opWi_cases (k : Nat) : opWi k = 0 ∨ opWi k = 1 ∨ opWi k = 2 ∨ opWi k = 4 := by
  by_cases h : 1 ≤ k ∧ k ≤ 59
  · have : ∀ j, j < 60 → (opWi j = 0 ∨ opWi j = 1 ∨ opWi j = 2 ∨ opWi j = 4) := by decide
    exact this k (by omega)
  · exact Or.inl (opT_zero k h).2.1

theorem nb_mod (w : Nat) : ∀ (x : Int) (k : Nat), w ≤ k → nb w (x % 256 ^ k) = nb w x := by
  induction w with
  | zero => intro x k _; rfl
  | succ w ih =>
    intro x k hk
    obtain ⟨m, rfl⟩ : ∃ m, k = m + 1 := ⟨k - 1, by omega⟩
    have hP := pow256_pos m
    have e1 : x % 256 ^ (m + 1) % 256 = x % 256 := by
      rw [pow256, Int.mul_comm, emod_256 _ _ hP]; omega
    have e2 : x % 256 ^ (m + 1) / 256 = x / 256 % 256 ^ m := by
      rw [pow256, Int.mul_comm, emod_256 _ _ hP]; omega
    show x % 256 ^ (m + 1) % 256 :: nb w (x % 256 ^ (m + 1) / 256) = x % 256 :: nb w (x / 256)
    rw [e1, e2, ih _ _ (by omega)]
end Go.Proofs.Ytibjjlogdepgjaa
