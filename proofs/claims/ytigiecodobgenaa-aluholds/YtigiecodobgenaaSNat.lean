import Derived.Test.YtigiecodobgenaaRows
import Derived.WalkKit
import Derived.WalkLawsBesides
import Derived.Laws.BitsAllLaws
import Derived.Deep.QuietTactic
import Derived.BigQuiet
import Derived.WalkSmall
import Derived.Laws.AppendOwn
namespace Go.Proofs.Ytigiecodobgenaa
open Go.RowKit

/-! numbers as lists of words of 32 bits, the lowest first -/
def nv : List Nat → Nat
  | [] => 0
  | z :: zs => z + 4294967296 * nv zs
/-- what a slice of words that is read holds -/
def ReadsU (w : World) (ao : Option Addr) (zs : List Nat) (B : Nat) : Prop :=
  0 < zs.length → ∃ b off, ao = some ⟨b, off, none⟩ ∧ b < B ∧ ∀ j, j < zs.length → w.cell? ⟨b, off + j, none⟩ = some (.int .u32 (zs.getD j 0 : Nat))
theorem ReadsU.below {w w' : World} {ao : Option Addr} {zs : List Nat} {B : Nat} (h : ReadsU w ao zs B) (hb : Below B w w') : ReadsU w' ao zs B := by
  intro hl
  obtain ⟨b, off, e, hlt, hc⟩ := h hl
  exact ⟨b, off, e, hlt, fun j hj => (hb.cell (p := ⟨b, off + j, none⟩) hlt).trans (hc j hj)⟩
theorem ReadsU.mono {w : World} {ao : Option Addr} {zs : List Nat} {B C : Nat} (h : ReadsU w ao zs B) (hb : B ≤ C) : ReadsU w ao zs C := by
  intro hl
  obtain ⟨b, off, e, hlt, hc⟩ := h hl
  exact ⟨b, off, e, Nat.lt_of_lt_of_le hlt hb, hc⟩
theorem ReadsU.take {w : World} {ao : Option Addr} {zs : List Nat} {B : Nat} (h : ReadsU w ao zs B) (n : Nat) (hn : n ≤ zs.length) : ReadsU w ao (zs.take n) B := by
  intro hl
  have e1 : (zs.take n).length = n := by simp; omega
  rw [e1] at hl
  obtain ⟨b, off, e, hlt, hc⟩ := h (by omega)
  refine ⟨b, off, e, hlt, fun j hj => ?_⟩
  rw [e1] at hj
  rw [hc j (by omega)]
  simp [List.getD, hj]
/-- the last word is not nought -/
def Norm (zs : List Nat) : Prop := zs.length = 0 ∨ zs.getD (zs.length - 1) 0 ≠ 0
def Words (zs : List Nat) : Prop := ∀ z ∈ zs, z < 4294967296
theorem words_get {zs : List Nat} (h : Words zs) (j : Nat) : zs.getD j 0 < 4294967296 := by
  by_cases hj : j < zs.length
  · simp only [List.getD, List.getElem?_eq_getElem hj, Option.getD_some]; exact h _ (List.getElem_mem hj)
  · simp [List.getD, List.getElem?_eq_none (Nat.le_of_not_lt hj)]
theorem nv_append (xs ys : List Nat) : nv (xs ++ ys) = nv xs + 4294967296 ^ xs.length * nv ys := by
  induction xs with
  | nil => simp [nv]
  | cons x xs ih =>
    simp only [List.cons_append, nv, ih, List.length_cons, Nat.pow_succ]
    rw [Nat.mul_add, Nat.mul_comm (4294967296 ^ xs.length) 4294967296, Nat.mul_assoc, Nat.add_assoc]
theorem nv_zero {zs : List Nat} (h : ∀ z ∈ zs, z = 0) : nv zs = 0 := by
  induction zs with
  | nil => rfl
  | cons z zs ih =>
    simp only [nv]
    rw [h z (by simp), ih (fun y hy => h y (by simp [hy]))]
theorem nv_lt {zs : List Nat} (h : Words zs) : nv zs < 4294967296 ^ zs.length := by
  induction zs with
  | nil => simp [nv]
  | cons z zs ih =>
    simp only [nv, List.length_cons, Nat.pow_succ]
    have h1 := h z (by simp)
    have h2 := ih (fun y hy => h y (by simp [hy]))
    have h3 : 4294967296 * (nv zs + 1) ≤ 4294967296 * 4294967296 ^ zs.length := Nat.mul_le_mul_left _ h2
    rw [Nat.mul_comm (4294967296 ^ zs.length)]
    omega
/-- what is cut off is noughts -/
theorem nv_take {zs : List Nat} (n : Nat) (hn : n ≤ zs.length) (h : ∀ j, n ≤ j → j < zs.length → zs.getD j 0 = 0) : nv (zs.take n) = nv zs := by
  have e : zs = zs.take n ++ zs.drop n := (List.take_append_drop n zs).symm
  have hz : nv (zs.drop n) = 0 := by
    apply nv_zero
    intro z hz
    obtain ⟨i, hi, rfl⟩ := List.getElem_of_mem hz
    have hi' : n + i < zs.length := by simp at hi; omega
    have := h (n + i) (by omega) hi'
    simp only [List.getD, List.getElem?_eq_getElem hi', Option.getD_some] at this
    rw [List.getElem_drop]; exact this
  have : nv zs = nv (zs.take n ++ zs.drop n) := by rw [← e]
  rw [this, nv_append, hz, Nat.mul_zero, Nat.add_zero]

set_option maxHeartbeats 1000000 in
set_option maxRecDepth 100000 in
theorem cut_any (ao : Option Addr) (cap : Nat) (zs : List Nat) (w : World) (hcap : zs.length ≤ cap) (hn : zs.length ≤ 1000000) (hr : ReadsU w ao zs w.heap.size) (hnil : ao = none → cap = 0) :
    Calls Try.prog 50 #[.slice ao zs.length cap] w fun e w' => (∃ n, n ≤ zs.length ∧ e = .returned (.slice ao n cap) ∧ nv (zs.take n) = nv zs ∧ Norm (zs.take n)) ∧ w' = w := by
  go_enter Try.func50, Try.ntmps50
  go_wp2
  go_loop [3] (fun n => ∃ k : Nat, k ≤ zs.length ∧ n = .int .i64 (k : Int) ∧ ∀ j, k ≤ j → j < zs.length → zs.getD j 0 = 0) (fun n => (intOf n).toNat)
  case atStart => exact ⟨zs.length, Nat.le_refl _, rfl, fun j h1 h2 => by omega⟩
  case round =>
    obtain ⟨k, hk, rfl, hz⟩ := hrel
    have hnorm : ∀ n, n ≤ zs.length → (n = 0 ∨ zs.getD (n - 1) 0 ≠ 0) → Norm (zs.take n) := by
      intro n hn1 hn2
      have e1 : (zs.take n).length = n := by simp; omega
      unfold Norm
      rw [e1]
      rcases hn2 with h | h
      · exact Or.inl h
      · by_cases h0 : n = 0
        · exact Or.inl h0
        · refine Or.inr ?_
          rw [show (zs.take n).getD (n - 1) 0 = zs.getD (n - 1) 0 by simp [List.getD, show n - 1 < n by omega]]
          exact h
    by_cases hk0 : k = 0
    · subst hk0
      have ht := nv_take 0 (Nat.zero_le _) hz
      have hN := hnorm 0 (Nat.zero_le _) (Or.inl rfl)
      clear hz hnorm
      cases ao with
      | none =>
        have hc0 := hnil rfl
        subst hc0
        go_wp2
        go_ret
        exact ⟨⟨0, Nat.zero_le _, rfl, ht, hN⟩, rfl⟩
      | some ad =>
        by_cases hc : cap = 0
        · subst hc
          go_wp2
          go_ret
          exact ⟨⟨0, Nat.zero_le _, rfl, ht, hN⟩, rfl⟩
        · have g1 : ¬ (0 : Int) = (cap : Int) := by omega
          have g2 : ¬ 0 = cap := by omega
          have g3 : (0 : Int) ≤ (cap : Int) := by omega
          go_wp2
          go_ret
          exact ⟨⟨0, Nat.zero_le _, rfl, ht, hN⟩, rfl⟩
    · obtain ⟨j, rfl⟩ : ∃ j, k = j + 1 := ⟨k - 1, by omega⟩
      obtain ⟨b, off, rfl, hbl, hcs⟩ := hr (by omega)
      have hcj := hcs j (by omega)
      have hin := hnorm (j + 1) hk
      rw [Nat.add_sub_cancel] at hin
      have hte := nv_take (j + 1) hk hz
      by_cases hc0 : zs.getD j 0 = 0
      · rw [hc0] at hcj
        have hz' : ∀ i, j ≤ i → i < zs.length → zs.getD i 0 = 0 := fun i h1 h2 => by
          by_cases e : i = j
          · rw [e]; exact hc0
          · exact hz i (by omega) h2
        clear hcs hin hte hc0 hz hnorm
        have g1 : (0 : Int) ≤ (j : Int) := by omega
        have g2 : (j : Int) < (zs.length : Int) := by omega
        go_wp2
        go_round
        case rel => exact ⟨j, by omega, by go_num, hz'⟩
        case measure => simp [intOf]
      · have hN := hin (Or.inr hc0)
        have gc : (((zs.getD j 0 : Nat) : Int) == 0) = false := by simp; simpa using hc0
        generalize zs.getD j 0 = c at *
        clear hcs hin hz hnorm hc0
        have g1 : (0 : Int) ≤ (j : Int) := by omega
        have g2 : (j : Int) < (zs.length : Int) := by omega
        have g3 : ¬ (0 : Int) = (cap : Int) := by omega
        have g4 : ¬ 0 = cap := by omega
        have g5 : (j : Int) + 1 ≤ (cap : Int) := by omega
        go_wp2
        go_ret
        exact ⟨⟨j + 1, hk, by first | rfl | simp, hte, hN⟩, rfl⟩
end Go.Proofs.Ytigiecodobgenaa
