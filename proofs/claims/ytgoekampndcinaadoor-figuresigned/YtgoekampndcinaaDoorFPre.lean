import Derived.Test.YtgoekampndcinaaDoorFBase
namespace Go.Proofs.YtgoekampndcinaaDoor
open Go.RowKit

/-- whether a text begins so -/
def hp (s p : ByteArray) : Bool := decide (p.size ≤ s.size) && ((s.extract 0 p.size).data.toList == p.data.toList)

set_option maxRecDepth 100000 in
set_option maxHeartbeats 2000000 in
theorem hpl_any (s p : ByteArray) (w : World) :
    Calls Tryd.prog 25 #[.string s, .string p] w fun e w' => e = .returned (.bool (hp s p)) ∧ w' = w := by
  by_cases h : p.size ≤ s.size
  · have hI : (p.size : Int) ≤ (s.size : Int) := by omega
    have HE : Hid (hp s p = ((s.extract 0 p.size).data.toList == p.data.toList)) := by rw [Hid, hp]; simp [h]
    go_enter Tryd.func25, Tryd.ntmps25
    go_wp2
    go_ret
    refine ⟨?_, rfl⟩
    rw [HE.out, ← Lib.toList_data, ← Lib.toList_data]; rfl
  · have hI : (s.size : Int) < (p.size : Int) := by omega
    have HE : Hid (hp s p = false) := by rw [Hid, hp]; simp [h]
    go_enter Tryd.func25, Tryd.ntmps25
    go_wp2
    go_ret
    refine ⟨?_, rfl⟩
    rw [HE.out]; rfl
set_option maxRecDepth 100000 in
set_option maxHeartbeats 2000000 in
theorem hp_any (s p : ByteArray) (w : World) :
    Calls Tryd.prog 16 #[.string s, .string p] w fun e w' => e = .returned (.bool (hp s p)) ∧ w' = w := by
  go_enter Tryd.func16, Tryd.ntmps16
  go_wp2_with (go_at_call 25; refine (hpl_any _ _ _).mono ?_; rintro e w' ⟨rfl, hw'⟩; subst hw')
  go_ret
  exact ⟨rfl, rfl⟩

theorem bt_data (s : ByteArray) (i : Nat) (h : i < s.size) : s.data.toList[i]? = some (UInt8.ofNat (bt s i)) := by
  have hl : i < s.data.toList.length := by rw [Array.length_toList]; exact h
  rw [List.getElem?_eq_getElem hl, bt_eq s i h]
  simp; rfl
theorem hp2 (s : ByteArray) (a b : UInt8) : hp s ⟨#[a, b]⟩ = decide (2 ≤ s.size ∧ bt s 0 = a.toNat ∧ bt s 1 = b.toNat) := by
  have hz : (⟨#[a, b]⟩ : ByteArray).size = 2 := rfl
  unfold hp
  rw [hz]
  by_cases h : 2 ≤ s.size
  · have e : (s.extract 0 2).data.toList = [UInt8.ofNat (bt s 0), UInt8.ofNat (bt s 1)] := by
      rw [Lib.extract_data]
      have h0 := bt_data s 0 (by omega)
      have h1 := bt_data s 1 (by omega)
      generalize s.data.toList = l at *
      match l, h0, h1 with
      | x :: y :: r, h0, h1 => simp at h0 h1 ⊢; exact ⟨h0, h1⟩
    have hb0 := bt_lt s 0
    have hb1 := bt_lt s 1
    rw [e, Bool.eq_iff_iff]
    simp only [h, decide_true, Bool.true_and, beq_iff_eq, true_and, decide_eq_true_eq, List.cons.injEq, and_true]
    constructor
    · rintro ⟨h0, h1⟩
      rw [← h0, ← h1]
      simp [Nat.mod_eq_of_lt hb0, Nat.mod_eq_of_lt hb1]
    · rintro ⟨h0, h1⟩
      rw [h0, h1]; simp
  · simp [h]
theorem hp1 (s : ByteArray) (a : UInt8) : hp s ⟨#[a]⟩ = decide (1 ≤ s.size ∧ bt s 0 = a.toNat) := by
  have hz : (⟨#[a]⟩ : ByteArray).size = 1 := rfl
  unfold hp
  rw [hz]
  by_cases h : 1 ≤ s.size
  · have e : (s.extract 0 1).data.toList = [UInt8.ofNat (bt s 0)] := by
      rw [Lib.extract_data]
      have h0 := bt_data s 0 (by omega)
      generalize s.data.toList = l at *
      match l, h0 with
      | x :: r, h0 => simp at h0 ⊢; exact h0
    have hb0 := bt_lt s 0
    rw [e, Bool.eq_iff_iff]
    simp only [h, decide_true, Bool.true_and, beq_iff_eq, true_and, decide_eq_true_eq, List.cons.injEq, and_true]
    constructor
    · intro h0
      rw [← h0]
      simp [Nat.mod_eq_of_lt hb0]
    · intro h0
      rw [h0]; simp
  · simp [h]
end Go.Proofs.YtgoekampndcinaaDoor
