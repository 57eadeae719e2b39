import Derived.Test.YthfncfmfcbhpfaaRows
import Derived.Test.YthfncfmfcbhpfaaProg
import Derived.WalkKit
import Derived.WalkLawsBesides
import Derived.Deep.QuietTactic
namespace Go.Proofs.Ythfncfmfcbhpfaa
open Go.RowKit
set_option maxRecDepth 100000
/-- a write's cells: its place, where its bytes lie, how many, the room -/
abbrev WCell := Nat × Option Addr × Nat × Nat
def wc0 : WCell := (0, none, 0, 0)
/-- writes that are read -/
def WcC (w : World) (ao : Option Addr) (cs : List WCell) (B : Nat) : Prop :=
  0 < cs.length → ∃ b off, ao = some ⟨b, off, none⟩ ∧ b < B ∧ ∀ j, j < cs.length → w.cell? ⟨b, off + j * 2, none⟩ = some (.int .u32 ((cs.getD j wc0).1 : Nat)) ∧ w.cell? ⟨b, off + j * 2 + 1, none⟩ = some (.slice (cs.getD j wc0).2.1 (cs.getD j wc0).2.2.1 (cs.getD j wc0).2.2.2)
theorem WcC.below {w w' : World} {ao : Option Addr} {J : List WCell} {B : Nat} (h : WcC w ao J B) (hb : Below B w w') : WcC w' ao J B := by
  intro hl
  obtain ⟨b, off, e, hlt, hc⟩ := h hl
  exact ⟨b, off, e, hlt, fun j hj => ⟨(hb.cell (p := ⟨b, off + j * 2, none⟩) hlt).trans (hc j hj).1, (hb.cell (p := ⟨b, off + j * 2 + 1, none⟩) hlt).trans (hc j hj).2⟩⟩
theorem WcC.mono {w : World} {ao : Option Addr} {J : List WCell} {B C : Nat} (h : WcC w ao J B) (hb : B ≤ C) : WcC w ao J C := by
  intro hl
  obtain ⟨b, off, e, hlt, hc⟩ := h hl
  exact ⟨b, off, e, by omega, hc⟩
def fitC (cs : List WCell) : Bool := decide (cs.length ≤ 16) && cs.all (fun c => decide (c.2.2.1 ≤ 256))
theorem fjhid {p : Prop} (h : p) : Hid p := h
theorem fitC_long {cs : List WCell} (h : ¬ cs.length ≤ 16) : fitC cs = false := by simp [fitC, h]
theorem fitC_bad {cs : List WCell} {k : Nat} (hk : k < cs.length) (h : ¬ (cs.getD k wc0).2.2.1 ≤ 256) : fitC cs = false := by
  unfold fitC
  rw [Bool.and_eq_false_iff]
  right
  rw [List.all_eq_false]
  exact ⟨cs.getD k wc0, by simp [List.getD, List.getElem?_eq_getElem hk], by simpa using h⟩
theorem fitC_ok {cs : List WCell} (h : cs.length ≤ 16) (h2 : ∀ k, k < cs.length → (cs.getD k wc0).2.2.1 ≤ 256) : fitC cs = true := by
  unfold fitC
  rw [Bool.and_eq_true, decide_eq_true_eq, List.all_eq_true]
  refine ⟨h, fun c hc => ?_⟩
  obtain ⟨k, hk, rfl⟩ := List.getElem_of_mem hc
  have := h2 k hk
  simpa [List.getD, List.getElem?_eq_getElem hk] using this
set_option maxHeartbeats 2000000 in
theorem fits_any (v : Int) (ao : Option Addr) (cap : Nat) (cs : List WCell) (w : World) (hr : WcC w ao cs w.heap.size) :
    Calls Try.prog 9 #[.agg #[.int .u32 v, .slice ao cs.length cap]] w fun e w' => e = .returned (.bool (fitC cs)) ∧ Below w.heap.size w w' := by
  by_cases h16 : cs.length ≤ 16
  · have hd0 : decide ((16 : Int) < cs.length) = false := by simp; omega
    go_enter Try.func9, Try.ntmps9
    go_wp2
    go_loopw [12] (fun i wr => ∃ k : Nat, i = .int .i64 k ∧ k ≤ cs.length ∧ (∀ j, j < k → (cs.getD j wc0).2.2.1 ≤ 256) ∧ Below w.heap.size w wr) (fun i _ => cs.length - (intOf i).toNat)
    case atStart => exact ⟨0, rfl, Nat.zero_le _, (fun j hj => by omega), (Below.refl _ _).alloc (Nat.le_refl _) _⟩
    case round =>
      obtain ⟨k, rfl, hk, hgood, hb⟩ := hrel
      by_cases hlt : k < cs.length
      · have hd : decide ((k : Int) < cs.length) = true := by simp; omega
        obtain ⟨bo, off, rfl, hbl, hc⟩ := hr (by omega)
        have c1 := (hb.cell (p := ⟨bo, off + k * 2, none⟩) hbl).trans (hc k hlt).1
        have c2 := (hb.cell (p := ⟨bo, off + k * 2 + 1, none⟩) hbl).trans (hc k hlt).2
        have hB := fun o => hb.alloc hb.size o
        by_cases hle : (cs.getD k wc0).2.2.1 ≤ 256
        · have HG := fjhid (fun j (hj : j < k + 1) => show (cs.getD j wc0).2.2.1 ≤ 256 from if h : j < k then hgood j h else (show j = k by omega) ▸ hle)
          generalize cs.getD k wc0 = c at *
          obtain ⟨x0, x1, x2, x3⟩ := c
          simp only at c1 c2 hle
          have hd2 : decide ((256 : Int) < (x2 : Int)) = false := by simp; omega
          clear hc hgood hr
          go_wp2
          go_roundw
          case rel => exact ⟨k + 1, by go_num, hlt, HG.out, hB _⟩
          case measure => simp [intOf]; omega
        · have HB := fjhid (fitC_bad hlt hle)
          generalize cs.getD k wc0 = c at *
          obtain ⟨x0, x1, x2, x3⟩ := c
          simp only at c1 c2 hle
          have hd2 : decide ((256 : Int) < (x2 : Int)) = true := by simp; omega
          have hd3 : (256 : Int) < (x2 : Int) := by omega
          clear hc hgood hr
          go_wp2
          go_ret
          exact ⟨by rw [HB.out]; rfl, hB _⟩
      · have hd : decide ((k : Int) < cs.length) = false := by simp; omega
        have HB := fjhid (fitC_ok h16 (fun j hj => hgood j (by omega)))
        go_wp2
        go_ret
        exact ⟨by rw [HB.out]; rfl, hb⟩
  · have HB := fjhid (fitC_long h16)
    have hd0 : decide ((16 : Int) < cs.length) = true := by simp; omega
    go_enter Try.func9, Try.ntmps9
    go_wp2
    go_ret
    exact ⟨by rw [HB.out]; rfl, (Below.refl _ _).alloc (Nat.le_refl _) _⟩
end Go.Proofs.Ythfncfmfcbhpfaa
