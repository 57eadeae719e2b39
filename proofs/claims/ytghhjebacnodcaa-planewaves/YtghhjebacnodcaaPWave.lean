import Derived.Test.YtghhjebacnodcaaPDiv
import Derived.Deep.LoopGhost
namespace Go.Proofs.Ytghhjebacnodcaa
open Go.RowKit
abbrev cp (p : Nat × Nat) : Value := .complex .f64 p.1 p.2
/-- the eight roots -/
def rb (e : Nat) : Nat × Nat := match e with
  | 0 => (4607182418800017408, 0) | 1 => (4604544271217802189, 13827916308072577997) | 2 => (0, 13830554455654793216) | 3 => (13827916308072577997, 13827916308072577997)
  | 4 => (13830554455654793216, 0) | 5 => (13827916308072577997, 4604544271217802189) | 6 => (0, 4607182418800017408) | _ => (4604544271217802189, 4604544271217802189)
/-- which root -/
def ex (n j k : Nat) (back : Bool) : Nat := if back = true then (8 - j * k * (8 / n) % 8) % 8 else j * k * (8 / n) % 8
theorem ex_lt (n j k : Nat) (back : Bool) : ex n j k back < 8 := by unfold ex; split <;> omega
abbrev rootCells : Array Value := #[cp (rb 0), cp (rb 1), cp (rb 2), cp (rb 3), cp (rb 4), cp (rb 5), cp (rb 6), cp (rb 7)]
/-- what a slice of points that is read holds -/
def CReads (w : World) (ao : Option Addr) (ps : List (Nat × Nat)) (B : Nat) : Prop :=
  0 < ps.length → ∃ b off, ao = some ⟨b, off, none⟩ ∧ b < B ∧ ∀ j, j < ps.length → w.cell? ⟨b, off + j, none⟩ = some (cp (ps.getD j (0, 0)))
theorem CReads.below {w w' : World} {ao : Option Addr} {ps : List (Nat × Nat)} {B : Nat} (h : CReads w ao ps B) (hb : Below B w w') : CReads w' ao ps B := by
  intro hl
  obtain ⟨b, off, e, hlt, hc⟩ := h hl
  exact ⟨b, off, e, hlt, fun j hj => (hb.cell (p := ⟨b, off + j, none⟩) hlt).trans (hc j hj)⟩
theorem root_cell (e : Nat) (he : e < 8) : (#[Value.complex .f64 4607182418800017408 0, .complex .f64 4604544271217802189 13827916308072577997, .complex .f64 0 13830554455654793216, .complex .f64 13827916308072577997 13827916308072577997, .complex .f64 13830554455654793216 0, .complex .f64 13827916308072577997 4604544271217802189, .complex .f64 0 4607182418800017408, .complex .f64 4604544271217802189 4604544271217802189])[e]? = some (cp (rb e)) := by
  have : e = 0 ∨ e = 1 ∨ e = 2 ∨ e = 3 ∨ e = 4 ∨ e = 5 ∨ e = 6 ∨ e = 7 := by omega
  rcases this with rfl | rfl | rfl | rfl | rfl | rfl | rfl | rfl <;> rfl
theorem ex_int (n j k : Nat) (hn : n = 1 ∨ n = 2 ∨ n = 4 ∨ n = 8) (hj : j < n) (hk : k < n) : (wrap64 ((j : Int) * (k : Int) * (8 / (n : Int)))).tmod 8 = ((j * k * (8 / n) % 8 : Nat) : Int) := by
  have hjk : j * k ≤ 64 := Nat.le_trans (Nat.mul_le_mul (show j ≤ 8 by omega) (show k ≤ 8 by omega)) (by decide)
  rw [← Int.natCast_mul]
  generalize j * k = x at *
  have hw : ∀ y : Int, 0 ≤ y → y ≤ 512 → (wrap64 y).tmod 8 = y % 8 := by
    intro y h0 h1
    rw [show wrap64 y = y by unfold wrap64; omega, Int.tmod_eq_emod_of_nonneg h0]
  rw [hw _ (by rcases hn with rfl | rfl | rfl | rfl <;> omega) (by rcases hn with rfl | rfl | rfl | rfl <;> omega)]
  rcases hn with rfl | rfl | rfl | rfl <;> omega
@[go_sem] theorem run_store_complex {P : Program} {w : World} {a : Addr} {m : Mode} (k : FloatKind) (x y : Nat) : (store a (.complex k x y) m).run P w = stored P w a (.complex k x y) m := run_store P w a _ m rfl
set_option maxRecDepth 100000 in
set_option maxHeartbeats 1000000 in
theorem wave_gen (I : Nat → Nat → Nat → Prop) (b off cap : Nat) (ps : List (Nat × Nat)) (n j : Nat) (back : Bool) (w : World) (hl : ps.length = n) (hn : n = 1 ∨ n = 2 ∨ n = 4 ∨ n = 8) (hj : j < n)
    (hb : b < w.heap.size) (hc : ∀ j, j < ps.length → w.cell? ⟨b, off + j, none⟩ = some (cp (ps.getD j (0, 0)))) (h0 : I 0 0 0)
    (hs : ∀ k r i, k < n → I k r i → ∀ pr pi r' i', MulV (ps.getD k (0, 0)).1 (ps.getD k (0, 0)).2 (rb (ex n j k back)).1 (rb (ex n j k back)).2 pr pi → AddV r i pr pi r' i' → I (k + 1) r' i') :
    Calls Try.prog 56 #[.slice (some ⟨b, off, none⟩) n cap, .int .i64 j, .bool back] w fun e w' => ∃ r i, e = .returned (.complex .f64 r i) ∧ I n r i ∧ Below w.heap.size w w' := by
  rw [hl] at hc
  go_enter Try.func56, Try.ntmps56
  go_wp2
  go_loopw [8, 15] (fun s i wr => ∃ k r im : Nat, k ≤ n ∧ i = .int .i64 k ∧ s = .complex .f64 r im ∧ I k r im ∧ (∀ e, e < 8 → wr.cell? ⟨w.heap.size, e, none⟩ = some (cp (rb e))) ∧ Below w.heap.size w wr)
    (fun _ i _ => n - (intOf i).toNat)
  case atStart =>
    refine ⟨0, 0, 0, Nat.zero_le _, rfl, rfl, h0, fun e he => ?_, (Below.refl _ _).alloc (Nat.le_refl _) _⟩
    have := root_cell e he
    simp
    simpa using this
  case round =>
    obtain ⟨k, r, im, hk, rfl, rfl, hI, hrt, hbw⟩ := hrel
    by_cases hlt : k < n
    · have hck := (hbw.cell (p := ⟨b, off + k, none⟩) hb).trans (hc k hlt)
      have hst := hs k r im hlt hI
      clear hs hc hI h0
      have hjk : j * k ≤ 64 := Nat.le_trans (Nat.mul_le_mul (show j ≤ 8 by omega) (show k ≤ 8 by omega)) (by decide)
      have hjk0 : (0 : Int) ≤ (j : Int) * (k : Int) := by rw [← Int.natCast_mul]; omega
      have hjk1 : (j : Int) * (k : Int) ≤ 64 := by rw [← Int.natCast_mul]; omega
      have hE0 : (wrap64 ((j : Int) * (k : Int) * (8 / (n : Int)))).tmod 8 = ((j * k * (8 / n) % 8 : Nat) : Int) := ex_int n j k hn hj hlt
      have hEe : ex n j k back = if back = true then (8 - j * k * (8 / n) % 8) % 8 else j * k * (8 / n) % 8 := rfl
      have hE8 : j * k * (8 / n) % 8 < 8 := Nat.mod_lt _ (by decide)
      generalize j * k * (8 / n) % 8 = E at hE0 hEe hE8
      generalize ps.getD k (0, 0) = pt at hck hst
      rw [hEe] at hst
      clear hEe
      cases back
      · rw [if_neg (by decide)] at hst
        have hrE := hrt E hE8
        go_wp2_with (first
          | (go_at_call 23; refine (mul_any _ _ _ _ _).mono ?_; rintro e wq ⟨pr, pi, m1, rfl, hq, hm⟩; subst wq)
          | (go_at_call 24; refine (add_any _ _ _ _ _).mono ?_; rintro e wq ⟨r', i', m2, rfl, hq, ha⟩; subst wq))
        go_roundw
        case rel => exact ⟨k + 1, r', i', by omega, by go_num, rfl, hst _ _ _ _ hm ha, fun e he => hrt e he, below_drewN hbw _⟩
        case measure => simp [intOf]; omega
      · rw [if_pos rfl] at hst
        have hE1 : (8 - (E : Int)).tmod 8 = (((8 - E) % 8 : Nat) : Int) := by rw [Int.tmod_eq_emod_of_nonneg (by omega)]; omega
        have hF8 : (8 - E) % 8 < 8 := Nat.mod_lt _ (by decide)
        generalize (8 - E) % 8 = F at hE1 hF8 hst
        have hrE := hrt F hF8
        go_wp2_with (first
          | (go_at_call 23; refine (mul_any _ _ _ _ _).mono ?_; rintro e wq ⟨pr, pi, m1, rfl, hq, hm⟩; subst wq)
          | (go_at_call 24; refine (add_any _ _ _ _ _).mono ?_; rintro e wq ⟨r', i', m2, rfl, hq, ha⟩; subst wq))
        go_roundw
        case rel => exact ⟨k + 1, r', i', by omega, by go_num, rfl, hst _ _ _ _ hm ha, fun e he => hrt e he, below_drewN hbw _⟩
        case measure => simp [intOf]; omega
    · obtain rfl : k = n := by omega
      clear hs hc h0
      go_wp2
      go_ret
      exact ⟨_, _, rfl, hI, hbw⟩
end Go.Proofs.Ytghhjebacnodcaa
