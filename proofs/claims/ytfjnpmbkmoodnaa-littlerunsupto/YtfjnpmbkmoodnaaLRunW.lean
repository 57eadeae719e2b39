import Derived.Test.YtfjnpmbkmoodnaaLRunM
import Derived.Test.YtfjnpmbkmoodnaaLMark
namespace Go.Proofs.Ytfjnpmbkmoodnaa
open Go.RowKit
set_option maxRecDepth 100000

abbrev Rn := Nat × List Int
structure RunAt (w : World) (b o : Nat) (r : Rn) (B : Nat) : Prop where
  c0 : w.cell? ⟨b, o, none⟩ = some (.int .u32 (r.1 : Int))
  c1 : ∃ ao cap, w.cell? ⟨b, o + 1, none⟩ = some (.slice ao r.2.length cap) ∧ r.2.length ≤ cap ∧ (ao = none → r.2 = []) ∧ Reads w ao r.2 B
def RunsR (w : World) (ao : Option Addr) (R : List Rn) (B : Nat) : Prop :=
  0 < R.length → ∃ b off, ao = some ⟨b, off, none⟩ ∧ b < B ∧ ∀ i, i < R.length → RunAt w b (off + i * 2) (R.getD i (0, [])) B
theorem RunAt.below {w w' : World} {b o : Nat} {r : Rn} {B : Nat} (h : RunAt w b o r B) (hlt : b < B) (hb : Below B w w') : RunAt w' b o r B := by
  obtain ⟨ao, cap, h1, h2, h3, h4⟩ := h.c1
  exact ⟨(hb.cell (p := ⟨b, o, none⟩) hlt).trans h.c0, ao, cap, (hb.cell (p := ⟨b, o + 1, none⟩) hlt).trans h1, h2, h3, h4.below hb⟩
theorem RunsR.below {w w' : World} {ao : Option Addr} {R : List Rn} {B : Nat} (h : RunsR w ao R B) (hb : Below B w w') : RunsR w' ao R B := by
  intro hl
  obtain ⟨b, off, e, hlt, hc⟩ := h hl
  exact ⟨b, off, e, hlt, fun i hi => (hc i hi).below hlt hb⟩
theorem RunAt.mono {w : World} {b o : Nat} {r : Rn} {B C : Nat} (h : RunAt w b o r B) (hb : B ≤ C) : RunAt w b o r C := by
  obtain ⟨ao, cap, h1, h2, h3, h4⟩ := h.c1
  exact ⟨h.c0, ao, cap, h1, h2, h3, h4.mono hb⟩
theorem RunsR.mono {w : World} {ao : Option Addr} {R : List Rn} {B C : Nat} (h : RunsR w ao R B) (hb : B ≤ C) : RunsR w ao R C := by
  intro hl
  obtain ⟨b, off, e, hlt, hc⟩ := h hl
  exact ⟨b, off, e, Nat.lt_of_lt_of_le hlt hb, fun i hi => (hc i hi).mono hb⟩
theorem take_snocR (R : List Rn) (k : Nat) (h : k < R.length) : R.take (k + 1) = R.take k ++ [R.getD k (0, [])] := by
  rw [List.take_succ_eq_append_getElem h]
  simp [List.getD, List.getElem?_eq_getElem h]
theorem drop_consR (R : List Rn) (k : Nat) (h : k < R.length) : R.drop k = R.getD k (0, []) :: R.drop (k + 1) := by
  rw [List.drop_eq_getElem_cons h]
  simp [List.getD, List.getElem?_eq_getElem h]
theorem wgt_take_le (R : List Rn) (k : Nat) : wgt (R.take k) ≤ wgt R := by
  have := wgt_append (R.take k) (R.drop k)
  rw [List.take_append_drop] at this
  omega

theorem ris_next (total : Nat) (R : List Rn) : ∀ next, ris total next R = false ∨ ris total next R = true := by
  intro next; cases ris total next R <;> simp
/-- where the next run may begin -/
def nxt (R : List Rn) (k : Nat) : Nat := if k = 0 then 0 else (R.getD (k - 1) (0, [])).1 + (R.getD (k - 1) (0, [])).2.length

set_option maxRecDepth 100000 in
set_option maxHeartbeats 2000000 in
theorem rise_any (ao : Option Addr) (cap : Nat) (R : List Rn) (total : Nat) (w : World) (hn : R.length ≤ 140737488355328) (ht : total ≤ 140737488355328) (hr : RunsR w ao R w.heap.size)
    (hb0 : ∀ r ∈ R, r.1 ≤ 4294967295 ∧ r.2.length ≤ 140737488355328) :
    Calls Try.prog 21 #[.slice ao R.length cap, .int .u64 (total : Nat)] w fun e w' => e = .returned (.bool (ris total 0 R)) ∧ Below w.heap.size w w' := by
  go_enter Try.func21, Try.ntmps21
  go_wp2
  go_loopw [5, 10] (fun s i wr => ∃ k next : Nat, k ≤ R.length ∧ i = .int .i64 k ∧ s = .int .u64 (next : Nat) ∧ next ≤ total ∧ ris total 0 R = ris total next (R.drop k) ∧ Below w.heap.size w wr)
    (fun _ i _ => R.length - (intOf i).toNat)
  case atStart => exact ⟨0, 0, Nat.zero_le _, rfl, rfl, Nat.zero_le _, rfl, Below.refl _ _⟩
  case round =>
    obtain ⟨k, next, hk, rfl, rfl, hnt, hris, hb⟩ := hrel
    have hB := hb.size
    have HR : Hid (ris total 0 R = ris total next (R.drop k)) := hris
    clear hris
    by_cases hlt : k < R.length
    · obtain ⟨b, off, rfl, hbl, hc⟩ := (hr.below hb) (by omega)
      obtain ⟨c0, ao2, cap2, c1, _, _, _⟩ := hc k hlt
      clear hc
      have HD : Hid (R.drop k = R.getD k (0, []) :: R.drop (k + 1)) := drop_consR R k hlt
      have hbr := hb0 (R.getD k (0, [])) (by simp [List.getD, List.getElem?_eq_getElem hlt])
      generalize R.getD k (0, []) = r at c0 c1 HD hbr
      obtain ⟨r1, r2⟩ := r
      simp only at c0 c1 hbr
      obtain ⟨hr1, hr2⟩ := hbr
      have hb1 := hb.alloc hB (.cells #[.int .u32 (r1 : Int), .slice ao2 r2.length cap2] 48)
      have HE : Hid (ris total 0 R = (decide (0 < r2.length ∧ next ≤ r1 ∧ r1 + r2.length ≤ total) && ris total (r1 + r2.length) (R.drop (k + 1)))) := by rw [HR.out, HD.out]; exact rfl
      clear HR HD
      by_cases h0 : r2.length = 0
      · have HF : Hid (ris total 0 R = false) := by rw [HE.out, decide_eq_false (by omega)]; exact rfl
        have d0 : ((r2.length : Int) == 0) = true := by simp; simpa using h0
        clear HE
        rw [h0] at hb1
        go_wp2
        go_ret
        exact ⟨by rw [HF.out]; rfl, hb1⟩
      have d0 : ((r2.length : Int) == 0) = false := by simp; simpa using h0
      by_cases h1 : next ≤ r1
      · have d1 : decide ((r1 : Int) < (next : Int)) = false := by simp; omega
        have h1n : ¬ (r1 : Int) < (next : Int) := by omega
        by_cases h2 : r1 + r2.length ≤ total
        · have HF : Hid (ris total 0 R = ris total (r1 + r2.length) (R.drop (k + 1))) := by rw [HE.out, decide_eq_true ⟨by omega, h1, h2⟩]; exact rfl
          have d2 : ¬ (total : Int) < (r1 : Int) + (r2.length : Int) := by omega
          clear HE
          go_wp2
          go_roundw
          case rel => exact ⟨k + 1, r1 + r2.length, by omega, by go_num, by push_cast; rfl, h2, HF.out, hb1⟩
          case measure => simp [intOf]; omega
        · have HF : Hid (ris total 0 R = false) := by rw [HE.out, decide_eq_false (by omega)]; exact rfl
          have d2 : (total : Int) < (r1 : Int) + (r2.length : Int) := by omega
          clear HE
          go_wp2
          go_ret
          exact ⟨by rw [HF.out]; rfl, hb1⟩
      · have HF : Hid (ris total 0 R = false) := by rw [HE.out, decide_eq_false (by omega)]; exact rfl
        have d1 : decide ((r1 : Int) < (next : Int)) = true := by simp; omega
        clear HE
        go_wp2
        go_ret
        exact ⟨by rw [HF.out]; rfl, hb1⟩
    · have HF : Hid (ris total 0 R = true) := by rw [HR.out, List.drop_of_length_le (by omega)]; exact rfl
      go_wp2
      go_ret
      exact ⟨by rw [HF.out]; rfl, hb⟩
end Go.Proofs.Ytfjnpmbkmoodnaa
