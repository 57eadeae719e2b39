import Derived.Test.YtecbdjhhdhpmhaaKept
namespace Go.Proofs.Ytecbdjhhdhpmhaa
open Go.RowKit

theorem over_step (L : List Int) (k : Nat) (h : k < L.length) : bv (marks (-1) (k + 1) ++ L.drop (k + 1)) = (bv (marks (-1) k ++ L.drop k)).set k (.int .u8 (mk (-1) k)) := by
  have hl := marks_len (-1) k
  rw [marks_succ, List.drop_eq_getElem_cons h]
  simp only [bv, List.map_append, List.map_cons, List.append_assoc, List.cons_append, List.nil_append]
  rw [List.set_append_right _ _ (by simp [hl])]
  simp [hl]

set_option maxHeartbeats 1000000 in
theorem over_any (g cap B : Nat) (L : List Int) (w : World) (hn : L.length ≤ 1048640)
    (hown : w.ownsRow B 5 1 (.slice (some ⟨g, 0, none⟩) L.length cap) L.length (bv L)) :
    Calls Try.prog 11 #[.slice (some ⟨g, 0, none⟩) L.length cap] w fun e w' => e = .returned (.tuple #[]) ∧
      w'.ownsRow B 5 1 (.slice (some ⟨g, 0, none⟩) L.length cap) L.length (bv (marks (-1) L.length)) ∧ Below B w w' ∧ w'.heap.size = w.heap.size := by
  go_enter Try.func11, Try.ntmps11
  go_wp2
  go_loopw [2] (fun i wr => ∃ k : Nat, k ≤ L.length ∧ i = .int .i64 k ∧ wr.ownsRow B 5 1 (.slice (some ⟨g, 0, none⟩) L.length cap) L.length (bv (marks (-1) k ++ L.drop k)) ∧ Below B w wr ∧ wr.heap.size = w.heap.size)
    (fun i _ => L.length - (intOf i).toNat)
  case atStart => exact ⟨0, Nat.zero_le _, rfl, by simpa [marks] using hown, Below.refl _ _, rfl⟩
  case round =>
    clear hown
    obtain ⟨k, hk, rfl, hown, hb, hs⟩ := hrel
    have HS : Hid (wr.heap.size = w.heap.size) := hs
    clear hs
    by_cases hlt : k < L.length
    · have hck := own_get hown (i := k) (by simp [marks_len]; omega)
      have hfk := hown.frozenAt k
      generalize (marks (-1) k ++ L.drop k).getD k 0 = c at hck
      go_wp2_with (go_at_call 18; refine (mark_any _ _ _ (by omega) (by omega)).mono ?_; rintro e w' ⟨rfl, rfl⟩)
      have R := hown.stored k (.int .u8 (mk (-1) k))
      have hlo := (hown.lt g rfl).1
      go_roundw
      case rel =>
        refine ⟨k + 1, by omega, by go_num, ?_, hb.setCell (p := ⟨g, k, none⟩) hlo _, by rw [World.size_setCell]; exact HS.out⟩
        have e : bv (marks (-1) (k + 1) ++ L.drop (k + 1)) = (bv (marks (-1) k ++ L.drop k)).set k (.int .u8 (mk (-1) k)) := over_step L k hlt
        rw [e]; exact R.1
      case measure => simp [intOf]; omega
    · go_wp2
      go_end0
      obtain rfl : k = L.length := by omega
      exact ⟨rfl, by simpa using hown, hb, HS.out⟩
end Go.Proofs.Ytecbdjhhdhpmhaa
