import Derived.Test.YtpahpdgkahomlaaGreatDoorCVMd
import Derived.Deep.RegionHeld3
import Derived.BigQuiet
namespace Go.Proofs.YtpahpdgkahomlaaGreatDoor
open Go.RowKit Go.WideShapes Go.Shelf
set_option maxRecDepth 100000
theorem kind_in : ∀ k, k < 60 → 1 ≤ k → (opKi k = 1 ∨ opKi k = 2 ∨ opKi k = 3 ∨ opKi k = 4 ∨ opKi k = 5 ∨ opKi k = 6 ∨ opKi k = 7 ∨ opKi k = 8) := by decide +kernel
/-- what is known of an instruction of a module -/
structure InK (L : List (Nat × Nat)) (D N : List Int) (i k : Nat) : Prop where
  hk : k < (bgs L).length
  h1 : bAt L k ≤ i
  h2 : i < bAt L (k + 1)
  op : isOp (opL L i) = true
  pr : prO L N i = (bAt L k, bAt L (k + 1), argL L (bAt L k), N.getD k 0)
  en : isEn L i = decide (i = bAt L k)
  ls : i + 1 = bAt L (k + 1) → opKi (opL L i) = 3 ∨ opKi (opL L i) = 4 ∨ opKi (opL L i) = 7 ∨ opKi (opL L i) = 8
  fr : opKi (opL L i) = 7 → argL L i = argL L (bAt L k)
  ar : opKi (opL L i) = 3 ∨ opKi (opL L i) = 2 → bAt L k < argL L i ∧ argL L i < bAt L (k + 1)
theorem InK.of {L : List (Nat × Nat)} {J : List Nat} {M : List (ByteArray × Nat)} {D N : List Int} (hG : FdG L J M) {i : Nat} (hi : i < L.length) : ∃ k, InK L D N i k := by
  obtain ⟨k, hk, h1, h2⟩ := lies_in hG.fst hi
  have hof : ofL L i = (k : Int) := ofL_in hk h1 h2
  rw [getD_anyP hk 0 L.length] at h1
  have hck := hG.ck k (by rw [prs_len]; exact hk)
  unfold OkP at hck
  rw [prL_get L hk] at hck
  have h3 := hck i h1 h2
  unfold errP ckE at h3
  refine ⟨k, hk, h1, h2, (within_i hG hi).1, ?_, (at_in hk h1 h2).2, fun hl => ?_, fun h7 => ?_, fun h32 => ?_⟩
  · unfold prO
    rw [if_pos hi, hof, Int.toNat_natCast, prL_get L hk]
  · split at h3
    · cases h3
    · split at h3
      · cases h3
      · split at h3
        · cases h3
        · rename_i hz
          simp only [Bool.and_eq_true, beq_iff_eq, Bool.not_eq_true', not_and, Bool.not_eq_false] at hz
          have hz2 := hz hl
          unfold endK at hz2
          simp only [Bool.or_eq_true, beq_iff_eq] at hz2
          simp only [opL]
          omega
  · split at h3
    · cases h3
    · rename_i hz
      simp only [opL] at h7
      simp only [h7] at hz
      simpa using hz
  · split at h3
    · cases h3
    · split at h3
      · cases h3
      · rename_i hz
        have : ((opKi (L.getD i (0, 0)).1 == 3 || opKi (L.getD i (0, 0)).1 == 2) = true) := by rcases h32 with e | e <;> simp [opL] at e <;> simp [e]
        rw [this] at hz
        simp at hz
        exact hz
/-- what is known of a reached one -/
theorem InK.reach {L : List (Nat × Nat)} {J : List Nat} {M : List (ByteArray × Nat)} {D N : List Int} (hG : FdG L J M) (hD : DpK L J D N (bgs L).length) {i k : Nat} (h : InK L D N i k) (hr : 0 ≤ D.getD i (-1)) :
    D.getD i (-1) ≤ N.getD k 0 ∧ D.getD i (-1) - opTa (opL L i) + opGi (opL L i) ≤ N.getD k 0 ∧ (opTa (opL L i) : Int) ≤ D.getD i (-1) ∧ (opKi (opL L i) = 7 → D.getD i (-1) = 1) ∧ (opKi (opL L i) ≠ 3 → opKi (opL L i) ≠ 4 → opKi (opL L i) ≠ 7 → opKi (opL L i) ≠ 8 → i + 1 < bAt L (k + 1) ∧ D.getD (i + 1) (-1) = D.getD i (-1) - opTa (opL L i) + opGi (opL L i)) ∧ (opKi (opL L i) = 3 ∨ opKi (opL L i) = 2 → D.getD (argL L i) (-1) = D.getD i (-1) - opTa (opL L i) + opGi (opL L i)) := by
  have hf := hD.fin k h.hk
  have hle := hf.le i h.h1 h.h2 hr
  have hok := hf.sol.ok i h.h1 h.h2 hr
  have htk := tk_ok hok.1
  refine ⟨hle.1, hle.2, htk.1, htk.2.2.2, fun n3 n4 n7 n8 => ?_, fun h32 => ?_⟩
  · have hop := h.op
    unfold isOp at hop
    have hop2 := of_decide_eq_true hop
    have hkd := kind_in (opL L i) (by omega) (by omega)
    have hmem : i + 1 ∈ nxt L J i := by
      unfold nxt
      by_cases q : opKi (opL L i) = 1 ∨ opKi (opL L i) = 6 ∨ opKi (opL L i) = 5
      · rw [if_pos q]
        exact List.mem_singleton.2 rfl
      · rw [if_neg q, if_pos (by omega)]
        split
        · exact List.mem_singleton.2 rfl
        · simp only [List.mem_cons, List.not_mem_nil, or_false]
          omega
    exact ⟨(nxt_in hG h.hk h.h1 h.h2 hmem).2, hok.2 _ hmem⟩
  · refine hok.2 _ ?_
    unfold nxt
    rcases h32 with q | q
    · rw [if_neg (by omega), if_neg (by omega), if_pos q]
      exact List.mem_singleton.2 rfl
    · rw [if_neg (by omega), if_pos q]
      split
      · rename_i hz
        exact List.mem_singleton.2 hz.symm
      · simp only [List.mem_cons, List.not_mem_nil, or_false]
        omega
end Go.Proofs.YtpahpdgkahomlaaGreatDoor
namespace Go.Proofs.YtpahpdgkahomlaaGreatDoor
open Go.RowKit Go.WideShapes Go.Shelf
set_option maxRecDepth 100000
set_option maxHeartbeats 2000000 in
theorem leads_any (pm pb pe pf to : Nat) (nd : Int) (D : List Int) (w : World) (hD : Calls Tryz.prog 8 #[.pointer (some ⟨pm, 0, none⟩), .int .u32 to] (w.alloc (.cells #[.int .u32 pb, .int .u32 pe, .int .u32 pf, .int .i64 nd] 40)) fun e w' => e = .returned (.int .i64 (D.getD to (-1))) ∧ w' = (w.alloc (.cells #[.int .u32 pb, .int .u32 pe, .int .u32 pf, .int .i64 nd] 40)))
    (h1 : pb < to) (h2 : to < pe) (h3 : 0 ≤ D.getD to (-1)) :
    Calls Tryz.prog 29 #[.pointer (some ⟨pm, 0, none⟩), .agg #[.int .u32 pb, .int .u32 pe, .int .u32 pf, .int .i64 nd], .int .u32 to] w fun e w' => e = .returned (.bool true) ∧ Below w.heap.size w w' := by
  have h1I : (pb : Int) < (to : Int) := by omega
  have h2I : (to : Int) < (pe : Int) := by omega
  generalize D.getD to (-1) = d at *
  have HB : Hid (Below w.heap.size w (w.alloc (.cells #[.int .u32 pb, .int .u32 pe, .int .u32 pf, .int .i64 nd] 40))) := belP (Below.refl _ _)
  go_enter Tryz.func29, Tryz.ntmps29
  go_wp2_with (go_at_call 8; refine hD.mono ?_; rintro e w2 ⟨rfl, hw2⟩; have hw2 := hw2.symm; subst hw2)
  go_ret
  exact ⟨rfl, HB.out⟩
end Go.Proofs.YtpahpdgkahomlaaGreatDoor
