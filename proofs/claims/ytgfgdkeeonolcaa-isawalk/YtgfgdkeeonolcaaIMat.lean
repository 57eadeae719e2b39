import Derived.Test.YtgfgdkeeonolcaaIDec
namespace Go.Proofs.Ytgfgdkeeonolcaa
open Go.RowKit
set_option maxRecDepth 100000

theorem opMo_wid : ∀ k, k < 60 → opMo k < 256 ^ opWi k := by decide
theorem okI_of {q : Nat × Nat} (h : okI q = true) : isOp q.1 = true ∧ q.2 ≤ opMo q.1 := by
  have h' : erV q.1 q.2 = 0 := by simpa [okI] using h
  unfold erV at h'
  split at h'
  · cases h'
  · split at h'
    · cases h'
    · rename_i h1 h2
      exact ⟨by simpa using h1, by omega⟩
theorem rdV_enc (q : Nat × Nat) (rest : List Int) (hq : okI q = true) : rdV (enc1 q ++ rest) = (q.1, q.2, 1 + opWi q.1, 0) := by
  obtain ⟨h1, h2⟩ := okI_of hq
  have h3 := of_decide_eq_true h1
  have h4 := opMo_wid q.1 (by omega)
  have e0 : (enc1 q ++ rest).getD 0 0 = (q.1 : Int) := rfl
  have e1 : ((enc1 q ++ rest).drop 1).take (opWi q.1) = nb (opWi q.1) q.2 := by
    show (nb (opWi q.1) (q.2 : Int) ++ rest).take (opWi q.1) = _
    rw [List.take_append_of_le_length (by rw [nb_len]; exact Nat.le_refl _), List.take_of_length_le (by rw [nb_len]; exact Nat.le_refl _)]
  have e2 : num (nb (opWi q.1) (q.2 : Int)) = q.2 := by
    rw [num_nb, Int.emod_eq_of_lt (by omega)]
    have : (q.2 : Int) < ((256 ^ opWi q.1 : Nat) : Int) := by omega
    simpa using this
  unfold rdV
  rw [e0, Int.toNat_natCast, e1, e2, Int.toNat_natCast, if_neg (by simp [h1]), if_neg (by rw [List.length_append, enc1_len]; omega), if_neg (by omega)]
theorem rds_enc : ∀ (M : List (Nat × Nat)) (A : List Int) (f k : Nat), allOk M = true → k + M.length ≤ 16384 → (encF M).length ≤ f →
    ∃ ys, rds (A ++ encF M) f k A.length = ys ∧ ys.map gIt = M ∧ ∀ x ∈ ys, x.2.2.2.2 = 0
  | [], A, f, k, _, _, _ => ⟨[], rds_end _ _ _ _ (by simp [encF]), rfl, by simp⟩
  | q :: M, A, f, k, ho, hk, hf => by
    have hq : okI q = true := by simp only [allOk, List.all_cons, Bool.and_eq_true] at ho; exact ho.1
    have hM : allOk M = true := by simp only [allOk, List.all_cons, Bool.and_eq_true] at ho; exact ho.2
    have eF : encF (q :: M) = enc1 q ++ encF M := rfl
    have hl := enc1_len q
    rw [eF] at hf ⊢
    rw [List.length_append] at hf
    simp only [List.length_cons] at hk
    obtain ⟨f', rfl⟩ : ∃ f', f = f' + 1 := ⟨f - 1, by omega⟩
    have hK : rdK (A ++ (enc1 q ++ encF M)) k A.length = (q.1, q.2, 1 + opWi q.1, 0) := by
      unfold rdK
      rw [if_pos (by omega), List.drop_left, rdV_enc q _ hq]
    obtain ⟨ys, h1, h2, h3⟩ := rds_enc M (A ++ enc1 q) f' (k + 1) hM (by omega) (by omega)
    refine ⟨(A.length, (q.1, q.2, 1 + opWi q.1, 0)) :: ys, ?_, ?_, ?_⟩
    · rw [rds_step _ _ _ _ (by simp; omega), hK]
      simp only [if_true]
      rw [← h1, List.append_assoc, List.length_append, hl]
    · rw [List.map_cons, h2]; rfl
    · intro x hx
      rcases List.mem_cons.1 hx with rfl | h
      · rfl
      · exact h3 x h
theorem dec_enc (L : List (Nat × Nat)) (ho : allOk L = true) (hl : L.length ≤ 16384) : dcB (encF L) = L ∧ dcI (encF L) = 0 ∧ dcX (encF L) = 0 := by
  obtain ⟨ys, h1, h2, h3⟩ := rds_enc L [] (encF L).length 0 ho (by omega) (Nat.le_refl _)
  have := dec_ok (zs := encF L) (ys := ys) h1.symm h3
  rw [h2] at this
  exact this
theorem encF_wf (L : List (Nat × Nat)) (h : Wfc L) : ∀ z ∈ encF L, 0 ≤ z ∧ z ≤ 255 := by
  intro z hz
  simp only [encF, List.mem_flatMap] at hz
  obtain ⟨p, hp, hz⟩ := hz
  rcases List.mem_cons.1 hz with rfl | h'
  · have := (h p hp).1; omega
  · exact nb_wf _ _ z h'
end Go.Proofs.Ytgfgdkeeonolcaa
