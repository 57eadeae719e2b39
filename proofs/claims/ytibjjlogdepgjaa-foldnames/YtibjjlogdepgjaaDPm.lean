import Derived.Test.YtibjjlogdepgjaaDPl
namespace Go.Proofs.Ytibjjlogdepgjaa
open Go.RowKit Go.WideShapes
set_option maxRecDepth 100000

set_option maxHeartbeats 4000000 in
theorem works_any (b op : Nat) (w : World) (ws : List Nat) (_hop : op < 256) (h : RoS b w ws) (hta : opTa op ≤ ws.length) :
    Calls Try.prog 31 #[.pointer (some ⟨b, 0, none⟩), .int .u8 (op : Int), .int .i64 (opTa op : Int)] w fun e w' => e = .returned (.bool (wkV ws op).isSome) ∧ (∀ ws', wkV ws op = some ws' → RoS b w' ws') ∧ Kp (fun k => k = b) w w' := by
  have hle := h.le
  by_cases h1 : opTa op = 1
  · rw [h1] at hta ⊢
    have hlast := getLastD_bd h.bd
    have HU := dhid (fun w => un_any op (ws.getLastD 0) w hlast)
    have hcut := last_cut ws (by omega)
    have HW := dhid (show wkV ws op = if unE op = 0 then some (ws.dropLast ++ [unV op (ws.getLastD 0)]) else none by simp [wkV, h1])
    have h' : RoS b w (ws.dropLast ++ [ws.getLastD 0]) := hcut ▸ h
    have hdl := dropLast_len ws
    generalize ws.getLastD 0 = x at *
    generalize ws.dropLast = us at *
    clear hcut h
    have HPo := dhid (pop_any b x w us h')
    have hpb := unV_lt op x hlast
    have HPu := dhid (fun w' (hh : RoS b w' us) => push_any b (unV op x) w' us hh hpb (by omega))
    clear h'
    by_cases hE : unE op = 0
    · rw [HW.out, if_pos hE]
      clear HW
      rw [hE] at HU
      generalize unV op x = y at *
      go_enter Try.func31, Try.ntmps31
      go_wp2_with (first | (go_at_call 30; refine HPo.out.mono ?_; rintro e w1 ⟨rfl, hr1, hk1⟩) | (go_at_call 38; refine (HU.out _).mono ?_; rintro e w2 ⟨rfl, rfl⟩) | (go_at_call 29; refine (HPu.out _ hr1).mono ?_; rintro e w3 ⟨rfl, hr3, hk3⟩))
      go_ret
      exact ⟨rfl, fun ws' e => by cases e; exact hr3, hk1.trans hk3 (fun _ _ e => e)⟩
    · rw [HW.out, if_neg hE]
      clear HW
      have hE' : (unE op == 0) = false := by rw [beq_eq_false_iff_ne]; exact hE
      generalize unE op = er at *
      generalize unV op x = y at *
      go_enter Try.func31, Try.ntmps31
      go_wp2_with (first | (go_at_call 30; refine HPo.out.mono ?_; rintro e w1 ⟨rfl, hr1, hk1⟩) | (go_at_call 38; refine (HU.out _).mono ?_; rintro e w2 ⟨rfl, rfl⟩))
      go_ret
      exact ⟨rfl, fun ws' e => (by cases e), hk1⟩
  · by_cases h2 : opTa op = 2
    · rw [h2] at hta ⊢
      have hlast := getLastD_bd h.bd
      have hlast2 := getLastD_bd (dropLast_bd h.bd)
      have HU := dhid (fun w => bin_any op (ws.dropLast.getLastD 0) (ws.getLastD 0) w hlast2 hlast)
      have hcut := last_cut ws (by omega)
      have hcut2 := last_cut ws.dropLast (by rw [dropLast_len]; omega)
      have HW := dhid (show wkV ws op = if binE op (ws.getLastD 0) = 0 then some (ws.dropLast.dropLast ++ [binV op (ws.dropLast.getLastD 0) (ws.getLastD 0)]) else none by simp [wkV, h2])
      have h' : RoS b w (ws.dropLast.dropLast ++ [ws.dropLast.getLastD 0] ++ [ws.getLastD 0]) := by rw [← hcut2, ← hcut]; exact h
      have hdl := dropLast_len ws
      have hdl2 := dropLast_len ws.dropLast
      generalize ws.getLastD 0 = x at *
      generalize ws.dropLast.getLastD 0 = z at *
      generalize ws.dropLast.dropLast = us at *
      generalize ws.dropLast = vs at *
      clear hcut hcut2 h
      have HPo := dhid (pop2_any b z x w us h')
      have hpb := binV_lt op z x hlast2 hlast
      have HPu := dhid (fun w' (hh : RoS b w' us) => push_any b (binV op z x) w' us hh hpb (by omega))
      clear h'
      by_cases hE : binE op x = 0
      · rw [HW.out, if_pos hE]
        clear HW
        rw [hE] at HU
        generalize binV op z x = y at *
        go_enter Try.func31, Try.ntmps31
        go_wp2_with (first | (go_at_call 27; refine HPo.out.mono ?_; rintro e w1 ⟨rfl, hr1, hk1⟩) | (go_at_call 39; refine (HU.out _).mono ?_; rintro e w2 ⟨rfl, hb2⟩; have hr2 := hr1.kept (Kp.ofBelow (S := fun _ => False) hb2) (fun e => e)) | (go_at_call 29; refine (HPu.out _ hr2).mono ?_; rintro e w3 ⟨rfl, hr3, hk3⟩))
        go_ret
        exact ⟨rfl, fun ws' e => by cases e; exact hr3, (hk1.trans (Kp.ofBelow (S := fun _ => False) hb2) (fun _ _ e => e.elim)).trans hk3 (fun _ _ e => e)⟩
      · rw [HW.out, if_neg hE]
        clear HW
        have hE' : (binE op x == 0) = false := by rw [beq_eq_false_iff_ne]; exact hE
        generalize binE op x = er at *
        generalize binV op z x = y at *
        go_enter Try.func31, Try.ntmps31
        go_wp2_with (first | (go_at_call 27; refine HPo.out.mono ?_; rintro e w1 ⟨rfl, hr1, hk1⟩) | (go_at_call 39; refine (HU.out _).mono ?_; rintro e w2 ⟨rfl, hb2⟩))
        go_ret
        exact ⟨rfl, fun ws' e => (by cases e), hk1.trans (Kp.ofBelow (S := fun _ => False) hb2) (fun _ _ e => e.elim)⟩
    · rw [show wkV ws op = none by simp [wkV, h1, h2]]
      have d1 : ((opTa op : Int) == 1) = false := by rw [beq_eq_false_iff_ne]; omega
      have d2 : ((opTa op : Int) == 2) = false := by rw [beq_eq_false_iff_ne]; omega
      have d1' : ¬ (opTa op : Int) = 1 := by omega
      have d2' : ¬ (opTa op : Int) = 2 := by omega
      generalize opTa op = ta at *
      clear h
      go_enter Try.func31, Try.ntmps31
      go_wp2
      go_ret
      exact ⟨rfl, fun ws' e => (by cases e), Kp.refl _ _⟩
end Go.Proofs.Ytibjjlogdepgjaa
