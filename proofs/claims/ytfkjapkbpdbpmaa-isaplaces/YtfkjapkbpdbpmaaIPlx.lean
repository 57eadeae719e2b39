import Derived.Test.YtfkjapkbpdbpmaaIPlw
namespace Go.Proofs.Ytfkjapkbpdbpmaa
open Go.RowKit

theorem places_n (ao : Option Addr) (cap n : Nat) (L : List (Nat × Nat)) (w : World) (hnn : L.length = n) (hn : n ≤ 140737488355328) (hwf : Wfc L) (hr : CRd w ao L w.heap.size) :
    Calls Try.prog 15 #[.slice ao n cap] w fun e w' => ∃ v, e = .returned (.tuple #[v, .int .i64 (encX L)]) ∧ w'.ownsRow w.heap.size 3 1 v (plB L).length (bi (plB L)) ∧ Below w.heap.size w w' := by
  subst hnn; exact places_any ao cap L w hn hwf hr
set_option maxRecDepth 100000 in
set_option maxHeartbeats 2000000 in
theorem placesLaw (ao : Option Addr) (ca : Nat) (X : List (Nat × Nat)) (w : World) (hx : X.length ≤ 17592186044352) (hxw : Wfc X) (hrx : CRd w ao X w.heap.size) :
    Calls Try.prog 5 #[.slice ao X.length ca] w fun e w' => e = .returned (.bool true) ∧ Below w.heap.size w w' := by
  have HXW := hid_of hxw
  have HRX := hid_of hrx
  have lA := plB_le X
  clear hxw hrx
  go_enter Try.func5, Try.ntmps5
  go_wp2_with fail
  with_reducible refine (lentc_any ao ca X w hx HRX.out).mono ?_
  rintro e w1 ⟨vl, rfl, ol1, b1⟩
  obtain ⟨gl, cl, rfl, hcl⟩ := own_form ol1 (by omega)
  have hlc : (X.length : Int) ≤ (cl : Int) := by omega
  go_wp2_with fail
  with_reducible refine (places_any (some ⟨gl, 0, none⟩) cl X w1 (by omega) HXW.out (crd_take (lent_crd rfl ol1))).mono ?_
  rintro e w2 ⟨va, rfl, oa2, b2⟩
  have ol2 := own_below ol1 b2
  have B2 := bt b1 b2
  have fla := hid_of (farT ol1 oa2)
  obtain ⟨aa, cca, rfl⟩ := own_any oa2
  go_wp2_with fail
  with_reducible refine (rplaces_any ao ca X w2 (by omega) HXW.out ((HRX.out.below B2).mono B2.size)).mono ?_
  rintro e w3 ⟨vw, rfl, ow3, b3⟩
  have ol3 := own_below ol2 b3
  have oa3 := own_below oa2 b3
  have B3 := bt B2 b3
  obtain ⟨aw, ccw, rfl, rdw⟩ := own_readi ow3
  have rda : ReadsK w3 .i64 aa (plB X) w3.heap.size := by
    obtain ⟨a', c', he, hr⟩ := own_readi oa3
    simp only [Value.slice.injEq] at he
    rw [he.1]; exact hr
  go_wp2_with fail
  with_reducible refine (samei_any aa aw cca ccw (plB X) (plB X) w3 (by omega) rda rdw).mono ?_
  rintro e w4' ⟨rfl, m, hm⟩
  subst w4'
  rw [decide_eq_true rfl]
  have B4' := bt B3 (below_drew0 (w := w3) m)
  have ol4' := own_below ol3 (below_drew0 (w := w3) m)
  have oa4' := own_below oa3 (below_drew0 (w := w3) m)
  have ow4' := own_below ow3 (below_drew0 (w := w3) m)
  generalize w3.drewN m = w4 at *
  go_wp2_with fail
  with_reducible refine (keptc_any ao ca X gl cl w4 hx ((HRX.out.below B4').mono B4'.size) (lent_crd rfl ol4')).mono ?_
  rintro e w5 ⟨rfl, b5⟩
  have ol5 := own_below ol4' b5
  have oa5 := own_below oa4' b5
  have ow5 := own_below ow4' b5
  have B5 := bt B4' b5
  go_wp2_with fail
  with_reducible refine (places_any (some ⟨gl, 0, none⟩) cl X w5 (by omega) HXW.out (crd_take (lent_crd rfl ol5))).mono ?_
  rintro e w6 ⟨vb, rfl, ob6, b6⟩
  have ol6 := own_below ol5 b6
  have oa6 := own_below oa5 b6
  have ow6 := own_below ow5 b6
  have B6 := bt B5 b6
  have flb := hid_of (farT ol5 ob6)
  have fab := hid_of (farT oa5 ob6)
  have fba := hid_of (farT' oa5 ob6)
  obtain ⟨ab, ccb, rfl, rdb⟩ := own_readi ob6
  have rdw6 : ReadsK w6 .i64 aw (plB X) w6.heap.size := by
    obtain ⟨a', c', he, hr⟩ := own_readi ow6
    simp only [Value.slice.injEq] at he
    rw [he.1]; exact hr
  go_wp2_with fail
  with_reducible refine (samei_any ab aw ccb ccw (plB X) (plB X) w6 (by omega) rdb rdw6).mono ?_
  rintro e w7' ⟨rfl, m7, hm7⟩
  subst w7'
  rw [decide_eq_true rfl]
  have B7 := bt B6 (below_drew0 (w := w6) m7)
  have ol7 := own_below ol6 (below_drew0 (w := w6) m7)
  have oa7 := own_below oa6 (below_drew0 (w := w6) m7)
  have ob7 := own_below ob6 (below_drew0 (w := w6) m7)
  generalize w6.drewN m7 = w7 at *
  have OL2 := own2L (B := w.heap.size) B7.size (own_lower oa7 b1.size) (own_lower ob7 B5.size) fab.out fba.out
  have BA2 : Below w.heap.size w (w7.alloc (.cells #[.slice aa (plB X).length cca, .slice ab (plB X).length ccb] 40)) := bel B7
  have hAp := apart_any _ _ 2 w.heap.size _ _ _ (by decide) (by intro i hi; rcases lt2 hi with rfl | rfl <;> simp <;> omega) BA2.size OL2
  have hTB := fun w' (T : Touch 2 (vals3 (.slice aa (plB X).length cca) (.slice ab (plB X).length ccb) (.slice ab (plB X).length ccb)) (w7.alloc (.cells #[.slice aa (plB X).length cca, .slice ab (plB X).length ccb] 40)) w') => BA2.trans (T.below BA2.size (fun i b hi e => by
    rcases lt2 hi with rfl | rfl
    · exact Nat.le_trans b1.size (oa7.lt b e).1
    · exact Nat.le_trans B5.size (ob7.lt b e).1))
  have HTB := hid_of hTB
  clear hTB OL2 rda rdb rdw rdw6 ow3 ow4' ow5 ow6 oa2 oa3 oa4' oa5 oa6 ob6 ol1 ol2 ol3 ol4' ol5 ol6
  go_wp2_with (go_at_call 19; with_reducible refine hAp.mono ?_; rintro e w8 ⟨rfl, T8⟩)
  have B8 := HTB.out w8 T8
  have ol8 := touch_row2 T8 (ol7.alloc _) fla.out flb.out
  obtain ⟨M, hM⟩ : ∃ M, X ++ mksC 64 = M := ⟨_, rfl⟩
  have HML : Hid (M.length = X.length + 64) := by rw [Hid, ← hM, List.length_append, mksC_len]
  have HM := hid_of hM
  rw [hM] at ol8
  clear hM T8 ol7 oa7 ob7 fla flb fab fba HTB hAp BA2 B7 B6 B5 B4' B3 B2 b1 b2 b3 b5 b6
  go_loopw [10] (fun i wr => ∃ k : Nat, k ≤ X.length ∧ i = .int .i64 k ∧ wr.ownsRow w.heap.size 32 2 (.slice (some ⟨gl, 0, none⟩) (X.length + 64) cl) (X.length + 64) (cv (arL k ++ M.drop k)) ∧ Below w.heap.size w wr)
    (fun i _ => X.length - (intOf i).toNat)
  case atStart => exact ⟨0, Nat.zero_le _, rfl, by simpa [arL] using ol8, B8⟩
  case round =>
    clear ol8 B8
    obtain ⟨k, hk, rfl, hol, hb⟩ := hrel
    by_cases hlt : k < X.length
    · have hkl : k < (arL k ++ M.drop k).length := by rw [List.length_append, arL_len, List.length_drop, HML.out]; omega
      obtain ⟨g0, g1⟩ := cv_get (arL k ++ M.drop k) k hkl
      have x0 := hol.cells (g := gl) rfl _ _ g0
      have x1 := hol.cells (g := gl) rfl _ _ g1
      rw [Go.WideShapes.add_plain, Nat.zero_add] at x0 x1
      have y0 := hol.frozenAt (k * 2)
      obtain ⟨R1, G1⟩ := hol.stored (k * 2) (.int .u8 12)
      have hx1 : ((cv (arL k ++ M.drop k)).set (k * 2) (.int .u8 12))[k * 2 + 1]? = some (.int .u32 ((arL k ++ M.drop k).getD k (0, 0)).2) := by
        rw [List.getElem?_set_ne (by omega)]; exact g1
      have x2 := R1.cells (g := gl) rfl _ _ hx1
      rw [Go.WideShapes.add_plain, Nat.zero_add] at x2
      have y2 := R1.frozenAt (k * 2 + 1)
      obtain ⟨R2, G2⟩ := R1.stored (k * 2 + 1) (.int .u32 1)
      rw [← ar_step M k (by rw [HML.out]; omega)] at R2
      have hglB := (hol.lt gl rfl).1
      have hb2 := (hb.setCell (p := ⟨gl, k * 2, none⟩) hglB (.int .u8 12)).setCell (p := ⟨gl, k * 2 + 1, none⟩) hglB (.int .u32 1)
      generalize ((arL k ++ M.drop k).getD k (0, 0)).1 = q0 at x0
      generalize ((arL k ++ M.drop k).getD k (0, 0)).2 = q1 at x1 x2
      have hltI : (k : Int) < (X.length : Int) := by omega
      have hltI2 : (k : Int) < (X.length : Int) + 64 := by omega
      clear hol R1 G1 G2 hb g0 g1 hx1 hkl
      go_wp2
      go_roundw
      case rel => exact ⟨k + 1, by omega, by go_num, R2, hb2⟩
      case measure => simp [intOf]; omega
    · obtain rfl : k = X.length := by omega
      have hol2 : wr.ownsRow w.heap.size 32 2 (.slice (some ⟨gl, 0, none⟩) (X.length + 64) cl) (X.length + 64) (cv (arL X.length ++ mksC 64)) := by
        have e : M.drop X.length = mksC 64 := by rw [← HM.out, List.drop_left]
        rw [e] at hol; exact hol
      have hP := places_n (some ⟨gl, 0, none⟩) cl X.length (arL X.length) wr (arL_len _) (by omega) (arL_wf _) (crd_take (lent_crd (by rw [arL_len]) hol2))
      have hltI : ¬ (X.length : Int) < (X.length : Int) := by omega
      by_cases hbig : 16384 < X.length
      · rw [plB_arN _ hbig] at hP
        generalize encX (arL X.length) = ex at *
        have hbI : (16384 : Int) < (X.length : Int) := by omega
        clear hol hol2
        go_wp2_with (go_at_call 15; with_reducible refine hP.mono ?_; rintro e w9 ⟨vc, rfl, oc9, b9⟩; obtain ⟨a9, c9, rfl⟩ := own_any oc9)
        go_ret
        exact ⟨rfl, bt hb b9⟩
      · have hlenC : (plB (arL X.length)).length = X.length + 1 := by rw [plB_ar _ (by omega)]; simp
        have HGC : Hid (∀ j, j < X.length + 1 → (plB (arL X.length)).getD j 0 = 2 * (j : Int)) := by
          intro j hj
          rw [plB_ar _ (by omega)]
          simp [List.getD, hj]
        generalize plB (arL X.length) = C at *
        rw [hlenC] at hP
        generalize encX (arL X.length) = ex at *
        have hbI : ¬ (16384 : Int) < (X.length : Int) := by omega
        clear hol hol2
        go_wp2_with (go_at_call 15; with_reducible refine hP.mono ?_; rintro e w9 ⟨vc, rfl, oc9, b9⟩; obtain ⟨gc, c9, rfl, hc9⟩ := own_form oc9 (by omega))
        have hcell : ∀ j, j < X.length + 1 → w9.cell? ⟨gc, j, none⟩ = some (.int .i64 (2 * (j : Int))) := fun j hj => by
          have := iown_get oc9 (i := j) (by omega)
          rw [HGC.out j hj] at this
          exact this
        have R9 := bt hb b9
        clear oc9 hP HGC b9 hb
        go_loopw [13] (fun i wr2 => ∃ k : Nat, k ≤ X.length + 1 ∧ i = .int .i64 k ∧ wr2 = w9)
          (fun i _ => X.length + 1 - (intOf i).toNat)
        case atStart => exact ⟨0, Nat.zero_le _, rfl, rfl⟩
        case round =>
          obtain ⟨j, hj, rfl, rfl⟩ := hrel
          by_cases hlt3 : j < X.length + 1
          · have hcj := hcell j hlt3
            have q1 : (j : Int) < (X.length : Int) + 1 := by omega
            clear hcell
            go_wp2
            go_roundw
            case rel => exact ⟨j + 1, by omega, by go_num, trivial⟩
            case measure => simp [intOf]; omega
          · obtain rfl : j = X.length + 1 := by omega
            have q1 : ¬ ((X.length + 1 : Nat) : Int) < (X.length : Int) + 1 := by omega
            clear hcell
            go_wp2
            go_ret
            exact ⟨rfl, R9⟩
end Go.Proofs.Ytfkjapkbpdbpmaa
