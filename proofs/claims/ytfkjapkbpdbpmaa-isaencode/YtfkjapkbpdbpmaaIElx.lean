import Derived.Test.YtfkjapkbpdbpmaaIElw
namespace Go.Proofs.Ytfkjapkbpdbpmaa
open Go.RowKit

theorem encoded_n (ao : Option Addr) (cap g cg n : Nat) (L : List (Nat × Nat)) (w : World) (hnn : L.length = n) (hn : L.length ≤ 17592186044352) (hwf : Wfc L) (hcg : n + 64 ≤ cg) (hl : CRd w (some ⟨g, 0, none⟩) (L ++ mksC 64) w.heap.size) (hr : CRd w ao L w.heap.size) :
    Calls Try.prog 10 #[.slice (some ⟨g, 0, none⟩) (n + 64) cg, .slice ao n cap] w fun e w' => ∃ v, e = .returned (.tuple #[v, .bool true]) ∧ w'.ownsRow w.heap.size 5 1 v (encB L).length (bv (encB L)) ∧ Below w.heap.size w w' := by
  subst hnn; exact encoded_any ao cap g cg L w hn hwf hcg hl hr
set_option maxRecDepth 100000 in
set_option maxHeartbeats 2000000 in
theorem encLaw (ao bo : Option Addr) (ca cb : Nat) (X Y : List (Nat × Nat)) (w : World) (hx : X.length ≤ 17592186044352) (hy : Y.length ≤ 17592186044352) (hxw : Wfc X) (hyw : Wfc Y)
    (hrx : CRd w ao X w.heap.size) (hry : CRd w bo Y w.heap.size) :
    Calls Try.prog 3 #[.slice ao X.length ca, .slice bo Y.length cb] w fun e w' => e = .returned (.bool true) ∧ Below w.heap.size w w' := by
  obtain ⟨i0, hi, hz0, hz1, hz2⟩ := info_parts Try.infoC
  have HXW := hid_of hxw
  have HYW := hid_of hyw
  have HRX := hid_of hrx
  have HRY := hid_of hry
  have lA := encB_le X
  have lC := encB_le Y
  clear hxw hyw hrx hry
  go_enter Try.func3, Try.ntmps3
  go_wp2_with fail
  with_reducible refine (lentc_any ao ca X w hx HRX.out).mono ?_
  rintro e w1 ⟨vl, rfl, ol1, b1⟩
  obtain ⟨gl, cl, rfl, hcl⟩ := own_form ol1 (by omega)
  go_wp2_with fail
  with_reducible refine (encoded_any ao ca gl cl X w1 hx HXW.out hcl (lent_crd rfl ol1) ((HRX.out.below b1).mono b1.size)).mono ?_
  rintro e w2 ⟨va, rfl, oa2, b2⟩
  obtain ⟨aa, cca, rfl⟩ := own_any oa2
  have ol2 := own_below ol1 b2
  have B2 := bt b1 b2
  have fla := hid_of (farT ol1 oa2)
  go_wp2_with fail
  with_reducible refine (lentc_any bo cb Y w2 hy ((HRY.out.below B2).mono B2.size)).mono ?_
  rintro e w3 ⟨vo, rfl, oo3, b3⟩
  obtain ⟨go, co, rfl, hco⟩ := own_form oo3 (by omega)
  have ol3 := own_below ol2 b3
  have oa3 := own_below oa2 b3
  have B3 := bt B2 b3
  go_wp2_with fail
  with_reducible refine (encoded_any bo cb go co Y w3 hy HYW.out hco (lent_crd rfl oo3) ((HRY.out.below B3).mono B3.size)).mono ?_
  rintro e w4 ⟨vc, rfl, oc4, b4⟩
  obtain ⟨ac, ccc, rfl⟩ := own_any oc4
  have ol4 := own_below ol3 b4
  have oa4 := own_below oa3 b4
  have B4 := bt B3 b4
  have flc := hid_of (farT ol3 oc4)
  have fac := hid_of (farT oa3 oc4)
  have fca := hid_of (farT' oa3 oc4)
  go_wp2_with fail
  with_reducible refine (encoded_any ao ca gl cl X w4 hx HXW.out hcl (lent_crd rfl ol4) ((HRX.out.below B4).mono B4.size)).mono ?_
  rintro e w5 ⟨vb, rfl, ob5, b5⟩
  obtain ⟨ab, ccb, rfl⟩ := own_any ob5
  have ol5 := own_below ol4 b5
  have oa5 := own_below oa4 b5
  have oc5 := own_below oc4 b5
  have B5 := bt B4 b5
  have flb := hid_of (farT ol4 ob5)
  have fab := hid_of (farT oa4 ob5)
  have fba := hid_of (farT' oa4 ob5)
  have fcb := hid_of (farT oc4 ob5)
  have fbc := hid_of (farT' oc4 ob5)
  go_wp2_with fail
  have OL := own3 (B := w.heap.size) B5.size (own_lower oa5 b1.size) (own_lower ob5 B4.size) (own_lower oc5 B3.size) fab.out fba.out fac.out fca.out fbc.out fcb.out
  have BA : Below w.heap.size w (w5.alloc (.cells #[.slice aa (encB X).length cca, .slice ab (encB X).length ccb, .slice ac (encB Y).length ccc] 24)) := bel B5
  with_reducible refine (apart_any _ _ 3 w.heap.size _ _ _ (by decide) ?hl BA.size OL).mono ?_
  case hl =>
    intro i hi
    rcases lt3 hi with rfl | rfl | rfl <;> simp [z3] <;> omega
  rintro e w6 ⟨rfl, T6⟩
  have ol6 := touch_row T6 (ol5.alloc (.cells #[.slice aa (encB X).length cca, .slice ab (encB X).length ccb, .slice ac (encB Y).length ccc] 24)) fla.out flb.out flc.out
  have B6 : Below w.heap.size w w6 := BA.trans (T6.below BA.size (fun i b hi e => by
    rcases lt3 hi with rfl | rfl | rfl
    · exact Nat.le_trans b1.size (oa5.lt b e).1
    · exact Nat.le_trans B4.size (ob5.lt b e).1
    · exact Nat.le_trans B3.size (oc5.lt b e).1))
  clear OL T6 oa2 oa3 oa4 oa5 ob5 oc4 oc5 oo3 ol1 ol2 ol3 ol4 ol5 fla flb flc fab fba fac fca fbc fcb
  go_wp2_with fail
  with_reducible refine (encoded_any ao ca gl cl X w6 hx HXW.out hcl (lent_crd rfl ol6) ((HRX.out.below B6).mono B6.size)).mono ?_
  rintro e w7 ⟨vd, rfl, od7, b7⟩
  obtain ⟨ad, ccd, rfl⟩ := own_any od7
  have ol7 := own_below ol6 b7
  have B7 := bt B6 b7
  have fld := hid_of (farT ol6 od7)
  go_wp2_with fail
  have hw7 := B7.size
  have hgl7 : gl < w7.heap.size := (ol7.lt gl rfl).2
  have hdn : ∀ b, (Value.slice ad (encB X).length ccd).ownBlock = some b → b < w7.heap.size ∧ ¬ b = gl := fun b hb => by
    refine ⟨(od7.lt b hb).2, fun e => ?_⟩
    subst e
    rcases fld.out with h | h
    · cases h
    · exact h hb.symm
  have HDN := hid_of hdn
  obtain ⟨M, hM⟩ : ∃ M, X ++ mksC 64 = M := ⟨_, rfl⟩
  have hMl : M.length = X.length + 64 := by rw [← hM, List.length_append, mksC_len]
  have HM := hid_of hM
  rw [hM] at ol7
  have HML := hid_of hMl
  clear hM hdn fld ol6 b2 b3 b4 b5 b7 hMl
  go_loopw [11, 12] (fun v i wr => ∃ k : Nat, k ≤ X.length ∧ i = .int .i64 k ∧ wr.ownsRow w.heap.size 32 2 (.slice (some ⟨gl, 0, none⟩) (X.length + 64) cl) (X.length + 64) (cv (ovL k ++ M.drop k)) ∧ wr.ownsRow w7.heap.size 32 2 v k (cv (ovL k)) ∧ wr.ownsRow w6.heap.size 5 1 (.slice ad (encB X).length ccd) (encB X).length (bv (encB X)) ∧ Below w.heap.size w wr ∧ w7.heap.size ≤ wr.heap.size)
    (fun _ i _ => X.length - (intOf i).toNat)
  case atStart => exact ⟨0, Nat.zero_le _, rfl, by simpa [ovL] using ol7, World.ownsRow_nil _ _ _ _, od7, B7, Nat.le_refl _⟩
  case round =>
    clear ol7 od7 B7
    obtain ⟨k, hk, rfl, hol, hov, hod, hb, h7⟩ := hrel
    by_cases hlt : k < X.length
    · have hkl : k < (ovL k ++ M.drop k).length := by rw [List.length_append, ovL_len, List.length_drop, HML.out]; omega
      obtain ⟨g0, g1⟩ := cv_get (ovL k ++ M.drop k) k hkl
      have x0 := hol.cells (g := gl) rfl _ _ g0
      have x1 := hol.cells (g := gl) rfl _ _ g1
      rw [Go.WideShapes.add_plain, Nat.zero_add] at x0 x1
      have y0 := hol.frozenAt (k * 2)
      obtain ⟨R1, G1⟩ := hol.stored (k * 2) (.int .u8 8)
      have hx1 : ((cv (ovL k ++ M.drop k)).set (k * 2) (.int .u8 8))[k * 2 + 1]? = some (.int .u32 ((ovL k ++ M.drop k).getD k (0, 0)).2) := by
        rw [List.getElem?_set_ne (by omega)]; exact g1
      have x2 := R1.cells (g := gl) rfl _ _ hx1
      rw [Go.WideShapes.add_plain, Nat.zero_add] at x2
      have y2 := R1.frozenAt (k * 2 + 1)
      obtain ⟨R2, G2⟩ := R1.stored (k * 2 + 1) (.int .u32 ((k : Int) % 4294967296))
      have e2 : ((cv (ovL k ++ M.drop k)).set (k * 2) (.int .u8 8)).set (k * 2 + 1) (.int .u32 ((k : Int) % 4294967296)) = cv (ovL (k + 1) ++ M.drop (k + 1)) := by
        rw [ov_step M k (by rw [HML.out]; omega)]; congr
      rw [e2] at R2
      have hkl2 : k < (ovL (k + 1) ++ M.drop (k + 1)).length := by rw [List.length_append, ovL_len]; omega
      obtain ⟨g3, g4⟩ := cv_get (ovL (k + 1) ++ M.drop (k + 1)) k hkl2
      have eg : (ovL (k + 1) ++ M.drop (k + 1)).getD k (0, 0) = (8, k % 4294967296) := by
        rw [ovL_succ, List.append_assoc]
        have := getD_app_right (L := ovL k) (M := [(8, k % 4294967296)] ++ M.drop (k + 1)) (j := 0)
        rw [ovL_len] at this
        exact this.trans rfl
      rw [eg] at g3 g4
      have x3 := R2.cells (g := gl) rfl _ _ g3
      have x4 := R2.cells (g := gl) rfl _ _ g4
      rw [Go.WideShapes.add_plain, Nat.zero_add] at x3 x4
      have x3' : ((wr.setCell ⟨gl, k * 2, none⟩ (.int .u8 8)).setCell ⟨gl, k * 2 + 1, none⟩ (.int .u32 ((k : Int) % 4294967296))).cell? ⟨gl, k * 2, none⟩ = some (.int .u8 8) := x3
      have x4' : ((wr.setCell ⟨gl, k * 2, none⟩ (.int .u8 8)).setCell ⟨gl, k * 2 + 1, none⟩ (.int .u32 ((k : Int) % 4294967296))).cell? ⟨gl, k * 2 + 1, none⟩ = some (.int .u32 ((k : Int) % 4294967296)) := by rw [x4]; congr
      clear x3 x4 g0 g1 g3 g4 hx1 eg hkl hkl2
      have ov2 := ownsRow_setCell_below (ownsRow_setCell_below hov (a := ⟨gl, k * 2, none⟩) hgl7 (.int .u8 8)) (a := ⟨gl, k * 2 + 1, none⟩) hgl7 (.int .u32 ((k : Int) % 4294967296))
      have od2 := ownsRow_setCell_other (ownsRow_setCell_other hod (a := ⟨gl, k * 2, none⟩) (fun e => (HDN.out gl e).2 rfl) (.int .u8 8)) (a := ⟨gl, k * 2 + 1, none⟩) (fun e => (HDN.out gl e).2 rfl) (.int .u32 ((k : Int) % 4294967296))
      have hglB := (hol.lt gl rfl).1
      have hb2 := (hb.setCell (p := ⟨gl, k * 2, none⟩) hglB (.int .u8 8)).setCell (p := ⟨gl, k * 2 + 1, none⟩) hglB (.int .u32 ((k : Int) % 4294967296))
      have hs2 : ((wr.setCell ⟨gl, k * 2, none⟩ (.int .u8 8)).setCell ⟨gl, k * 2 + 1, none⟩ (.int .u32 ((k : Int) % 4294967296))).heap.size = wr.heap.size := by rw [World.size_setCell, World.size_setCell]
      generalize ((ovL k ++ M.drop k).getD k (0, 0)).1 = q0 at x0
      generalize ((ovL k ++ M.drop k).getD k (0, 0)).2 = q1 at x1 x2
      have hltI : (k : Int) < (X.length : Int) := by omega
      have hltI2 : (k : Int) < (X.length : Int) + 64 := by omega
      clear hol hov hod R1 G1 G2 e2 hb
      go_wp2_with (at_builtin; refine wpList_append_own _ rfl _ _ 22 rfl w7.heap.size 32 i0 (.agg #[.int .u8 0, .int .u32 0]) 2 8 Try.underlying22 hi hz0 hz1 hz2 rfl (by decide) _ _ _ rfl (ov2.alloc _) ⟨_, 0, none⟩ 1 1 [.int .u8 8, .int .u32 ((k : Int) % 4294967296)] rfl rfl ?p1 ?p2 ?p3 ?p4 ?p5 ?_)
      case p1 =>
        intro j u hj
        rw [Go.WideShapes.add_plain, ← hs2, World.cell?_alloc_new, Nat.zero_add, List.getElem?_toArray]
        exact hj
      case p2 => intro u hu; simp at hu; rcases hu with rfl | rfl <;> rfl
      case p3 => unfold maxLen; omega
      case p4 => omega
      case p5 => simp; omega
      intro v' w9 own9 hg9 _
      have R9 := grown_below hb2 hb2.size (own_lower ov2 hw7) hg9
      have ol9 := (R2.alloc _).kept hg9 (.inr (fun e => by have := (ov2.lt gl e.symm).1; omega))
      have od9 := (od2.alloc _).kept hg9 (by
        cases hv : (Value.slice ad (encB X).length ccd).ownBlock with
        | none => exact .inl rfl
        | some b =>
          right
          intro e
          have h1 := (HDN.out b hv).1
          have h2 := (ov2.lt b e.symm).1
          omega)
      have ov9 : w9.ownsRow w7.heap.size 32 2 v' (k + 1) (cv (ovL (k + 1))) := by
        rw [ovL_succ, cv_append]
        have e : cv [((8 : Nat), k % 4294967296)] = [.int .u8 8, .int .u32 ((k : Int) % 4294967296)] := by simp [cv]
        rw [e]; exact own9
      have h79 : w7.heap.size ≤ w9.heap.size := by have := hg9.size; simp at this; omega
      clear own9 hg9 ov2 od2 R2 hb2 x0 x1 x2 y0 y2 x3' x4' hs2
      go_wp2
      go_roundw
      case rel => exact ⟨k + 1, by omega, by go_num, ol9, ov9, od9, R9, h79⟩
      case measure => simp [intOf]; omega
    · obtain rfl : k = X.length := by omega
      have hol2 : wr.ownsRow w.heap.size 32 2 (.slice (some ⟨gl, 0, none⟩) (X.length + 64) cl) (X.length + 64) (cv (ovL X.length ++ mksC 64)) := by
        have e : M.drop X.length = mksC 64 := by rw [← HM.out, List.drop_left]
        rw [e] at hol; exact hol
      have hov2 := own_len hov (ovL_len X.length).symm
      obtain ⟨av, cv2, he, crdv⟩ := own_crd hov2
      rw [ovL_len] at he
      subst he
      have hEn := encoded_n av cv2 gl cl X.length (ovL X.length) wr (ovL_len _) (by rw [ovL_len]; exact hx) (ovL_wf _) (by omega) (lent_crd (by rw [ovL_len]) hol2) crdv
      have lB := encB_le (ovL X.length)
      generalize ovL X.length = OV at *
      have hltI : ¬ (X.length : Int) < (X.length : Int) := by omega
      clear hol hov hov2 crdv hol2
      go_wp2_with fail
      with_reducible refine hEn.mono ?_
      rintro e w10 ⟨vx, rfl, ox, b10⟩
      obtain ⟨ax, ccx, rfl⟩ := own_any ox
      have od10 := own_below hod b10
      have B10 := bt hb b10
      have fdx := farT hod ox
      have fxd := farT' hod ox
      have OL2 := own2L (B := w.heap.size) B10.size (own_lower od10 B6.size) (own_lower ox hb.size) fdx fxd
      have BA2 : Below w.heap.size w (w10.alloc (.cells #[.slice ad (encB X).length ccd, .slice ax (encB OV).length ccx] 24)) := bel B10
      have hAp := apart_any _ _ 2 w.heap.size _ _ _ (by decide) (by intro i hi; rcases lt2 hi with rfl | rfl <;> simp <;> omega) BA2.size OL2
      have hTB := fun w' (T : Touch 2 (vals3 (.slice ad (encB X).length ccd) (.slice ax (encB OV).length ccx) (.slice ax (encB OV).length ccx)) (w10.alloc (.cells #[.slice ad (encB X).length ccd, .slice ax (encB OV).length ccx] 24)) w') => BA2.trans (T.below BA2.size (fun i b hi e => by
        rcases lt2 hi with rfl | rfl
        · exact Nat.le_trans B6.size (od10.lt b e).1
        · exact Nat.le_trans hb.size (ox.lt b e).1))
      have HTB := hid_of hTB
      clear OL2 fdx fxd od10 ox hod hTB
      go_wp2_with (go_at_call 11; with_reducible refine hAp.mono ?_; rintro e w11 ⟨rfl, T11⟩)
      go_ret
      exact ⟨rfl, HTB.out _ T11⟩
end Go.Proofs.Ytfkjapkbpdbpmaa
