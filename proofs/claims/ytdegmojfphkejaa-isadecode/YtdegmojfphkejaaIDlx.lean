import Derived.Test.YtdegmojfphkejaaIDcd
import Derived.Test.YtdegmojfphkejaaIElw
import Derived.Test.YtdegmojfphkejaaLApC
namespace Go.Proofs.Ytdegmojfphkejaa
open Go.RowKit
set_option maxRecDepth 100000

theorem dcB_le (zs : List Int) (hwf : ∀ z ∈ zs, 0 ≤ z ∧ z ≤ 255) : (dcB zs).length ≤ 16384 := by
  cases hok : okD zs
  · rw [(dec_fault zs hok).1]; simp
  · exact (dec_back zs hwf hok).2.2.2.1
theorem lent_get {w : World} {B g c n : Nat} {zs : List Int} (_ : n = zs.length + 64) (h : w.ownsRow B 5 1 (.slice (some ⟨g, 0, none⟩) n c) n (bv (zs ++ marks 0 64))) : ∀ i, i < zs.length + 64 → w.cell? ⟨g, i, none⟩ = some (.int .u8 ((zs ++ marks 0 64).getD i 0)) := by
  intro i hi
  exact own_get h (by rw [List.length_append, marks_len]; exact hi)
def zc3 (A C : List (Nat × Nat)) (i : Nat) : List (Nat × Nat) := if i = 1 then C else A
theorem own3C {w : World} {B : Nat} {a b c : Value} {A C : List (Nat × Nat)} (hB : B ≤ w.heap.size) (ha : w.ownsRow B 32 2 a A.length (cv A)) (hb : w.ownsRow B 32 2 b C.length (cv C)) (hc : w.ownsRow B 32 2 c A.length (cv A))
    (f1 : a.ownBlock = none ∨ a.ownBlock ≠ b.ownBlock) (f2 : b.ownBlock = none ∨ b.ownBlock ≠ a.ownBlock) (f3 : a.ownBlock = none ∨ a.ownBlock ≠ c.ownBlock) (f4 : c.ownBlock = none ∨ c.ownBlock ≠ a.ownBlock) (f5 : b.ownBlock = none ∨ b.ownBlock ≠ c.ownBlock) (f6 : c.ownBlock = none ∨ c.ownBlock ≠ b.ownBlock) :
    OwnC (w.alloc (.cells #[a, b, c] 22)) B (some ⟨w.heap.size, 0, none⟩) 3 3 (vals3 a b c) (zc3 A C) := by
  refine ⟨World.ownsRow_lit (size := 1) (base := B) (e := 22) w #[a, b, c] 3 hB (by decide) rfl, ?_, ?_⟩
  · intro i hi
    rcases lt3 hi with rfl | rfl | rfl
    · exact ha.alloc _
    · exact hb.alloc _
    · exact hc.alloc _
  · intro i j hi hj hne
    rcases lt3 hi with rfl | rfl | rfl <;> rcases lt3 hj with rfl | rfl | rfl <;> first | exact absurd rfl hne | exact f1 | exact f2 | exact f3 | exact f4 | exact f5 | exact f6
theorem own2C {w : World} {B : Nat} {a c : Value} {A C : List (Nat × Nat)} (hB : B ≤ w.heap.size) (ha : w.ownsRow B 32 2 a A.length (cv A)) (hc : w.ownsRow B 32 2 c C.length (cv C))
    (f1 : a.ownBlock = none ∨ a.ownBlock ≠ c.ownBlock) (f2 : c.ownBlock = none ∨ c.ownBlock ≠ a.ownBlock) :
    OwnC (w.alloc (.cells #[a, c] 22)) B (some ⟨w.heap.size, 0, none⟩) 2 2 (vals3 a c c) (fun i => if i = 0 then A else C) := by
  refine ⟨World.ownsRow_lit (size := 1) (base := B) (e := 22) w #[a, c] 2 hB (by decide) rfl, ?_, ?_⟩
  · intro i hi
    rcases lt2 hi with rfl | rfl
    · exact ha.alloc _
    · exact hc.alloc _
  · intro i j hi hj hne
    rcases lt2 hi with rfl | rfl <;> rcases lt2 hj with rfl | rfl <;> first | exact absurd rfl hne | exact f1 | exact f2
/-- what is written over the bytes -/
def ovB (m : Nat) : List Int := List.replicate m 1
theorem ovB_succ (m : Nat) : ovB (m + 1) = ovB m ++ [1] := by simp [ovB, List.replicate_succ']
theorem ovB_len (m : Nat) : (ovB m).length = m := by simp [ovB]
theorem ovB_wf (m : Nat) : ∀ z ∈ ovB m, 0 ≤ z ∧ z ≤ 255 := by
  intro z hz
  have := List.eq_of_mem_replicate hz
  omega
theorem ovB_step (M : List Int) (k : Nat) (h : k < M.length) : bv (ovB (k + 1) ++ M.drop (k + 1)) = (bv (ovB k ++ M.drop k)).set k (.int .u8 1) := by
  have hl : (bv (ovB k)).length = k := by rw [bv_len, ovB_len]
  rw [ovB_succ, List.drop_eq_getElem_cons h]
  simp only [bv, List.map_append, List.map_cons, List.append_assoc, List.cons_append, List.nil_append]
  rw [List.set_append_right _ _ (by simp [ovB_len])]
  simp [ovB_len]
theorem decoded_n (ao : Option Addr) (cap g cg n : Nat) (zs : List Int) (w : World) (hnn : zs.length = n) (hn : zs.length ≤ 140737488351232) (hwf : ∀ z ∈ zs, 0 ≤ z ∧ z ≤ 255) (hcg : n + 64 ≤ cg) (hl : ∀ i, i < zs.length + 64 → w.cell? ⟨g, i, none⟩ = some (.int .u8 ((zs ++ marks 0 64).getD i 0))) (hg : g < w.heap.size) (hr : Reads w ao zs w.heap.size) :
    Calls Try.prog 13 #[.slice (some ⟨g, 0, none⟩) (n + 64) cg, .slice ao n cap] w fun e w' => ∃ v, e = .returned (.tuple #[v, .bool true]) ∧ w'.ownsRow w.heap.size 32 2 v (dcB zs).length (cv (dcB zs)) ∧ Below w.heap.size w w' := by
  subst hnn; exact decoded_any ao cap g cg zs w hn hwf hcg hl hg hr
set_option maxRecDepth 100000 in
set_option maxHeartbeats 2000000 in
theorem decLaw (ao bo : Option Addr) (ca cb : Nat) (X Y : List Int) (w : World) (hx : X.length ≤ 140737488351232) (hy : Y.length ≤ 140737488351232) (hxw : ∀ z ∈ X, 0 ≤ z ∧ z ≤ 255) (hyw : ∀ z ∈ Y, 0 ≤ z ∧ z ≤ 255)
    (hrx : Reads w ao X w.heap.size) (hry : Reads w bo Y w.heap.size) :
    Calls Try.prog 4 #[.slice ao X.length ca, .slice bo Y.length cb] w fun e w' => e = .returned (.bool true) ∧ Below w.heap.size w w' := by
  obtain ⟨i0, hi, hz0, hz1, hz2⟩ := info_parts Try.info5
  have HXW := hid_of hxw
  have HYW := hid_of hyw
  have HRX := hid_of hrx
  have HRY := hid_of hry
  have lA := dcB_le X hxw
  have lC := dcB_le Y hyw
  clear hxw hyw hrx hry
  go_enter Try.func4, Try.ntmps4
  go_wp2_with fail
  with_reducible refine (lent_any ao ca X w hx HRX.out).mono ?_
  rintro e w1 ⟨vl, rfl, ol1, b1⟩
  obtain ⟨gl, cl, rfl, hcl⟩ := own_form ol1 (by omega)
  go_wp2_with fail
  with_reducible refine (decoded_any ao ca gl cl X w1 hx HXW.out hcl (lent_get rfl ol1) (ol1.lt gl rfl).2 ((HRX.out.below b1).mono b1.size)).mono ?_
  rintro e w2 ⟨va, rfl, oa2, b2⟩
  obtain ⟨aa, cca, rfl⟩ := own_any oa2
  have ol2 := own_below ol1 b2
  have B2 := bt b1 b2
  have fla := hid_of (farT ol1 oa2)
  go_wp2_with fail
  with_reducible refine (lent_any bo cb Y w2 hy ((HRY.out.below B2).mono B2.size)).mono ?_
  rintro e w3 ⟨vo, rfl, oo3, b3⟩
  obtain ⟨go, co, rfl, hco⟩ := own_form oo3 (by omega)
  have ol3 := own_below ol2 b3
  have oa3 := own_below oa2 b3
  have B3 := bt B2 b3
  go_wp2_with fail
  with_reducible refine (decoded_any bo cb go co Y w3 hy HYW.out hco (lent_get rfl oo3) (oo3.lt go rfl).2 ((HRY.out.below B3).mono B3.size)).mono ?_
  rintro e w4 ⟨vc, rfl, oc4, b4⟩
  obtain ⟨ac, ccc, rfl⟩ := own_any oc4
  have ol4 := own_below ol3 b4
  have oa4 := own_below oa3 b4
  have B4 := bt B3 b4
  have flc := hid_of (farT ol3 oc4)
  have fac := hid_of (farT oa3 oc4)
  have fca := hid_of (farT' oa3 oc4)
  go_wp2_with fail
  with_reducible refine (decoded_any ao ca gl cl X w4 hx HXW.out hcl (lent_get rfl ol4) (ol4.lt gl rfl).2 ((HRX.out.below B4).mono B4.size)).mono ?_
  rintro e w5 ⟨vb, rfl, ob5, b5⟩
  obtain ⟨ab, ccb, rfl⟩ := own_any ob5
  have ol5 := own_below ol4 b5
  have oa5 := own_below oa4 b5
  have oc5 := own_below oc4 b5
  have B5 := bt B4 b5
  have flb := hid_of (farT ol4 ob5)
  have fab := hid_of (farT oa4 ob5)
  have fba := hid_of (farT' oa4 ob5)
  have fcb := hid_of (farT oc4 ob5)
  have fbc := hid_of (farT' oc4 ob5)
  go_wp2_with fail
  have OL := own3C (B := w.heap.size) B5.size (own_lower oa5 b1.size) (own_lower oc5 B3.size) (own_lower ob5 B4.size) fac.out fca.out fab.out fba.out fcb.out fbc.out
  have BA : Below w.heap.size w (w5.alloc (.cells #[.slice aa (dcB X).length cca, .slice ac (dcB Y).length ccc, .slice ab (dcB X).length ccb] 22)) := bel B5
  with_reducible refine (apartC_any _ _ 3 w.heap.size _ _ _ (by decide) ?hl BA.size OL).mono ?_
  case hl =>
    intro i hi
    rcases lt3 hi with rfl | rfl | rfl <;> simp [zc3] <;> omega
  rintro e w6 ⟨rfl, T6⟩
  have ol6 := touch_row T6 (ol5.alloc (.cells #[.slice aa (dcB X).length cca, .slice ac (dcB Y).length ccc, .slice ab (dcB X).length ccb] 22)) fla.out flc.out flb.out
  have B6 : Below w.heap.size w w6 := BA.trans (T6.below BA.size (fun i b hi e => by
    rcases lt3 hi with rfl | rfl | rfl
    · exact Nat.le_trans b1.size (oa5.lt b e).1
    · exact Nat.le_trans B3.size (oc5.lt b e).1
    · exact Nat.le_trans B4.size (ob5.lt b e).1))
  clear OL T6 oa2 oa3 oa4 oa5 ob5 oc4 oc5 oo3 ol1 ol2 ol3 ol4 ol5 fla flb flc fab fba fac fca fbc fcb
  go_wp2_with fail
  with_reducible refine (decoded_any ao ca gl cl X w6 hx HXW.out hcl (lent_get rfl ol6) (ol6.lt gl rfl).2 ((HRX.out.below B6).mono B6.size)).mono ?_
  rintro e w7 ⟨vd, rfl, od7, b7⟩
  obtain ⟨ad, ccd, rfl⟩ := own_any od7
  have ol7 := own_below ol6 b7
  have B7 := bt B6 b7
  have fld := hid_of (farT ol6 od7)
  go_wp2_with fail
  have hw7 := B7.size
  have hgl7 : gl < w7.heap.size := (ol7.lt gl rfl).2
  have hdn : ∀ b, (Value.slice ad (dcB X).length ccd).ownBlock = some b → b < w7.heap.size ∧ ¬ b = gl := fun b hb => by
    refine ⟨(od7.lt b hb).2, fun e => ?_⟩
    subst e
    rcases fld.out with h | h
    · cases h
    · exact h hb.symm
  have HDN := hid_of hdn
  obtain ⟨M, hM⟩ : ∃ M, X ++ marks 0 64 = M := ⟨_, rfl⟩
  have hMl : M.length = X.length + 64 := by rw [← hM, List.length_append, marks_len]
  have HM := hid_of hM
  rw [hM] at ol7
  have HML := hid_of hMl
  clear hM hdn fld ol6 b2 b3 b4 b5 b7 hMl
  go_loopw [11, 12] (fun v i wr => ∃ k : Nat, k ≤ X.length ∧ i = .int .i64 k ∧ wr.ownsRow w.heap.size 5 1 (.slice (some ⟨gl, 0, none⟩) (X.length + 64) cl) (X.length + 64) (bv (ovB k ++ M.drop k)) ∧ wr.ownsRow w7.heap.size 5 1 v k (bv (ovB k)) ∧ wr.ownsRow w6.heap.size 32 2 (.slice ad (dcB X).length ccd) (dcB X).length (cv (dcB X)) ∧ Below w.heap.size w wr ∧ w7.heap.size ≤ wr.heap.size)
    (fun _ i _ => X.length - (intOf i).toNat)
  case atStart => exact ⟨0, Nat.zero_le _, rfl, by simpa [ovB] using ol7, World.ownsRow_nil _ _ _ _, od7, B7, Nat.le_refl _⟩
  case round =>
    clear ol7 od7 B7
    obtain ⟨k, hk, rfl, hol, hov, hod, hb, h7⟩ := hrel
    by_cases hlt : k < X.length
    · have hkl : k < (ovB k ++ M.drop k).length := by rw [List.length_append, ovB_len, List.length_drop, HML.out]; omega
      have x0 := own_get hol hkl
      have y0 := hol.frozenAt k
      obtain ⟨R1, G1⟩ := hol.stored k (.int .u8 1)
      rw [← ovB_step M k (by rw [HML.out]; omega)] at R1
      have ov2 := ownsRow_setCell_below hov (a := ⟨gl, k, none⟩) hgl7 (.int .u8 1)
      have od2 := ownsRow_setCell_other hod (a := ⟨gl, k, none⟩) (fun e => (HDN.out gl e).2 rfl) (.int .u8 1)
      have hglB := (hol.lt gl rfl).1
      have hb2 := hb.setCell (p := ⟨gl, k, none⟩) hglB (.int .u8 1)
      have hs2 : (wr.setCell ⟨gl, k, none⟩ (.int .u8 1)).heap.size = wr.heap.size := by rw [World.size_setCell]
      generalize (ovB k ++ M.drop k).getD k 0 = q0 at x0
      have hltI : (k : Int) < (X.length : Int) := by omega
      have hltI2 : (k : Int) < (X.length : Int) + 64 := by omega
      clear hol hov hod G1 hb hkl
      go_wp2_with (at_builtin; refine wpList_append_own _ rfl _ _ 24 rfl w7.heap.size 5 i0 (.int .u8 0) 1 1 Try.underlying24 hi hz0 hz1 hz2 rfl (by decide) _ _ _ rfl (ov2.alloc _) ⟨_, 0, none⟩ 1 1 [.int .u8 1] rfl rfl ?p1 ?p2 ?p3 ?p4 ?p5 ?_)
      case p1 =>
        intro j u hj
        rw [Go.WideShapes.add_plain, ← hs2, World.cell?_alloc_new, Nat.zero_add, List.getElem?_toArray]
        exact hj
      case p2 => intro u hu; simp at hu; subst hu; rfl
      case p3 => unfold maxLen; omega
      case p4 => omega
      case p5 => simp; omega
      intro v' w9 own9 hg9 _
      have R9 := grown_below hb2 hb2.size (own_lower ov2 hw7) hg9
      have ol9 := (R1.alloc _).kept hg9 (.inr (fun e => by have := (ov2.lt gl e.symm).1; omega))
      have od9 := (od2.alloc _).kept hg9 (by
        cases hv : (Value.slice ad (dcB X).length ccd).ownBlock with
        | none => exact .inl rfl
        | some b =>
          right
          intro e
          have h1 := (HDN.out b hv).1
          have h2 := (ov2.lt b e.symm).1
          omega)
      have ov9 : w9.ownsRow w7.heap.size 5 1 v' (k + 1) (bv (ovB (k + 1))) := by
        rw [ovB_succ, bv_append]
        exact own9
      have h79 : w7.heap.size ≤ w9.heap.size := by have := hg9.size; simp at this; omega
      clear own9 hg9 ov2 od2 R1 hb2 x0 y0 hs2
      go_wp2
      go_roundw
      case rel => exact ⟨k + 1, by omega, by go_num, ol9, ov9, od9, R9, h79⟩
      case measure => simp [intOf]; omega
    · obtain rfl : k = X.length := by omega
      have hol2 : wr.ownsRow w.heap.size 5 1 (.slice (some ⟨gl, 0, none⟩) (X.length + 64) cl) (X.length + 64) (bv (ovB X.length ++ marks 0 64)) := by
        have e : M.drop X.length = marks 0 64 := by rw [← HM.out, List.drop_left]
        rw [e] at hol; exact hol
      obtain ⟨av, cv2, he, crdv⟩ := own_reads (own_len hov (ovB_len X.length).symm)
      rw [ovB_len] at he
      subst he
      have hEn := decoded_n av cv2 gl cl X.length (ovB X.length) wr (ovB_len _) (by rw [ovB_len]; exact hx) (ovB_wf _) (by omega) (lent_get (by rw [ovB_len]) hol2) (hol2.lt gl rfl).2 crdv
      have lB := dcB_le (ovB X.length) (ovB_wf _)
      generalize ovB X.length = OV at *
      have hltI : ¬ (X.length : Int) < (X.length : Int) := by omega
      clear hol hov crdv hol2
      go_wp2_with fail
      with_reducible refine hEn.mono ?_
      rintro e w10 ⟨vx, rfl, ox, b10⟩
      obtain ⟨ax, ccx, rfl⟩ := own_any ox
      have od10 := own_below hod b10
      have B10 := bt hb b10
      have fdx := farT hod ox
      have fxd := farT' hod ox
      have OL2 := own2C (B := w.heap.size) B10.size (own_lower od10 B6.size) (own_lower ox hb.size) fdx fxd
      have BA2 : Below w.heap.size w (w10.alloc (.cells #[.slice ad (dcB X).length ccd, .slice ax (dcB OV).length ccx] 22)) := bel B10
      have hAp := apartC_any _ _ 2 w.heap.size _ _ _ (by decide) (by intro i hi; rcases lt2 hi with rfl | rfl <;> simp <;> omega) BA2.size OL2
      have hTB := fun w' (T : Touch 2 (vals3 (.slice ad (dcB X).length ccd) (.slice ax (dcB OV).length ccx) (.slice ax (dcB OV).length ccx)) (w10.alloc (.cells #[.slice ad (dcB X).length ccd, .slice ax (dcB OV).length ccx] 22)) w') => BA2.trans (T.below BA2.size (fun i b hi e => by
        rcases lt2 hi with rfl | rfl
        · exact Nat.le_trans B6.size (od10.lt b e).1
        · exact Nat.le_trans hb.size (ox.lt b e).1))
      have HTB := hid_of hTB
      clear OL2 fdx fxd od10 ox hod hTB
      go_wp2_with (go_at_call 14; with_reducible refine hAp.mono ?_; rintro e w11 ⟨rfl, T11⟩)
      go_ret
      exact ⟨rfl, HTB.out _ T11⟩
end Go.Proofs.Ytdegmojfphkejaa
