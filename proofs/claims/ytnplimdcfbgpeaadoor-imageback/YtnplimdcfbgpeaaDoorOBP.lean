import Derived.Test.YtnplimdcfbgpeaaDoorCOFp
import Derived.Test.YtnplimdcfbgpeaaDoorLOpen
import Derived.Test.YtnplimdcfbgpeaaDoorCards
import Derived.Test.YtnplimdcfbgpeaaDoorTie
import Derived.ProofKit
import Derived.OpenShut
import Derived.Lay
import Derived.LaidOnce
import Derived.Lib.LaidU8
import Derived.SevenTiedAt
namespace Go.Proofs.YtnplimdcfbgpeaaDoor
open Go.ChangeShapes Go.WideShapes Go.ChangeAt Go.RowKit

theorem tab_reads {P : Program} {W : World} {name : String} {k : IntKind} {zs : List Int} {g : Nat} {t e : TypeId} {n : Nat}
    (hg : P.globalNamed name = some g) (hty : (P.globals[g]?).map (·.type) = some t) (ht : P.underlying t = some (.array n e)) (he : P.underlying e = some (.int k)) (hce : P.cellsOf e = 1) (hct : P.cellsOf t = n)
    (h : Lib.VarReads P W name (Lib.tabData k zs)) : Lib.TabIs P W name k zs := by
  obtain ⟨g', t', cs, fuel, p, hg', ht', hvar, hd⟩ := h
  obtain rfl := Option.some.inj (hg.symm.trans hg')
  obtain rfl := Option.some.inj (hty.symm.trans ht')
  unfold Lib.TabIs
  rw [hvar, ← Lib.cells_of_tab ht he hce hct hd]
abbrev laid1 : List (String × DataW Unit) := [("playpen/image.segmentPlaces", Rows.laid_playpen_image_segmentPlaces)]
theorem cell_pos {w : World} {i : Nat} {v : Value} (h : w.cell? ⟨0, i, none⟩ = some v) : 0 < w.heap.size := by
  by_cases hp : 0 < w.heap.size
  · exact hp
  · have : w.heap[0]? = none := Array.getElem?_eq_none (by omega)
    simp [World.cell?, this] at h
theorem sg_laid {W : World} (h : laidMetH Tryd.prog laid1 W) : Sg W := by
  rw [MakeChecks.laidMetH_plain _ _ _ (by kernel_rfl)] at h
  have r1 : Lib.VarReads Tryd.prog W "playpen/image.segmentPlaces" (Lib.tabData .i64 [16, 24, 32, 40]) := Lib.laidMet.reads h (.head _)
  have t1 := tab_reads (g := 0) (t := 64) (e := 3) (n := 4) (by kernel_rfl) (by kernel_rfl) Tryd.underlying64 Tryd.underlying3 (by kernel_rfl) (by kernel_rfl) r1
  have c0 := t1.cell (g := 0) (by kernel_rfl) 0 (by decide)
  exact ⟨cell_pos c0, c0, t1.cell (by kernel_rfl) 1 (by decide), t1.cell (by kernel_rfl) 2 (by decide), t1.cell (by kernel_rfl) 3 (by decide)⟩
theorem back_any (I : Im) (ac aj ad an : Option Addr) (cc cj cd cn : Nat) (w : World) (hw : ImW I) (hb : ImB I) (hr : ImR w w.heap.size I ac aj ad an cd cn) (hg : Sg w) :
    Calls Tryd.prog 3 #[imV ac I.L.length cc aj I.J.length cj ad I.D.length cd I.z I.st an I.M.length cn] w fun e w' => e = .returned (.bool true) ∧ Below w.heap.size w w' := by
  by_cases hk : ckI I = 0
  · exact back_good I ac aj ad an cc cj cd cn w hb hr hg ((ckI_0 hw).1 hk)
  · exact back_bad I ac aj ad an cc cj cd cn w hw hb hr hg hk
set_option maxRecDepth 100000 in
theorem iback_lifted (os : Os) (started : os.Started) (H : Type) (enc : TypeId × Value → H) :
    ReturnsInHanded {} Tryd.checked os 3 .any (fun w args => (Rows.imageBackSpec.pre enc Tryd.prog Tryd.f3 [] false w args ∧ laidMetH Tryd.prog laid1 w) ∧ sizedMet enc Tryd.prog Tryd.f3 (OpenSpec.ofChange Rows.imageBackSpec) false w args)
      (Rows.imageBackSpec.post enc Tryd.prog Tryd.f3 false true false false) := by
  refine returnsInHanded_of_change_and (C := Tryd.checked) (X := fun w _ => laidMetH Tryd.prog laid1 w) (fun _ _ _ hh h => h.of_heap hh) Tryd.own started (by kernel_rfl) Tryd.func3
    (ChangeSpec.witness_shaped (enc := enc) (C := Tryd.checked) (os := os) (X := fun w _ => laidMetH Tryd.prog laid1 w) false (World.laidAll Tryd.prog os laid1) #[.agg #[.slice none 0 0, .slice none 0 0, .slice none 0 0, .int .u32 0, .int .u32 0, .slice none 0 0]] 8 (World.laidAll_os _ _ _)
      (World.shaped_of_ZipB (by kernel_rfl) (by kernel_rfl)) (by kernel_rfl) (by kernel_rfl) (by kernel_rfl)
      (by rw [MakeChecks.laidMetH_plain _ _ _ (by kernel_rfl)]; exact laidMet_laidAll _ (by kernel_rfl) (by kernel_rfl))) ?_
  intro W base args ds gs before hval0 hW _ hsz0 hL _
  have hsz : (DataW.weightsEach Tryd.prog (Tryd.f3.params.toList ++ Rows.imageBackSpec.plain.varTypes Tryd.prog) (ds ++ gs)).all (· ≤ reachBytes) = true := hsz0
  clear hsz0
  have hval : ∀ (j : Nat) t v, Tryd.f3.params[j]? = some t → args[j]? = some v → Value.okWide Tryd.prog W .any base t v := hval0
  have hW' := hW
  obtain ⟨p, q, hA0, hV, rfl, _, _⟩ := hW
  have hA : DataW.TrodAll enc Tryd.prog W 0 (fun _ => true) true Tryd.f3.params.toList args.toList ds p := hA0
  rw [Tryd.params3] at hA hval hsz
  obtain ⟨v0, vs0, d0, ds0, p0, q0, hargs, rfl, rfl, h0, r0⟩ := trodAll_cons hA
  obtain ⟨rfl, rfl, rfl⟩ := trodAll_nil r0
  obtain rfl : args = #[v0] := by cases args; simp_all
  obtain ⟨rfl, rfl⟩ := trodVars_none hV
  clear hA0 hval0
  simp only [List.append_nil] at hW'
  have hlt : ∀ x ∈ p0, x.block < W.heap.size := fun x hx => by simpa using hW'.lt x (by simp [hx])
  have hsw : ∀ n ∈ d0.weights Tryd.prog 28, n ≤ 140737488351232 := fun n hn => by
    have := (List.all_eq_true.1 hsz) n (by simp [DataW.weightsEach, hn])
    have h2 : n ≤ reachBytes := of_decide_eq_true this
    unfold reachBytes at h2
    exact h2
  obtain ⟨ac, aj, ad, an, cc, cj, cd, cn, z, st, L, J, dd, M, rfl, b1, b2, b3, b4, b5, b6, b7, b8, b9, r1, r2, r3, r4, n4, u1, u2⟩ := image_openO (hval 0 28 v0 rfl rfl) h0 hlt hsw
  refine (back_any ⟨L, J, dd, z, st, M⟩ ac aj ad an cc cj cd cn W ⟨b5, b6, u2, b8, b9, b7⟩ ⟨by show L.length ≤ _; omega, by show J.length ≤ _; omega, by show dd.length ≤ _; omega, by show M.length ≤ _; omega⟩ ⟨r1, r2, r3, r4, u1, n4⟩ (sg_laid hL)).mono fun e W' ⟨he, hnx⟩ => ?_
  subst he
  have hback : DataW.Trod enc Tryd.prog W' 0 (fun b => decide (b < W.heap.size)) true 28 (imV ac L.length cc aj J.length cj ad dd.length cd z st an M.length cn) d0 p0 :=
    Below.trod Tryd.laidOut (by kernel_rfl) (of_decide_eq_true (by kernel_rfl)) h0 hnx hlt
  refine ⟨_, rfl, _, _, _, [], p0 ++ [], [], hW', ?_, ?_, rfl, hnx.frame _, fun h => by cases h⟩
  · exact trodAll_cons_mk (shut_bool Tryd.underlying4 _) trodAll_mk0
  · exact trodAll_cons_mk hback trodAll_mk0
theorem iback_row : Rows.ImageBackSaid :=
  OpenClaim.holds_of_wide 3 Tryd.f3 rfl rfl rfl rfl rfl rfl rfl ⟨rfl, rfl, rfl, rfl, rfl⟩ rfl rfl rfl rfl rfl (by kernel_rfl) Tryd.func3 (by kernel_rfl)
    (of_decide_eq_true (by kernel_rfl)) (by unfold Func.isWrapper; first | (rw [if_pos (by decide +kernel)]; kernel_rfl) | (rw [if_neg (by decide +kernel)]; exact ⟨rfl, rfl⟩))
    (fun os started H enc _ => iback_lifted os started H enc)
theorem iback_holds : Rows.ImageBackCardSaid :=
  Claim7.holds_tied_plain_at .later [] [.data] true (true, "f1a2e5745ee689e37d1d38dd188d63c70bb58c033802244ea1a095baf6961815") false
    iback_row (fun _ h => by cases h) (by kernel_rfl) (fun _ h => by cases h) imageBack_row_tie rfl ⟨rfl, rfl⟩ (by kernel_rfl) rfl
    (fun f fn hf hfn => by
      obtain rfl : f = 3 := Option.some.inj ((show Tryd.prog.funcNamed "playpen/playpenlaw08.ImageBack" = some 3 by kernel_rfl).symm.trans hf) |>.symm
      obtain rfl : fn = Tryd.f3 := (Option.some.inj (Tryd.func3.symm.trans hfn)).symm
      exact ⟨by kernel_rfl, fun j t ht => by
        rw [Tryd.params3] at ht
        have hm : t ∈ [28] := by simpa using Array.mem_of_getElem? ht
        have hall : ([28].all fun u => !Tryd.prog.wantsStandIn u) = true := by kernel_rfl
        exact (show Tryd.prog.wantsStandIn t = false by simpa using List.all_eq_true.1 hall t hm)⟩)
    (by kernel_rfl)
end Go.Proofs.YtnplimdcfbgpeaaDoor
