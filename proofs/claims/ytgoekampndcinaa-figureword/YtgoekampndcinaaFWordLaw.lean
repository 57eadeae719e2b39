import Derived.Test.YtgoekampndcinaaFRef
import Derived.ProofKit
import Derived.OpenShut
import Derived.ShutString
import Derived.SizedLaws
namespace Go.Proofs.Ytgoekampndcinaa
open Go.ChangeShapes Go.WideShapes Go.ChangeAt Go.RowKit
open Go.ChangeMaps (open_string shut_string)

set_option maxRecDepth 100000 in
set_option maxHeartbeats 4000000 in
theorem rword_any (s : ByteArray) (w : World) :
    Calls Try.prog 5 #[.string s] w fun e w' => e = trip (wordV s) ∧ w' = w := by
  by_cases hs : s.size ≤ 64
  · have H1 := hp2 s 48 120
    have H2 := hp2 s 48 98
    have H3 := hp1 s 45
    have e48 : (48 : UInt8).toNat = 48 := rfl
    have e120 : (120 : UInt8).toNat = 120 := rfl
    have e98 : (98 : UInt8).toNat = 98 := rfl
    have e45 : (45 : UInt8).toNat = 45 := rfl
    rw [e48, e120] at H1
    rw [e48, e98] at H2
    rw [e45] at H3
    by_cases c1 : 2 ≤ s.size ∧ bt s 0 = 48 ∧ bt s 1 = 120
    · rw [wordV, if_neg (by omega), if_pos (by rw [H1]; exact decide_eq_true c1)]
      exact rword_x s w hs c1.1 c1.2.1 c1.2.2
    · by_cases c2 : 2 ≤ s.size ∧ bt s 0 = 48 ∧ bt s 1 = 98
      · rw [wordV, if_neg (by omega), if_neg (by rw [H1]; simpa using c1), if_pos (by rw [H2]; exact decide_eq_true c2)]
        exact rword_b s w hs c2.1 c2.2.1 c2.2.2
      · by_cases c3 : 1 ≤ s.size ∧ bt s 0 = 45
        · rw [wordV, if_neg (by omega), if_neg (by rw [H1]; simpa using c1), if_neg (by rw [H2]; simpa using c2), if_pos (by rw [H3]; exact decide_eq_true c3)]
          exact rword_m s w hs c3.1 c3.2
        · rw [wordV, if_neg (by omega), if_neg (by rw [H1]; simpa using c1), if_neg (by rw [H2]; simpa using c2), if_neg (by rw [H3]; simpa using c3)]
          by_cases z0 : s.size = 0
          · exact rword_e s w hs z0
          by_cases z1 : s.size = 1
          · by_cases b0 : bt s 0 = 48
            · exact rword_g s w hs z1 b0
            · exact rword_f s w hs z1 (by omega) b0
          · by_cases b0 : bt s 0 = 48
            · exact rword_h s w hs (by omega) b0 (by omega) (by omega)
            · exact rword_k s w hs (by omega) (by omega) b0
  · have hsI : (64 : Int) < (s.size : Int) := by omega
    have HE : Hid (wordV s = (0, 64, 42)) := by rw [Hid, wordV, if_pos (by omega)]
    go_enter Try.func5, Try.ntmps5
    go_wp2
    refine bodyPost_ret (results_tmp3 rfl _ _ _) rfl ?_
    exact ⟨by rw [HE.out]; rfl, rfl⟩

set_option maxRecDepth 100000 in
set_option maxHeartbeats 2000000 in
theorem figureword_any (s : ByteArray) (w : World) :
    Calls Try.prog 3 #[.string s] w fun e w' => e = .returned (.bool true) ∧ w' = w := by
  obtain ⟨x, hx⟩ : ∃ x, wordV s = x := ⟨_, rfl⟩
  have HX : Hid (wordV s = x) := hx
  obtain ⟨x1, x2, x3⟩ := x
  clear hx
  go_enter Try.func3, Try.ntmps3
  go_wp2_with (first | (go_at_call 4; refine (word_any s _).mono ?_; rintro e w1 ⟨rfl, hw1⟩; rw [HX.out, trip]; subst hw1) | (go_at_call 5; refine (rword_any s _).mono ?_; rintro e w1 ⟨rfl, hw1⟩; rw [HX.out, trip]; subst hw1))
  go_ret
  exact ⟨rfl, rfl⟩

theorem Try.own : ownKnob Try.prog.godebug = none := by kernel_rfl
set_option maxRecDepth 100000 in
theorem figureword_lifted (os : Os) (started : os.Started) (H : Type) (enc : TypeId × Value → H) :
    ReturnsInHanded {} Try.checked os 3 .any (Rows.figureWordSpec.pre6 enc Try.prog Try.f3 Rows.figureWordRow.domain false) (Rows.figureWordSpec.post enc Try.prog Try.f3 false true false false) := by
  refine returnsInHanded_of_change_sized (C := Try.checked) Try.own started (by kernel_rfl) Try.func3
    (ChangeSpec.witness6 (enc := enc) (C := Try.checked) false ⟨#[], #[.string ByteArray.empty], []⟩ 8 (by kernel_rfl) (by kernel_rfl) (by kernel_rfl) (by kernel_rfl)) ?_
  intro W base args ds gs before hval0 hW _ _ _
  have hval : ∀ (j : Nat) t v, Try.f3.params[j]? = some t → args[j]? = some v → Value.okWide Try.prog W .any base t v := hval0
  have hW' := hW
  obtain ⟨p, q, hA0, hV, rfl, hfz, hnd⟩ := hW
  have hA : DataW.TrodAll enc Try.prog W 0 (fun _ => true) true Try.f3.params.toList args.toList ds p := hA0
  rw [Try.params3] at hA hval
  obtain ⟨v0, vs0, d0, ds0, p0, q0, hargs, rfl, rfl, h0, r0⟩ := trodAll_cons hA
  obtain ⟨rfl, rfl, rfl⟩ := trodAll_nil r0
  obtain rfl : args = #[v0] := by cases args; simp_all
  obtain ⟨rfl, rfl⟩ := trodVars_none hV
  obtain ⟨a0, rfl, rfl, rfl, w0⟩ := open_string Try.underlying9 (hval 0 9 v0 rfl rfl) h0
  clear hA0 hval0
  simp only [List.append_nil] at hW'
  refine (figureword_any a0 W).mono fun e W' ⟨he, hw⟩ => ?_
  subst he hw
  refine ⟨_, rfl, _, _, _, [], [], [], hW', ?_, ?_, rfl, (Below.refl _ _).frame _, fun h => by cases h⟩
  · exact trodAll_cons_mk (shut_bool Try.underlying4 _) trodAll_mk0
  · exact trodAll_cons_mk (shut_string Try.underlying9 w0) trodAll_mk0

theorem figureword_holds : Rows.FigureWordSaid :=
  OpenClaim.holds_of_wide 3 Try.f3 rfl rfl rfl rfl rfl rfl rfl ⟨rfl, rfl, rfl, rfl, rfl⟩ rfl rfl rfl rfl rfl (by kernel_rfl) Try.func3 (by kernel_rfl)
    (of_decide_eq_true (by kernel_rfl)) (by unfold Func.isWrapper; first | (rw [if_pos (by decide +kernel)]; kernel_rfl) | (rw [if_neg (by decide +kernel)]; exact ⟨rfl, rfl⟩))
    (fun os started H enc _ => figureword_lifted os started H enc)
end Go.Proofs.Ytgoekampndcinaa
