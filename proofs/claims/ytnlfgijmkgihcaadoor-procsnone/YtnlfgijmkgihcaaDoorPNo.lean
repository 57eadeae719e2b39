import Derived.Test.YtnlfgijmkgihcaaDoorPNl
import Derived.LaidEqlPtr
import Derived.LoopNIn
namespace Go.Proofs.YtnlfgijmkgihcaaDoor
open Go.RowKit Go.WideShapes Go.Shelf
set_option maxRecDepth 100000

theorem run_eql_nilP {P : Program} {tp te : TypeId} (b : Addr) (w : World) (hp : P.underlying tp = some (.pointer te)) : (binOp .eql tp (.pointer none) (.pointer (some b))).run P w = .ok (.bool false) w := by
  have h : ∀ d : Nat, (Op.equalIn (d + 1) tp (.pointer none) (.pointer (some b))).run P w = .ok false w := fun d => by
    simp [Op.equalIn, run_underlying hp]
  simp only [binOp]
  simp [Op.equal, Op.maxDepth, h 9999]
/-- nil, or what was not made -/
def NoP (w : World) (v : Value) : Prop := v = .pointer none ∨ ∃ b, v = .pointer (some ⟨b, 0, none⟩) ∧ w.cell? ⟨b, 0, none⟩ = some (.pointer none)
theorem NoP.below {w w' : World} {v : Value} (h : NoP w v) (hb : Below w.heap.size w w') : NoP w' v := by
  rcases h with h | ⟨b, h1, h2⟩
  · exact .inl h
  · have hlt : b < w.heap.size := by
      by_cases hp : b < w.heap.size
      · exact hp
      · have : w.heap[b]? = none := Array.getElem?_eq_none (by omega)
        simp [World.cell?, this] at h2
    exact .inr ⟨b, h1, (hb.cell (p := ⟨b, 0, none⟩) hlt).trans h2⟩
theorem pmade_no (v : Value) (w : World) (h : NoP w v) :
    Calls Tryd.prog 34 #[v] w fun e w' => e = .returned (.bool false) ∧ w' = w := by
  rcases h with rfl | ⟨b, rfl, hc⟩
  · go_enter Tryd.func34, Tryd.ntmps34
    go_wp2
    go_ret
    exact ⟨rfl, rfl⟩
  · have he := run_eql_nilP ⟨b, 0, none⟩ w Tryd.underlying23
    go_enter Tryd.func34, Tryd.ntmps34
    go_wp2
    go_ret
    exact ⟨rfl, rfl⟩
theorem smade_no (v : Value) (w : World) (h : NoP w v) :
    Calls Tryd.prog 41 #[v] w fun e w' => e = .returned (.bool false) ∧ w' = w := by
  rcases h with rfl | ⟨b, rfl, hc⟩
  · go_enter Tryd.func41, Tryd.ntmps41
    go_wp2
    go_ret
    exact ⟨rfl, rfl⟩
  · have he := run_eql_nilP ⟨b, 0, none⟩ w Tryd.underlying42
    go_enter Tryd.func41, Tryd.ntmps41
    go_wp2
    go_ret
    exact ⟨rfl, rfl⟩
theorem pheld_no (v : Value) (w : World) (h : NoP w v) :
    Calls Tryd.prog 31 #[v] w fun e w' => e = .returned (.slice none 0 0) ∧ w' = w := by
  have hM := pmade_no v w h
  go_enter Tryd.func31, Tryd.ntmps31
  go_wp2_with (go_at_call 34; refine hM.mono ?_; rintro e w2 ⟨rfl, hw2⟩; subst hw2)
  go_ret
  exact ⟨rfl, rfl⟩
theorem pcount_no (v : Value) (w : World) (h : NoP w v) :
    Calls Tryd.prog 7 #[v] w fun e w' => e = .returned (.int .i64 0) ∧ w' = w := by
  have hM := pheld_no v w h
  go_enter Tryd.func7, Tryd.ntmps7
  go_wp2_with (go_at_call 31; refine hM.mono ?_; rintro e w2 ⟨rfl, hw2⟩; subst hw2)
  go_ret
  exact ⟨rfl, rfl⟩
theorem pbegins_no (v : Value) (i : Int) (w : World) (h : NoP w v) :
    Calls Tryd.prog 9 #[v, .int .u32 i] w fun e w' => e = .returned (.bool false) ∧ w' = w := by
  have hM := pmade_no v w h
  go_enter Tryd.func9, Tryd.ntmps9
  go_wp2_with (go_at_call 34; refine hM.mono ?_; rintro e w2 ⟨rfl, hw2⟩; subst hw2)
  go_ret
  exact ⟨rfl, rfl⟩
theorem plegal_no (v : Value) (i j : Int) (w : World) (h : NoP w v) :
    Calls Tryd.prog 10 #[v, .int .u32 i, .int .u32 j] w fun e w' => e = .returned (.bool false) ∧ w' = w := by
  have hM := pmade_no v w h
  go_enter Tryd.func10, Tryd.ntmps10
  go_wp2_with (go_at_call 34; refine hM.mono ?_; rintro e w2 ⟨rfl, hw2⟩; subst hw2)
  go_ret
  exact ⟨rfl, rfl⟩
theorem sheld_no (v : Value) (w : World) (h : NoP w v) :
    Calls Tryd.prog 42 #[v] w fun e w' => e = .returned (.slice none 0 0) ∧ w' = w := by
  have hM := smade_no v w h
  go_enter Tryd.func42, Tryd.ntmps42
  go_wp2_with (go_at_call 41; refine hM.mono ?_; rintro e w2 ⟨rfl, hw2⟩; subst hw2)
  go_ret
  exact ⟨rfl, rfl⟩
theorem slen_no (v : Value) (w : World) (h : NoP w v) :
    Calls Tryd.prog 17 #[v] w fun e w' => e = .returned (.int .i64 0) ∧ w' = w := by
  have hM := smade_no v w h
  go_enter Tryd.func17, Tryd.ntmps17
  go_wp2_with (go_at_call 41; refine hM.mono ?_; rintro e w2 ⟨rfl, hw2⟩; subst hw2)
  go_ret
  exact ⟨rfl, rfl⟩
theorem sfor_no (v : Value) (i : Int) (w : World) (h : NoP w v) :
    Calls Tryd.prog 39 #[v, .int .i64 i] w fun e w' => e = .returned (.bool false) ∧ w' = w := by
  have hM := smade_no v w h
  go_enter Tryd.func39, Tryd.ntmps39
  go_wp2_with (go_at_call 41; refine hM.mono ?_; rintro e w2 ⟨rfl, hw2⟩; subst hw2)
  go_ret
  exact ⟨rfl, rfl⟩
theorem shas_no (v : Value) (i : Int) (w : World) (h : NoP w v) :
    Calls Tryd.prog 16 #[v, .int .i64 i] w fun e w' => e = .returned (.bool false) ∧ w' = w := by
  have hM := sfor_no v i w h
  go_enter Tryd.func16, Tryd.ntmps16
  go_wp2_with (go_at_call 39; refine hM.mono ?_; rintro e w2 ⟨rfl, hw2⟩; subst hw2)
  go_ret
  exact ⟨rfl, rfl⟩
theorem sdrop_no (v : Value) (i : Int) (w : World) (h : NoP w v) :
    Calls Tryd.prog 15 #[v, .int .i64 i] w fun e w' => e = .returned (.bool false) ∧ w' = w := by
  have hM := shas_no v i w h
  go_enter Tryd.func15, Tryd.ntmps15
  go_wp2_with (go_at_call 16; refine hM.mono ?_; rintro e w2 ⟨rfl, hw2⟩; subst hw2)
  go_ret
  exact ⟨rfl, rfl⟩
theorem sadd_no (v : Value) (i : Int) (w : World) (h : NoP w v) :
    Calls Tryd.prog 14 #[v, .int .i64 i] w fun e w' => e = .returned (.bool false) ∧ w' = w := by
  have hM := sfor_no v i w h
  go_enter Tryd.func14, Tryd.ntmps14
  go_wp2_with (go_at_call 39; refine hM.mono ?_; rintro e w2 ⟨rfl, hw2⟩; subst hw2)
  go_ret
  exact ⟨rfl, rfl⟩
theorem pproc_no (v : Value) (i : Int) (w : World) (h : NoP w v) :
    Calls Tryd.prog 6 #[v, .int .i64 i] w fun e w' => e = .returned (.tuple #[.agg #[.int .u32 0, .int .u32 0, .int .u32 0, .int .i64 0], .bool false]) ∧ Below w.heap.size w w' := by
  have hM := fun W hb => pcount_no v W (h.below hb)
  have HM := hidS hM
  by_cases hi : i < 0
  · go_enter Tryd.func6, Tryd.ntmps6
    go_wp2_with (go_at_call 7; refine (HM.out _ (belP (Below.refl _ _))).mono ?_; rintro e w2 ⟨rfl, hw2⟩; subst hw2)
    exact bodyPost_ret (v := .tuple #[.agg #[.int .u32 0, .int .u32 0, .int .u32 0, .int .i64 0], .bool false]) (by simp [results, Tryd.f6, go_sem]) rfl ⟨rfl, belP (Below.refl _ _)⟩
  · have hi2 : 0 ≤ i := by omega
    go_enter Tryd.func6, Tryd.ntmps6
    go_wp2_with (go_at_call 7; refine (HM.out _ (belP (Below.refl _ _))).mono ?_; rintro e w2 ⟨rfl, hw2⟩; subst hw2)
    exact bodyPost_ret (v := .tuple #[.agg #[.int .u32 0, .int .u32 0, .int .u32 0, .int .i64 0], .bool false]) (by simp [results, Tryd.f6, go_sem]) rfl ⟨rfl, belP (Below.refl _ _)⟩
theorem ptargets_no (v : Value) (i : Int) (w : World) (h : NoP w v) :
    Calls Tryd.prog 11 #[v, .int .i64 i] w fun e w' => e = .returned (.slice none 0 0) ∧ Below w.heap.size w w' := by
  have HM := hidS (fun W hb => pproc_no v i W (h.below hb))
  go_enter Tryd.func11, Tryd.ntmps11
  go_wp2_with (go_at_call 6; refine (HM.out _ (Below.refl _ _)).mono ?_; rintro e w2 ⟨rfl, hw2⟩)
  go_ret
  exact ⟨rfl, belP hw2⟩
theorem search0 (f : Value) (w : World) :
    Calls Tryd.prog 32 #[.int .i64 0, f] w fun e w' => e = .returned (.int .i64 0) ∧ w' = w := by
  go_enter Tryd.func32, Tryd.ntmps32
  go_wp2
  refine wp_loop_once ?_
  go_wp2
  go_ret
  exact ⟨rfl, rfl⟩
theorem pof_no (v : Value) (i : Int) (w : World) (h : NoP w v) :
    Calls Tryd.prog 8 #[v, .int .u32 i] w fun e w' => e = .returned (.int .i64 (-1)) ∧ Below w.heap.size w w' := by
  have HM := hidS (fun W hb => pheld_no v W (h.below hb))
  have HS := hidS search0
  go_enter Tryd.func8, Tryd.ntmps8
  go_wp2_with (first | (go_at_call 31; refine (HM.out _ (belP (Below.refl _ _))).mono ?_; rintro e w2 ⟨rfl, hw2⟩; subst hw2) | (go_at_call 32; refine (HS.out _ _).mono ?_; rintro e w2 ⟨rfl, hw2⟩; subst hw2))
  go_ret
  exact ⟨rfl, belP (belP (Below.refl _ _))⟩
theorem pall_no (v : Value) (w : World) (h : NoP w v) :
    Calls Tryd.prog 12 #[v] w fun e w' => ∃ b, e = .returned (.func (.func 38) #[] #[.pointer (some ⟨b, 0, none⟩)]) ∧ w.heap.size ≤ b ∧ Boxed w' b 24 (.slice none 0 0) ∧ Below w.heap.size w w' := by
  have HM := hidS (fun W hb => pheld_no v W (h.below hb))
  go_enter Tryd.func12, Tryd.ntmps12
  go_wp2_with (go_at_call 31; refine (HM.out _ (Below.refl _ _)).mono ?_; rintro e w2 ⟨rfl, hw2⟩; have hw2 := hw2.symm; subst hw2)
  go_ret
  exact ⟨_, rfl, Nat.le_refl _, Boxed.new _ _ _, belP (Below.refl _ _)⟩
theorem equal0 (a1 a2 : Option Addr) (c1 c2 : Nat) (w : World) :
    Calls Tryd.prog 43 #[.slice a1 0 c1, .slice a2 0 c2] w fun e w' => e = .returned (.bool true) ∧ ∃ m, w' = w.drewN m := by
  go_enter Tryd.func43, Tryd.ntmps43
  go_wp2
  refine wp_loop_once ?_
  go_wp2
  go_ret
  exact ⟨rfl, 0, rfl⟩
theorem nought0 (w : World) :
    Calls Tryd.prog 44 #[.slice none 0 0] w fun e w' => e = .returned (.bool true) ∧ w' = w := by
  have hI : Calls Tryd.prog 63 #[.slice none 0 0, .func (.func 59) #[] #[]] w fun e w' => e = .returned (.int .i64 (-1)) ∧ w' = w := by
    go_enter Tryd.func63, Tryd.ntmps63
    go_wp2
    refine wp_loop_once ?_
    go_wp2
    go_ret
    exact ⟨rfl, rfl⟩
  have hC : Calls Tryd.prog 58 #[.slice none 0 0, .func (.func 59) #[] #[]] w fun e w' => e = .returned (.bool false) ∧ w' = w := by
    go_enter Tryd.func58, Tryd.ntmps58
    go_wp2_with (go_at_call 63; refine hI.mono ?_; rintro e w2 ⟨rfl, hw2⟩; subst hw2)
    go_ret
    exact ⟨rfl, rfl⟩
  clear hI
  go_enter Tryd.func44, Tryd.ntmps44
  go_wp2_with (go_at_call 58; refine hC.mono ?_; rintro e w2 ⟨rfl, hw2⟩; subst hw2)
  go_ret
  exact ⟨rfl, rfl⟩
theorem same_nn (v : Value) (w : World) (h : NoP w v) :
    Calls Tryd.prog 18 #[v, .pointer none] w fun e w' => e = .returned (.bool true) ∧ Dr w w' := by
  have hH1 := sheld_no v w h
  have hH2 := sheld_no (.pointer none) w (.inl rfl)
  have HE := hidS (fun W => equal0 none none 0 0 W)
  have HN := hidS (fun W => nought0 W)
  go_enter Tryd.func18, Tryd.ntmps18
  go_wp2_with (first | (go_at_call 42; first | (with_reducible refine hH1.mono ?_; rintro e w2 ⟨rfl, hw2⟩; subst hw2) | (with_reducible refine hH2.mono ?_; rintro e w2 ⟨rfl, hw2⟩; subst hw2)))
  go_quiet (first | (with_reducible refine Calls.quiet_of (HE.out _)) | (with_reducible refine Calls.quiet_of_same (HN.out _)))
  go_wp2
  all_goals
    go_ret
    exact ⟨rfl, Dr.n _ _⟩
theorem same_nf (v : Value) (p g b n : Nat) (x : Nat) (w : World) (h : NoP w v) (h2 : SetRI w p g b [x] n) (hx : x ≠ 0) :
    Calls Tryd.prog 18 #[v, .pointer (some ⟨p, 0, none⟩)] w fun e w' => e = .returned (.bool false) ∧ Dr w w' := by
  have hH1 := sheld_no v w h
  have hH2 := held_anyI p g b n [x] w h2
  have HE := hidS (fun W => equal0 none (some ⟨g, 0, none⟩) 0 1 W)
  have HN := hidS (fun W => nought0 W)
  have HN2 : Hid (∀ W, Dr w W → Calls Tryd.prog 44 #[.slice (some ⟨g, 0, none⟩) 1 1] W fun e w' => e = .returned (.bool false) ∧ w' = W) := hidS (fun W hW => by
    have := nought_any g 0 1 [x] W (by simp) (hW.setI h2).reads
    rw [show nilW [x] = false by simp [nilW, hx]] at this
    exact this)
  simp only [List.length_cons, List.length_nil, Nat.zero_add] at hH2
  go_enter Tryd.func18, Tryd.ntmps18
  go_wp2_with (first | (go_at_call 42; first | (with_reducible refine hH1.mono ?_; rintro e w2 ⟨rfl, hw2⟩; subst hw2) | (with_reducible refine hH2.mono ?_; rintro e w2 ⟨rfl, hw2⟩; subst hw2)))
  go_quiet (first | (with_reducible refine Calls.quiet_of (HE.out _)) | (with_reducible refine Calls.quiet_of_same (HN.out _)) | (with_reducible refine Calls.quiet_of_same (HN2.out _ (Dr.n _ _))))
  go_wp2
  all_goals
    go_ret
    exact ⟨rfl, Dr.n _ _⟩
theorem same_fn (v : Value) (p g b n : Nat) (x : Nat) (w : World) (h : NoP w v) (h2 : SetRI w p g b [x] n) (hx : x ≠ 0) :
    Calls Tryd.prog 18 #[.pointer (some ⟨p, 0, none⟩), v] w fun e w' => e = .returned (.bool false) ∧ Dr w w' := by
  have hH1 := sheld_no v w h
  have hH2 := held_anyI p g b n [x] w h2
  have HE := hidS (fun W => equal0 (some ⟨g, 0, none⟩) none 1 0 W)
  have HN := hidS (fun W => nought0 W)
  have HN2 : Hid (∀ W, Dr w W → Calls Tryd.prog 44 #[.slice (some ⟨g, 0, none⟩) 1 1] W fun e w' => e = .returned (.bool false) ∧ w' = W) := hidS (fun W hW => by
    have := nought_any g 0 1 [x] W (by simp) (hW.setI h2).reads
    rw [show nilW [x] = false by simp [nilW, hx]] at this
    exact this)
  simp only [List.length_cons, List.length_nil, Nat.zero_add] at hH2
  go_enter Tryd.func18, Tryd.ntmps18
  go_wp2_with (first | (go_at_call 42; first | (with_reducible refine hH1.mono ?_; rintro e w2 ⟨rfl, hw2⟩; subst hw2) | (with_reducible refine hH2.mono ?_; rintro e w2 ⟨rfl, hw2⟩; subst hw2)))
  go_quiet (first | (with_reducible refine Calls.quiet_of (HE.out _)) | (with_reducible refine Calls.quiet_of_same (HN.out _)) | (with_reducible refine Calls.quiet_of_same (HN2.out _ (Dr.n _ _))))
  go_wp2
  all_goals
    go_ret
    exact ⟨rfl, Dr.n _ _⟩
end Go.Proofs.YtnlfgijmkgihcaaDoor
