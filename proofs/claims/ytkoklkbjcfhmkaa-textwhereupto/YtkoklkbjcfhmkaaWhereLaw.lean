import Derived.Test.YtkoklkbjcfhmkaaRefWhere
import Derived.ProofKit
import Derived.OpenShut
import Derived.ShutString
import Derived.JoinedCond
namespace Go.Proofs.Ytkoklkbjcfhmkaa
open Go.ChangeShapes Go.WideShapes Go.ChangeAt Go.RowKit
open Go.ChangeMaps (open_string shut_string)

theorem bg_same (s : ByteArray) (a b : Nat) (hab : a ≤ b) (h : ∀ i, a ≤ i → i < b → bt s i ≠ 10) : bg s b = bg s a := by
  induction b with
  | zero => obtain rfl : a = 0 := by omega
            rfl
  | succ b ih =>
    by_cases e : a = b + 1
    · rw [e]
    · have := h b (by omega) (by omega)
      rw [bg, if_neg this, ih (by omega) (fun i h1 h2 => h i h1 (by omega))]
theorem bg_ge (s : ByteArray) (a b : Nat) (hab : a < b) (h : bt s a = 10) : a + 1 ≤ bg s b := by
  induction b with
  | zero => omega
  | succ b ih =>
    rw [bg]
    split
    · omega
    · rename_i hne
      by_cases e : a = b
      · subst e; exact absurd h hne
      · exact ih (by omega)
theorem bg_ten (s : ByteArray) (b : Nat) (h : 0 < bg s b) : bt s (bg s b - 1) = 10 := by
  induction b with
  | zero => simp [bg] at h
  | succ b ih =>
    rw [bg] at h ⊢
    split
    · rename_i h10; simpa using h10
    · rename_i h10; rw [if_neg h10] at h; exact ih h

theorem count_past (s : ByteArray) (a p : Nat) : ∀ f pos, p ≤ pos → (cutsFrom s f pos).countP (inR a p) = 0
  | 0, _, _ => by simp [cutsFrom]
  | f + 1, pos, h => by
    by_cases hl : pos < s.size
    · rw [cutsFrom_step s f pos hl, List.countP_cons, count_past s a p f _ (by have := wid_pos s pos; omega)]
      have : inR a p (cutAt s pos hl) = false := by
        have e : inR a p (cutAt s pos hl) = (decide (a ≤ pos) && decide (pos < p)) := rfl
        rw [e]
        have : decide (pos < p) = false := by simp; exact h
        rw [this, Bool.and_false]
      simp [this]
    · rw [cutsFrom_end s _ pos hl]; rfl

theorem col_from (s : ByteArray) (p : Nat) (hp : p ≤ s.size) : ∀ (f pos : Nat) (q : Int × Int), s.size ≤ pos + f → pos ≤ p →
    (((cutsFrom s f pos).takeWhile (fun x => decide (x.1.1 < p))).foldl lcStep q).2 = (if bg s p ≤ pos then q.2 else 1) + ((cutsFrom s f pos).countP (inR (bg s p) p) : Int) := by
  intro f
  have hbp := bg_le s p
  induction f with
  | zero =>
    intro pos q h1 h2
    obtain rfl : pos = p := by omega
    rw [take_none s 0 pos pos (Nat.le_refl _), if_pos hbp]
    simp [cutsFrom]
  | succ f ih =>
    intro pos q h1 h2
    by_cases he : pos = p
    · subst he
      rw [take_none s _ pos pos (Nat.le_refl _), if_pos hbp, count_past s _ pos _ pos (Nat.le_refl _)]
      simp
    · have hl : pos < s.size := by omega
      rw [take_one s f pos p hl (by omega), List.foldl_cons, step_num s pos hl, cutsFrom_step s f pos hl, List.countP_cons]
      have hin : inR (bg s p) p (cutAt s pos hl) = (decide (bg s p ≤ pos) && decide (pos < p)) := rfl
      have hpp : decide (pos < p) = true := by simp; omega
      rw [hin, hpp, Bool.and_true]
      have hw := wid_pos s pos
      by_cases h10 : bt s pos = 10
      · have hge := bg_ge s pos p (by omega) h10
        have hw1 := (dec_low s pos hl (by omega)).1
        rw [if_pos h10, hw1, ih (pos + 1) _ (by omega) (by omega)]
        rw [if_neg (show ¬ bg s p ≤ pos by omega)]
        simp only [ite_self]
        have : decide (bg s p ≤ pos) = false := by simp; omega
        rw [this]
        simp
      · rw [if_neg h10]
        have hno : ∀ i, pos ≤ i → i < pos + wid s pos → bt s i ≠ 10 := by
          intro i i1 i2
          by_cases hb : bt s pos < 128
          · have := (dec_low s pos hl hb).1
            obtain rfl : i = pos := by omega
            exact h10
          · have := (dec_high s pos hl (by omega)).2.2 (i - pos) (by omega)
            rw [show pos + (i - pos) = i by omega] at this
            omega
        by_cases hpw : p < pos + wid s pos
        · have hs := bg_same s pos p (by omega) (fun i i1 i2 => hno i i1 (by omega))
          have hbl := bg_le s pos
          rw [take_none s f _ p (by omega), count_past s _ p _ _ (by omega)]
          have hle : bg s p ≤ pos := by omega
          rw [if_pos hle]
          simp [hle]
        · rw [ih (pos + wid s pos) _ (by omega) (by omega)]
          by_cases hle : bg s p ≤ pos
          · rw [if_pos hle, if_pos (by omega)]
            simp only [hle, decide_true, if_true]
            push_cast
            omega
          · have hgt : ¬ bg s p ≤ pos + wid s pos := by
              intro hc
              have := bg_ten s p (by omega)
              exact hno (bg s p - 1) (by omega) (by omega) this
            rw [if_neg hle, if_neg hgt]
            simp [hle]

theorem col_eq (s : ByteArray) (p : Nat) (hp : p ≤ s.size) : (whereOf s p).2 = ((cuts s).countP (inR (bg s p) p) : Int) + 1 := by
  have := col_from s p hp s.size 0 (1, 1) (by omega) (by omega)
  unfold whereOf lc
  unfold cuts
  rw [this]
  simp only [ite_self]
  omega

set_option maxRecDepth 100000 in
set_option maxHeartbeats 1000000 in
theorem wlaw_any (s : ByteArray) (x : Int) (w : World) (hs : s.size ≤ 1048576) :
    Calls Try.prog 3 #[.string s, .int .i64 x] w fun e w' => e = .returned (.bool true) ∧ Below w.heap.size w w' := by
  by_cases hx : 0 ≤ x ∧ x ≤ s.size
  · obtain ⟨p, hp⟩ := Int.eq_ofNat_of_zero_le hx.1
    subst hp
    have hps : p ≤ s.size := by omega
    have H1 : Hid ((whereOf s p).1 = (nl s p : Int) + 1) := by rw [Hid, where_line s p hps, Int.add_comm]
    have H2 : Hid ((whereOf s p).2 = ((cuts s).countP (inR (bg s p) p) : Int) + 1) := col_eq s p hps
    clear hx
    go_enter Try.func3, Try.ntmps3
    go_wp2_with fail
    refine (where_any s p _ (by omega) hps).mono ?_
    rintro e w1 ⟨rfl, hb1⟩
    rw [H1.out, H2.out]
    have hz1 := hb1.size
    go_wp2_with fail
    refine (rwhere_any s p _ hs hps).mono ?_
    rintro e w2 ⟨rfl, hb2⟩
    have hb12 := hb1.trans (hb2.mono hz1)
    go_wp2
    go_ret
    exact ⟨rfl, hb12⟩
  · have hbad : x < 0 ∨ (s.size : Int) < x := by omega
    have HB : Hid (x < 0 ∨ (s.size : Int) < x) := hbad
    clear hx hbad
    go_enter Try.func3, Try.ntmps3
    go_wp2_with fail
    refine (where_bad s x _ HB.out).mono ?_
    rintro e w1 ⟨rfl, hb1⟩
    go_wp2_with fail
    refine (rwhere_bad s x _ HB.out).mono ?_
    rintro e w2 ⟨rfl, hw⟩
    subst hw
    go_wp2
    go_ret
    exact ⟨rfl, hb1⟩

theorem Try.own : ownKnob Try.prog.godebug = none := by kernel_rfl

theorem where_contract (H : Type) (enc : TypeId × Value → H) (W : World) (base : Nat) (args : Array Value) (ds gs : List (DataW H)) (before : List MemPlace)
    (hval : ∀ (j : Nat) t v, Try.f3.params[j]? = some t → args[j]? = some v → Value.okWide Try.prog W .any base t v)
    (hW : DataW.Whole enc Try.prog Try.f3.params.toList Rows.textWhereSpec.vars false W args.toList ds gs before) (hk : Rows.uptoSmall H (ds ++ gs) = true) :
    Calls Try.prog 3 args W fun e W' => ∃ v, e = .returned v ∧ Rows.textWhereSpec.post enc Try.prog Try.f3 false true false false W args v W' := by
  have hW' := hW
  obtain ⟨p, q, hA0, hV, rfl, hfz, hnd⟩ := hW
  have hA : DataW.TrodAll enc Try.prog W 0 (fun _ => true) true Try.f3.params.toList args.toList ds p := hA0
  rw [Try.params3] at hA hval
  obtain ⟨v0, vs0, d0, ds0, p0, q0, hargs, rfl, rfl, h0, r0⟩ := trodAll_cons hA
  obtain ⟨v1, vs1, d1, ds1, p1, q1, rfl, rfl, rfl, h1, r1⟩ := trodAll_cons r0
  obtain ⟨rfl, rfl, rfl⟩ := trodAll_nil r1
  obtain rfl : args = #[v0, v1] := by cases args; simp_all
  obtain ⟨rfl, rfl⟩ := trodVars_none hV
  obtain ⟨a0, rfl, rfl, rfl, w0⟩ := open_string Try.underlying9 (hval 0 9 v0 rfl rfl) h0
  obtain ⟨a1, rfl, rfl, rfl, w1⟩ := open_int Try.underlying3 (hval 1 3 v1 rfl rfl) h1
  clear hA0
  simp only [List.append_nil] at hW' hk
  have hs : a0.size ≤ 1048576 := by
    have h : Rows.uptoBulkAll [DataW.lit (H := H) (.string a0.data.toList), DataW.lit (.int .i64 a1)] ≤ 1048576 := of_decide_eq_true hk
    simp only [Rows.uptoBulkAll, Rows.uptoBulk] at h
    have e : a0.data.toList.length = a0.size := by rw [Array.length_toList]; rfl
    omega
  refine (wlaw_any a0 a1 W hs).mono fun e W' ⟨he, hnx⟩ => ?_
  subst he
  refine ⟨_, rfl, _, _, _, [], [], [], hW', ?_, ?_, rfl, hnx.frame _, fun h => by cases h⟩
  · exact trodAll_cons_mk (shut_bool Try.underlying4 _) trodAll_mk0
  · exact trodAll_cons_mk (shut_string Try.underlying9 w0) (trodAll_cons_mk (shut_int Try.underlying3 w1) trodAll_mk0)

set_option maxRecDepth 100000 in
theorem where_lifted (os : Os) (started : os.Started) (H : Type) (enc : TypeId × Value → H) (F : Stop.Interp) :
    ReturnsInHanded {} Try.checked os 3 .any ((Rows.OpenSpec.upto Rows.textWhereSpec).pre6 enc Try.prog Try.f3 Rows.textWhereUptoRow.domain false) (((Rows.OpenSpec.upto Rows.textWhereSpec).at F).post enc Try.prog Try.f3 false true false false) := by
  refine returnsInHanded_of_cond (C := Try.checked) (s := Rows.OpenSpec.upto Rows.textWhereSpec) (k := Rows.uptoSmall) rfl Try.own started (by kernel_rfl) Try.func3
    (OpenSpec.witness (enc := enc) (C := Try.checked) (s := Rows.OpenSpec.upto Rows.textWhereSpec) (k := Rows.uptoSmall) rfl false ⟨#[], #[.string .empty, .int .i64 0], []⟩ 8 (by kernel_rfl) (by kernel_rfl) (by kernel_rfl)
      (x := ([.lit (.string []), .lit (.int .i64 0)], [], [])) (by kernel_rfl) rfl (by kernel_rfl)) ?_
  intro W base args ds gs before hval hW _ hk _
  exact where_contract H enc W base args ds gs before hval hW hk

theorem where_holds : Rows.TextWhereUptoSaid :=
  OpenClaim.holds_of_cond 3 Try.f3 rfl rfl rfl rfl rfl rfl rfl ⟨rfl, rfl, rfl, rfl, rfl⟩ rfl rfl rfl rfl rfl (by kernel_rfl) Try.func3 (by kernel_rfl)
    (of_decide_eq_true (by kernel_rfl)) (by unfold Func.isWrapper; first | (rw [if_pos (by decide +kernel)]; kernel_rfl) | (rw [if_neg (by decide +kernel)]; exact ⟨rfl, rfl⟩))
    (fun os started H enc _ F => where_lifted os started H enc F)
end Go.Proofs.Ytkoklkbjcfhmkaa
