import Derived.Test.YtgbpfejodpplbaaGreatDoorCFHp
import Derived.Test.YtgbpfejodpplbaaGreatDoorCPPr
namespace Go.Proofs.YtgbpfejodpplbaaGreatDoor
open Go.RowKit Go.WideShapes Go.Shelf
set_option maxRecDepth 100000

theorem Kp.drewN {S : Nat → Prop} {a b : World} (h : Kp S a b) (n : Nat) : Kp S a (b.drewN n) := ⟨h.os, h.tape, h.output, h.size, h.block⟩
theorem Kp.drewL {S : Nat → Prop} {a b : World} {n : Nat} (h : Kp S (a.drewN n) b) : Kp S a b := ⟨h.os, h.tape, h.output, h.size, h.block⟩
theorem drewN_two (w : World) (a b : Nat) : (w.drewN a).drewN b = w.drewN (a + b) := by
  induction b with
  | zero => rfl
  | succ b ih => exact congrArg World.drew ih
theorem push_any {B kw g cap : Nat} {Wt : List Nat} (x : Nat) (w : World) (hl : Wt.length ≤ 1000000) (hB : B ≤ w.heap.size) (h : HpW w B kw g cap Wt) :
    Calls Tryz.prog 146 #[.pointer (some ⟨kw, 0, none⟩), .iface 25 (.int .u32 x)] w fun e w' => (∃ v, e = .returned v) ∧ ∃ g' cap', HpW w' B kw g' cap' (Wt ++ [x]) ∧ (g' = g ∨ w.heap.size ≤ g') ∧ Kp (fun k => k = g ∨ k = kw) w w' := by
  refine (callsIn_wide (n := 30)).1 ?_
  refine callsIn_of_wp Tryz.func146 rfl trivial ?_ rfl
  simp only [Tryz.ntmps146, List.size_toArray, List.length_cons, List.length_nil, Nat.reduceAdd, Nat.reduceSub, Array.replicate_succ, Array.replicate_zero, List.push_toArray, List.append_toArray, List.nil_append, List.cons_append]
  refine push_lay B kw g cap x Wt hl hB h h.bx.lt (by rintro c a (_ | d) v w h <;> exact h) ?_
  intro a' g' cap' w' hd h1 h2 h3
  obtain ⟨ts, ds⟩ := a'
  simp only at hd
  subst hd
  exact bodyPost_end (results_none rfl _ _ _) rfl ⟨⟨_, rfl⟩, g', cap', h1, h2, h3⟩
theorem wlen_any (ao : Option Addr) (n cap : Nat) (w : World) : Calls Tryz.prog 81 #[.slice ao n cap] w fun e w' => e = .returned (.int .i64 n) ∧ w' = w := by
  go_enter Tryz.func81, Tryz.ntmps81
  go_wp2
  go_ret
  exact ⟨rfl, rfl⟩
theorem HpW.cut {w : World} {B kw g cap : Nat} {Wt : List Nat} {x : Nat} (h : HpW w B kw g cap (Wt ++ [x])) : HpW (w.setCell ⟨kw, 0, none⟩ (.slice (some ⟨g, 0, none⟩) Wt.length cap)) B kw g cap Wt := by
  have hne := h.ne
  refine ⟨h.bx.set _, ?_⟩
  refine (Kp.setCell (S := fun k => k = kw) w ⟨kw, 0, none⟩ _ rfl).own ?_ (fun k e => by cases e; exact fun q => hne q.symm)
  rcases h.row with ⟨hl, ⟨hn, _⟩ | ⟨g', cap', cur', e1, e2, e3, e4, e5, e6, e7⟩⟩
  · cases hn
  · cases e1
    refine ⟨by simp [dv], .inr ⟨g, cap, cur', rfl, e2, e3, by simp at e4; omega, e5, e6, ?_⟩⟩
    have := congrArg (List.take Wt.length) e7
    rw [List.take_take, List.length_append, dv_snoc, List.take_append_of_le_length (by simp [dv]), List.take_of_length_le (l := dv Wt) (by simp [dv]), List.length_singleton, Nat.mul_one, Nat.min_eq_left (by omega)] at this
    rw [Nat.mul_one]
    exact this
set_option maxHeartbeats 1000000 in
theorem popm_any {B kw g cap : Nat} {Wt : List Nat} {x : Nat} (w : World) (hl : Wt.length ≤ 1000000) (h : HpW w B kw g cap (Wt ++ [x])) :
    Calls Tryz.prog 145 #[.pointer (some ⟨kw, 0, none⟩)] w fun e w' => e = .returned (.iface 25 (.int .u32 x)) ∧ HpW w' B kw g cap Wt ∧ Kp (fun k => k = kw) w w' ∧ w'.heap.size = w.heap.size := by
  have c0 := h.bx.cell
  have f0 := h.bx.frozen
  have c1 := h.word (i := Wt.length) (by simp)
  have hx : (Wt ++ [x]).getD Wt.length 0 = x := by simp [List.getD_eq_getElem?_getD]
  rw [hx] at c1
  have hlen : (Wt ++ [x]).length = Wt.length + 1 := by simp
  rw [hlen] at c0
  have hcap : Wt.length + 1 ≤ cap := by
    rcases h.row with ⟨_, ⟨hn, _⟩ | ⟨g', cap', cur', e1, e2, e3, e4, e5⟩⟩
    · cases hn
    · cases e1
      simpa using e4
  have HF := hidS h.cut
  have hI : ((Wt.length + 1 : Nat) : Int) - 1 = (Wt.length : Int) := by omega
  generalize hm : Wt.length = m at *
  clear hx hlen h hm
  have hmk : (Instr.makeInterface 25 (.int .u32 (x : Int))).run Tryz.prog (w.setCell ⟨kw, 0, none⟩ (.slice (some ⟨g, 0, none⟩) m cap)) = .ok (.iface 25 (.int .u32 (x : Int))) (w.setCell ⟨kw, 0, none⟩ (.slice (some ⟨g, 0, none⟩) m cap)) := run_makeInterface _ 25 _ (by kernel_rfl)
  go_enter Tryz.func145, Tryz.ntmps145
  go_wp2
  go_ret
  exact ⟨rfl, HF.out, Kp.setCell _ _ _ rfl, by simp⟩
theorem swp_len (W : List Nat) (a b : Nat) : (swp W a b).length = W.length := by simp [swp]
theorem swp_get {W : List Nat} {a b : Nat} (ha : a < W.length) (hb : b < W.length) (i : Nat) : (swp W a b).getD i 0 = if i = b then W.getD a 0 else if i = a then W.getD b 0 else W.getD i 0 := by
  unfold swp
  rw [List.getD_eq_getElem?_getD, List.getElem?_set]
  by_cases h1 : b = i
  · subst h1
    simp [hb]
  · rw [if_neg h1, if_neg (fun e => h1 e.symm), List.getElem?_set]
    by_cases h2 : a = i
    · subst h2
      simp [ha]
    · rw [if_neg h2, if_neg (fun e => h2 e.symm), List.getD_eq_getElem?_getD]
theorem HpO.root {W : List Nat} (h : HpO W) : ∀ i, i < W.length → W.getD 0 0 ≤ W.getD i 0 := by
  intro i
  induction i using Nat.strongRecOn with
  | _ i ih =>
    intro hi
    by_cases h0 : i = 0
    · subst h0; exact Nat.le_refl _
    · have h1 := h i (by omega) hi
      have h2 := ih ((i - 1) / 2) (by omega) (by omega)
      omega
/-- a heap but for one word, which may be too little -/
structure UpI (W : List Nat) (k : Nat) : Prop where
  oth : ∀ i, 0 < i → i < W.length → i ≠ k → W.getD ((i - 1) / 2) 0 ≤ W.getD i 0
  chl : ∀ i, 0 < i → i < W.length → (i - 1) / 2 = k → 0 < k → W.getD ((k - 1) / 2) 0 ≤ W.getD i 0
theorem UpI.ofPush {W : List Nat} (h : HpO W) (x : Nat) : UpI (W ++ [x]) W.length := by
  have hg : ∀ i, i < W.length → (W ++ [x]).getD i 0 = W.getD i 0 := fun i hi => by rw [List.getD_eq_getElem?_getD, List.getElem?_append_left hi, List.getD_eq_getElem?_getD]
  refine ⟨fun i h1 h2 h3 => ?_, fun i h1 h2 h3 _ => ?_⟩
  · simp at h2
    rw [hg i (by omega), hg _ (by omega)]
    exact h i h1 (by omega)
  · simp at h2
    omega
theorem UpI.step {W : List Nat} {k p : Nat} (h : UpI W k) (hk : k < W.length) (hp : (k - 1) / 2 = p) (h0 : 0 < k) (hl : W.getD k 0 < W.getD p 0) : UpI (swp W p k) p := by
  have hpl : p < W.length := by omega
  have g := swp_get (W := W) hpl hk
  refine ⟨fun i h1 h2 h3 => ?_, fun i h1 h2 h3 h4 => ?_⟩
  · rw [swp_len] at h2
    rw [g, g]
    by_cases e1 : i = k
    · subst e1
      rw [if_pos rfl, if_neg (by omega), if_pos hp]
      omega
    · rw [if_neg e1, if_neg h3]
      by_cases e2 : (i - 1) / 2 = k
      · rw [if_pos e2]
        have := h.chl i h1 h2 e2 h0
        rw [hp] at this
        exact this
      · rw [if_neg e2]
        by_cases e3 : (i - 1) / 2 = p
        · rw [if_pos e3]
          have := h.oth i h1 h2 e1
          rw [e3] at this
          omega
        · rw [if_neg e3]
          exact h.oth i h1 h2 e1
  · rw [swp_len] at h2
    rw [g, g]
    have hpp : (p - 1) / 2 ≠ k ∧ (p - 1) / 2 ≠ p := by omega
    rw [if_neg hpp.1, if_neg hpp.2]
    have q1 := h.oth p h4 hpl (by omega)
    by_cases e1 : i = k
    · rw [if_pos e1]; exact q1
    · rw [if_neg e1, if_neg (by omega)]
      have q2 := h.oth i h1 h2 e1
      rw [h3] at q2
      omega
theorem UpI.fin {W : List Nat} {k : Nat} (h : UpI W k) (hk : k < W.length) (h2 : k = 0 ∨ ¬ W.getD k 0 < W.getD ((k - 1) / 2) 0) : HpO W := by
  intro i h1 hi
  by_cases e : i = k
  · subst e
    rcases h2 with e0 | e0
    · omega
    · omega
  · exact h.oth i h1 hi e
/-- the first n words are a heap but for one, which may be too great -/
structure DnI (W : List Nat) (k n : Nat) : Prop where
  oth : ∀ i, 0 < i → i < n → (i - 1) / 2 ≠ k → W.getD ((i - 1) / 2) 0 ≤ W.getD i 0
  chl : ∀ i, 0 < i → i < n → (i - 1) / 2 = k → 0 < k → W.getD ((k - 1) / 2) 0 ≤ W.getD i 0
theorem DnI.step {W : List Nat} {k n j : Nat} (h : DnI W k n) (hn : n ≤ W.length) (hj : j < n) (hjk : (j - 1) / 2 = k) (h0 : 0 < j) (hl : W.getD j 0 < W.getD k 0) (hm : ∀ i, 0 < i → i < n → (i - 1) / 2 = k → W.getD j 0 ≤ W.getD i 0) : DnI (swp W k j) j n := by
  have hkl : k < W.length := by omega
  have g := swp_get (W := W) hkl (show j < W.length by omega)
  refine ⟨fun i h1 h2 h3 => ?_, fun i h1 h2 h3 h4 => ?_⟩
  · rw [g, g, if_neg h3]
    by_cases e1 : i = j
    · subst e1
      rw [if_pos rfl, if_pos hjk]
      omega
    · rw [if_neg e1]
      by_cases e2 : (i - 1) / 2 = k
      · rw [if_pos e2, if_neg (by omega)]
        exact hm i h1 h2 e2
      · rw [if_neg e2]
        by_cases e3 : i = k
        · rw [if_pos e3]
          have := h.chl j h0 hj hjk (by omega)
          rw [e3]
          exact this
        · rw [if_neg e3]
          exact h.oth i h1 h2 e2
  · rw [g, g, if_neg (by omega), if_pos hjk, if_neg (by omega), if_neg (by omega)]
    have := h.oth i h1 h2 (by omega)
    rw [h3] at this
    exact this
theorem DnI.fin {W : List Nat} {k n : Nat} (h : DnI W k n) (hm : ∀ i, 0 < i → i < n → (i - 1) / 2 = k → W.getD k 0 ≤ W.getD i 0) : ∀ i, 0 < i → i < n → W.getD ((i - 1) / 2) 0 ≤ W.getD i 0 := by
  intro i h1 h2
  by_cases e : (i - 1) / 2 = k
  · rw [e]; exact hm i h1 h2 e
  · exact h.oth i h1 h2 e
set_option maxHeartbeats 1000000 in
theorem up_any {B kw g cap : Nat} (Wt : List Nat) (j : Nat) (w : World) (hl : Wt.length ≤ 1000000) (hj : j < Wt.length) (hu : UpI Wt j) (h : HpW w B kw g cap Wt) :
    Calls Tryz.prog 104 #[ifW kw, .int .i64 j] w fun e w' => (∃ v, e = .returned v) ∧ ∃ Wt', Wt'.Perm Wt ∧ HpO Wt' ∧ HpW w' B kw g cap Wt' ∧ Kp (fun k => k = g) w w' ∧ w'.heap.size = w.heap.size := by
  go_enter Tryz.func104, Tryz.ntmps104
  go_wp2
  go_loopw [1] (fun u wr => ∃ (k : Nat) (Wk : List Nat), u = .int .i64 k ∧ k < Wt.length ∧ Wk.Perm Wt ∧ UpI Wk k ∧ HpW wr B kw g cap Wk ∧ Kp (fun k => k = g) w wr ∧ wr.heap.size = w.heap.size)
    (fun u _ => (intOf u).toNat)
  case atStart => exact ⟨j, Wt, rfl, hj, List.Perm.refl _, hu, h, Kp.refl _ _, rfl⟩
  case round =>
    obtain ⟨k, Wk, rfl, hk, hp, hui, hW, hkp, hz⟩ := hrel
    have hlk := hp.length_eq
    have HUI := hidS hui
    have HKL : Hid (k < Wk.length) := hidS (by omega)
    clear h hu hui
    by_cases hk0 : k = 0
    · subst hk0
      have HHO := hidS (HUI.out.fin HKL.out (.inl rfl))
      go_wp2
      exact bodyPost_end (results_none rfl _ _ _) rfl ⟨⟨_, rfl⟩, Wk, hp, HHO.out, hW, hkp, hz⟩
    · obtain ⟨p, hpk, hpE, hpI⟩ : ∃ p : Nat, p < k ∧ (k - 1) / 2 = p ∧ ((k : Int) - 1).tdiv 2 = (p : Int) := ⟨(k - 1) / 2, by omega, rfl, by
        rw [show (k : Int) - 1 = ((k - 1 : Nat) : Int) by omega, Int.tdiv_eq_ediv_of_nonneg (by omega)]
        omega⟩
      have hne : ((p : Int) == (k : Int)) = false := beq_eq_false_iff_ne.2 (by omega)
      have c0 := hW.bx.cell
      have HLS := less_any k p wr (by omega) (by omega) hW
      have HSW := hidS (fun n => swap_any p k (wr.drewN n) (by omega) (by omega) (hW.drewN n))
      have hml := meth_less c0
      have hms := fun n => meth_swap (w := wr.drewN n) c0
      have HZ := hidS (And.intro hp (And.intro hkp hz))
      have HL2 : Hid (p < Wk.length ∧ k < Wk.length) := hidS (by omega)
      clear hlk
      have HPE := hidS hpE
      have HST : Hid (decide (Wk.getD k 0 < Wk.getD p 0) = true → UpI (swp Wk p k) p) := hidS (fun e => HUI.out.step HKL.out HPE.out (by omega) (of_decide_eq_true e))
      have HFI : Hid (decide (Wk.getD k 0 < Wk.getD p 0) = false → HpO Wk) := hidS (fun e => HUI.out.fin HKL.out (.inr (by rw [HPE.out]; exact of_decide_eq_false e)))
      clear hpE
      generalize decide (Wk.getD k 0 < Wk.getD p 0) = q at HLS HST HFI
      clear hp hkp hz
      have hpw : Wk.Perm Wt := HZ.out.1
      have HPW := hidS hpw
      clear hpw
      cases q with
      | false =>
        have HHO := hidS (HFI.out rfl)
        go_wp2_with (go_at_call 144; with_reducible refine HLS.mono ?_; rintro e w3 ⟨rfl, n3, hw3⟩; subst hw3)
        exact bodyPost_end (results_none rfl _ _ _) rfl ⟨⟨_, rfl⟩, Wk, HPW.out, HHO.out, hW.drewN _, HZ.out.2.1.drewN _, HZ.out.2.2⟩
      | true =>
        have HUN := hidS (HST.out rfl)
        go_wp2_with (first
          | (go_at_call 144; with_reducible refine HLS.mono ?_; rintro e w3 ⟨rfl, n3, hw3⟩; subst hw3; have hms3 := hms n3)
          | (go_at_call 147; with_reducible refine (HSW.out _).mono ?_; rintro e w4 ⟨⟨v4, rfl⟩, hW4, hk4, hz4⟩))
        go_roundw
        case rel => exact ⟨p, swp Wk p k, rfl, by omega, (swp_perm HL2.out.1 HL2.out.2).trans HPW.out, HUN.out, hW4, HZ.out.2.1.trans hk4.drewL (fun _ _ q => q), hz4.trans HZ.out.2.2⟩
        case measure => simp [intOf]; omega
set_option maxHeartbeats 2000000 in
theorem down_any {B kw g cap : Nat} (Wt : List Nat) (n : Nat) (w : World) (hl : Wt.length ≤ 1000000) (hn : n ≤ Wt.length) (hd : DnI Wt 0 n) (h : HpW w B kw g cap Wt) :
    Calls Tryz.prog 101 #[ifW kw, .int .i64 0, .int .i64 n] w fun e w' => (∃ v, e = .returned v) ∧ ∃ Wt', Wt'.Perm Wt ∧ (∀ i, 0 < i → i < n → Wt'.getD ((i - 1) / 2) 0 ≤ Wt'.getD i 0) ∧ (∀ i, n ≤ i → Wt'.getD i 0 = Wt.getD i 0) ∧ HpW w' B kw g cap Wt' ∧ Kp (fun k => k = g) w w' ∧ w'.heap.size = w.heap.size := by
  go_enter Tryz.func101, Tryz.ntmps101
  go_wp2
  go_loopw [7] (fun u wr => ∃ (k : Nat) (Wk : List Nat), u = .int .i64 k ∧ k ≤ Wt.length ∧ Wk.Perm Wt ∧ DnI Wk k n ∧ (∀ i, n ≤ i → Wk.getD i 0 = Wt.getD i 0) ∧ HpW wr B kw g cap Wk ∧ Kp (fun k => k = g) w wr ∧ wr.heap.size = w.heap.size)
    (fun u _ => n - (intOf u).toNat)
  case atStart => exact ⟨0, Wt, rfl, Nat.zero_le _, List.Perm.refl _, hd, fun _ _ => rfl, h, Kp.refl _ _, rfl⟩
  case round =>
    obtain ⟨k, Wk, rfl, hk, hp, hdi, hhi, hW, hkp, hz⟩ := hrel
    have hlk := hp.length_eq
    have HDI := hidS hdi
    have HHI := hidS hhi
    have HNL : Hid (n ≤ Wk.length) := hidS (by omega)
    clear h hd hdi hhi
    obtain ⟨j1, hj1⟩ : ∃ j1, 2 * k + 1 = j1 := ⟨_, rfl⟩
    have HJ1 := hidS hj1
    have hjI : 2 * (k : Int) + 1 = (j1 : Int) := by omega
    have HZ := hidS (And.intro hp (And.intro hkp hz))
    have HPp : Hid (Wk.Perm Wt) := hidS hp
    clear hp hkp hz
    have c0 := hW.bx.cell
    have hmlA := fun n => meth_less (w := wr.drewN n) c0
    have hmsA := fun n => meth_swap (w := wr.drewN n) c0
    have HML := hidS hmlA
    have HMS := hidS hmsA
    have hml0 : (method 322 158 (.pointer (some ⟨kw, 0, none⟩)) "Less").run Tryz.prog wr = .ok (144, .slice (some ⟨g, 0, none⟩) Wk.length cap) wr := meth_less c0
    clear hmlA hmsA
    by_cases hjn : j1 < n
    · have hjnB : ¬ (n : Int) ≤ (j1 : Int) := by omega
      have hjz : ¬ (j1 : Int) < 0 := by omega
      obtain ⟨j2, hj2⟩ : ∃ j2, j1 + 1 = j2 := ⟨_, rfl⟩
      have HJ2 := hidS hj2
      have HCH : Hid (∀ i, 0 < i → i < n → (i - 1) / 2 = k → i = j1 ∨ i = j2) := hidS (fun i h1 h2 h3 => by omega)
      have HKP : Hid (∀ j, k < n → j < n → ∀ i, n ≤ i → (swp Wk k j).getD i 0 = Wt.getD i 0) := hidS (fun j h1 h2 i hi => by
        rw [swp_get (by have := HNL.out; omega) (by have := HNL.out; omega), if_neg (by omega), if_neg (by omega)]
        exact HHI.out i hi)
      have hj2I : (j1 : Int) + 1 = (j2 : Int) := by omega
      have HLS : Hid (∀ (d a b : Nat), a < Wk.length → b < Wk.length → Calls Tryz.prog 144 #[.slice (some ⟨g, 0, none⟩) Wk.length cap, .int .i64 a, .int .i64 b] (wr.drewN d) fun e w' => e = .returned (.bool (decide (Wk.getD a 0 < Wk.getD b 0))) ∧ ∃ n', w' = wr.drewN n') := hidS (fun d a b ha hb => (less_any a b (wr.drewN d) ha hb (hW.drewN d)).mono (by rintro e w' ⟨rfl, n', rfl⟩; exact ⟨rfl, d + n', drewN_two _ _ _⟩))
      have HSW : Hid (∀ (d j : Nat), j < Wk.length → k < Wk.length → Calls Tryz.prog 147 #[.slice (some ⟨g, 0, none⟩) Wk.length cap, .int .i64 k, .int .i64 j] (wr.drewN d) fun e w' => (∃ v, e = .returned v) ∧ HpW w' B kw g cap (swp Wk k j) ∧ Kp (fun k => k = g) wr w' ∧ w'.heap.size = wr.heap.size) := hidS (fun d j hj hk => (swap_any k j (wr.drewN d) hk hj (hW.drewN d)).mono (by rintro e w' ⟨h1, h2, h3, h4⟩; exact ⟨h1, h2, h3.drewL, h4⟩))
      by_cases hj2n : j2 < n
      · have hj2B : (j2 : Int) < (n : Int) := by omega
        have HL1 : Hid (Calls Tryz.prog 144 #[.slice (some ⟨g, 0, none⟩) Wk.length cap, .int .i64 j2, .int .i64 j1] wr fun e w' => e = .returned (.bool (decide (Wk.getD j2 0 < Wk.getD j1 0))) ∧ ∃ n', w' = wr.drewN n') := hidS (HLS.out 0 j2 j1 (by omega) (by omega))
        have HLA : Hid (∀ d, Calls Tryz.prog 144 #[.slice (some ⟨g, 0, none⟩) Wk.length cap, .int .i64 j1, .int .i64 k] (wr.drewN d) fun e w' => e = .returned (.bool (decide (Wk.getD j1 0 < Wk.getD k 0))) ∧ ∃ n', w' = wr.drewN n') := hidS (fun d => HLS.out d j1 k (by omega) (by omega))
        have HLB : Hid (∀ d, Calls Tryz.prog 144 #[.slice (some ⟨g, 0, none⟩) Wk.length cap, .int .i64 j2, .int .i64 k] (wr.drewN d) fun e w' => e = .returned (.bool (decide (Wk.getD j2 0 < Wk.getD k 0))) ∧ ∃ n', w' = wr.drewN n') := hidS (fun d => HLS.out d j2 k (by omega) (by omega))
        have HSA : Hid (∀ d, Calls Tryz.prog 147 #[.slice (some ⟨g, 0, none⟩) Wk.length cap, .int .i64 k, .int .i64 j1] (wr.drewN d) fun e w' => (∃ v, e = .returned v) ∧ HpW w' B kw g cap (swp Wk k j1) ∧ Kp (fun k => k = g) wr w' ∧ w'.heap.size = wr.heap.size) := hidS (fun d => HSW.out d j1 (by omega) (by omega))
        have HSB : Hid (∀ d, Calls Tryz.prog 147 #[.slice (some ⟨g, 0, none⟩) Wk.length cap, .int .i64 k, .int .i64 j2] (wr.drewN d) fun e w' => (∃ v, e = .returned v) ∧ HpW w' B kw g cap (swp Wk k j2) ∧ Kp (fun k => k = g) wr w' ∧ w'.heap.size = wr.heap.size) := hidS (fun d => HSW.out d j2 (by omega) (by omega))
        have HPA : Hid ((swp Wk k j1).Perm Wt) := hidS ((swp_perm (by omega) (by omega)).trans HPp.out)
        have HPB : Hid ((swp Wk k j2).Perm Wt) := hidS ((swp_perm (by omega) (by omega)).trans HPp.out)
        have HNM : Hid (k < j1 ∧ k < j2 ∧ j1 ≤ Wt.length ∧ j2 ≤ Wt.length) := hidS (by omega)
        have HGA : Hid (decide (Wk.getD j2 0 < Wk.getD j1 0) = false → decide (Wk.getD j1 0 < Wk.getD k 0) = true → DnI (swp Wk k j1) j1 n) := hidS (fun e1 e2 => HDI.out.step HNL.out (by omega) (by omega) (by omega) (of_decide_eq_true e2) (fun i a b c => by
          have := of_decide_eq_false e1
          rcases HCH.out i a b c with rfl | rfl <;> omega))
        have HFA : Hid (decide (Wk.getD j2 0 < Wk.getD j1 0) = false → decide (Wk.getD j1 0 < Wk.getD k 0) = false → ∀ i, 0 < i → i < n → Wk.getD ((i - 1) / 2) 0 ≤ Wk.getD i 0) := hidS (fun e1 e2 => HDI.out.fin (fun i a b c => by
          have := of_decide_eq_false e1
          have := of_decide_eq_false e2
          rcases HCH.out i a b c with rfl | rfl <;> omega))
        have HGB : Hid (decide (Wk.getD j2 0 < Wk.getD j1 0) = true → decide (Wk.getD j2 0 < Wk.getD k 0) = true → DnI (swp Wk k j2) j2 n) := hidS (fun e1 e2 => HDI.out.step HNL.out (by omega) (by omega) (by omega) (of_decide_eq_true e2) (fun i a b c => by
          have := of_decide_eq_true e1
          rcases HCH.out i a b c with rfl | rfl <;> omega))
        have HFB : Hid (decide (Wk.getD j2 0 < Wk.getD j1 0) = true → decide (Wk.getD j2 0 < Wk.getD k 0) = false → ∀ i, 0 < i → i < n → Wk.getD ((i - 1) / 2) 0 ≤ Wk.getD i 0) := hidS (fun e1 e2 => HDI.out.fin (fun i a b c => by
          have := of_decide_eq_true e1
          have := of_decide_eq_false e2
          rcases HCH.out i a b c with rfl | rfl <;> omega))
        have HK1 := hidS (HKP.out j1 (by omega) (by omega))
        have HK2 := hidS (HKP.out j2 (by omega) (by omega))
        generalize decide (Wk.getD j2 0 < Wk.getD j1 0) = q1 at HL1 HGA HFA HGB HFB
        generalize decide (Wk.getD j1 0 < Wk.getD k 0) = qa at HLA HGA HFA
        generalize decide (Wk.getD j2 0 < Wk.getD k 0) = qb at HLB HGB HFB
        clear HLS HSW hlk hj1 hj2 hj2n
        cases q1 with
        | false =>
          cases qa with
          | false =>
            have HFF := hidS (HFA.out rfl rfl)
            go_wp2_with (first
              | (go_at_call 144; with_reducible refine HL1.out.mono ?_; rintro e w3 ⟨rfl, n3, hw3⟩; subst hw3; clear HL1; have hml3 := HML.out n3)
              | (go_at_call 144; with_reducible refine (HLA.out _).mono ?_; rintro e w4 ⟨rfl, n4, hw4⟩; subst hw4; have hms4 := HMS.out n4)
              | (go_at_call 147; with_reducible refine (HSA.out _).mono ?_; rintro e w5 ⟨⟨v5, rfl⟩, hW5, hk5, hz5⟩))
            go_ret
            exact ⟨⟨_, rfl⟩, Wk, HPp.out, HFF.out, HHI.out, hW.drewN _, HZ.out.2.1.drewN _, HZ.out.2.2⟩
          | true =>
            have HDD := hidS (HGA.out rfl rfl)
            go_wp2_with (first
              | (go_at_call 144; with_reducible refine HL1.out.mono ?_; rintro e w3 ⟨rfl, n3, hw3⟩; subst hw3; clear HL1; have hml3 := HML.out n3)
              | (go_at_call 144; with_reducible refine (HLA.out _).mono ?_; rintro e w4 ⟨rfl, n4, hw4⟩; subst hw4; have hms4 := HMS.out n4)
              | (go_at_call 147; with_reducible refine (HSA.out _).mono ?_; rintro e w5 ⟨⟨v5, rfl⟩, hW5, hk5, hz5⟩))
            go_roundw
            case rel => exact ⟨j1, swp Wk k j1, rfl, by have := HNM.out; omega, HPA.out, HDD.out, HK1.out, hW5, HZ.out.2.1.trans hk5 (fun _ _ q => q), hz5.trans HZ.out.2.2⟩
            case measure => have := HNM.out; simp [intOf]; omega
        | true =>
          cases qb with
          | false =>
            have HFF := hidS (HFB.out rfl rfl)
            go_wp2_with (first
              | (go_at_call 144; with_reducible refine HL1.out.mono ?_; rintro e w3 ⟨rfl, n3, hw3⟩; subst hw3; clear HL1; have hml3 := HML.out n3)
              | (go_at_call 144; with_reducible refine (HLB.out _).mono ?_; rintro e w4 ⟨rfl, n4, hw4⟩; subst hw4; have hms4 := HMS.out n4)
              | (go_at_call 147; with_reducible refine (HSB.out _).mono ?_; rintro e w5 ⟨⟨v5, rfl⟩, hW5, hk5, hz5⟩))
            go_ret
            exact ⟨⟨_, rfl⟩, Wk, HPp.out, HFF.out, HHI.out, hW.drewN _, HZ.out.2.1.drewN _, HZ.out.2.2⟩
          | true =>
            have HDD := hidS (HGB.out rfl rfl)
            go_wp2_with (first
              | (go_at_call 144; with_reducible refine HL1.out.mono ?_; rintro e w3 ⟨rfl, n3, hw3⟩; subst hw3; clear HL1; have hml3 := HML.out n3)
              | (go_at_call 144; with_reducible refine (HLB.out _).mono ?_; rintro e w4 ⟨rfl, n4, hw4⟩; subst hw4; have hms4 := HMS.out n4)
              | (go_at_call 147; with_reducible refine (HSB.out _).mono ?_; rintro e w5 ⟨⟨v5, rfl⟩, hW5, hk5, hz5⟩))
            go_roundw
            case rel => exact ⟨j2, swp Wk k j2, rfl, by have := HNM.out; omega, HPB.out, HDD.out, HK2.out, hW5, HZ.out.2.1.trans hk5 (fun _ _ q => q), hz5.trans HZ.out.2.2⟩
            case measure => have := HNM.out; simp [intOf]; omega
      · have hj2B : ¬ (j2 : Int) < (n : Int) := by omega
        have HLA : Hid (Calls Tryz.prog 144 #[.slice (some ⟨g, 0, none⟩) Wk.length cap, .int .i64 j1, .int .i64 k] wr fun e w' => e = .returned (.bool (decide (Wk.getD j1 0 < Wk.getD k 0))) ∧ ∃ n', w' = wr.drewN n') := hidS (HLS.out 0 j1 k (by omega) (by omega))
        have HSA : Hid (∀ d, Calls Tryz.prog 147 #[.slice (some ⟨g, 0, none⟩) Wk.length cap, .int .i64 k, .int .i64 j1] (wr.drewN d) fun e w' => (∃ v, e = .returned v) ∧ HpW w' B kw g cap (swp Wk k j1) ∧ Kp (fun k => k = g) wr w' ∧ w'.heap.size = wr.heap.size) := hidS (fun d => HSW.out d j1 (by omega) (by omega))
        have HPA : Hid ((swp Wk k j1).Perm Wt) := hidS ((swp_perm (by omega) (by omega)).trans HPp.out)
        have HNM : Hid (k < j1 ∧ j1 ≤ Wt.length) := hidS (by omega)
        have HC1 : Hid (∀ i, 0 < i → i < n → (i - 1) / 2 = k → i = j1) := hidS (fun i a b c => by rcases HCH.out i a b c with h | h <;> omega)
        have HGA : Hid (decide (Wk.getD j1 0 < Wk.getD k 0) = true → DnI (swp Wk k j1) j1 n) := hidS (fun e2 => HDI.out.step HNL.out (by omega) (by omega) (by omega) (of_decide_eq_true e2) (fun i a b c => by rw [HC1.out i a b c]; exact Nat.le_refl _))
        have HFA : Hid (decide (Wk.getD j1 0 < Wk.getD k 0) = false → ∀ i, 0 < i → i < n → Wk.getD ((i - 1) / 2) 0 ≤ Wk.getD i 0) := hidS (fun e2 => HDI.out.fin (fun i a b c => by
          have := of_decide_eq_false e2
          rw [HC1.out i a b c]; omega))
        have HK1 := hidS (HKP.out j1 (by omega) (by omega))
        generalize decide (Wk.getD j1 0 < Wk.getD k 0) = qa at HLA HGA HFA
        clear HLS HSW hlk hj1 hj2 hj2n
        cases qa with
        | false =>
          have HFF := hidS (HFA.out rfl)
          go_wp2_with (first
            | (go_at_call 144; with_reducible refine HLA.out.mono ?_; rintro e w4 ⟨rfl, n4, hw4⟩; subst hw4; have hms4 := HMS.out n4)
            | (go_at_call 147; with_reducible refine (HSA.out _).mono ?_; rintro e w5 ⟨⟨v5, rfl⟩, hW5, hk5, hz5⟩))
          go_ret
          exact ⟨⟨_, rfl⟩, Wk, HPp.out, HFF.out, HHI.out, hW.drewN _, HZ.out.2.1.drewN _, HZ.out.2.2⟩
        | true =>
          have HDD := hidS (HGA.out rfl)
          go_wp2_with (first
            | (go_at_call 144; with_reducible refine HLA.out.mono ?_; rintro e w4 ⟨rfl, n4, hw4⟩; subst hw4; have hms4 := HMS.out n4)
            | (go_at_call 147; with_reducible refine (HSA.out _).mono ?_; rintro e w5 ⟨⟨v5, rfl⟩, hW5, hk5, hz5⟩))
          go_roundw
          case rel => exact ⟨j1, swp Wk k j1, rfl, by have := HNM.out; omega, HPA.out, HDD.out, HK1.out, hW5, HZ.out.2.1.trans hk5 (fun _ _ q => q), hz5.trans HZ.out.2.2⟩
          case measure => have := HNM.out; simp [intOf]; omega
    · have hjnB : (n : Int) ≤ (j1 : Int) := by omega
      have HFF := hidS (HDI.out.fin (fun i a b c => by omega))
      clear hlk hj1
      go_wp2
      go_ret
      exact ⟨⟨_, rfl⟩, Wk, HPp.out, HFF.out, HHI.out, hW, HZ.out.2.1, HZ.out.2.2⟩
end Go.Proofs.YtgbpfejodpplbaaGreatDoor
