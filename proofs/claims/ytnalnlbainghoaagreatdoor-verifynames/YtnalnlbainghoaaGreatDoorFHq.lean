import Derived.Test.YtnalnlbainghoaaGreatDoorCFHp
namespace Go.Proofs.YtnalnlbainghoaaGreatDoor
open Go.RowKit Go.WideShapes Go.Shelf
set_option maxRecDepth 100000

theorem Kp.drewN {S : Nat → Prop} {a b : World} (h : Kp S a b) (n : Nat) : Kp S a (b.drewN n) := ⟨h.os, h.tape, h.output, h.size, h.block⟩
theorem Kp.drewL {S : Nat → Prop} {a b : World} {n : Nat} (h : Kp S (a.drewN n) b) : Kp S a b := ⟨h.os, h.tape, h.output, h.size, h.block⟩
theorem drewN_two (w : World) (a b : Nat) : (w.drewN a).drewN b = w.drewN (a + b) := by
  induction b with
  | zero => rfl
  | succ b ih => exact congrArg World.drew ih
theorem push_any {B kw g cap : Nat} {Wt : List Nat} (x : Nat) (w : World) (hl : Wt.length ≤ 1000000) (hB : B ≤ w.heap.size) (h : HpW w B kw g cap Wt) :
    Calls Tryz.prog 203 #[.pointer (some ⟨kw, 0, none⟩), .iface 29 (.int .u32 x)] w fun e w' => (∃ v, e = .returned v) ∧ ∃ g' cap', HpW w' B kw g' cap' (Wt ++ [x]) ∧ (g' = g ∨ w.heap.size ≤ g') ∧ Kp (fun k => k = g ∨ k = kw) w w' := by
  refine (callsIn_wide (n := 30)).1 ?_
  refine callsIn_of_wp Tryz.func203 rfl trivial ?_ rfl
  simp only [Tryz.ntmps203, List.size_toArray, List.length_cons, List.length_nil, Nat.reduceAdd, Nat.reduceSub, Array.replicate_succ, Array.replicate_zero, List.push_toArray, List.append_toArray, List.nil_append, List.cons_append]
  refine push_lay B kw g cap x Wt hl hB h h.bx.lt (by rintro c a (_ | d) v w h <;> exact h) ?_
  intro a' g' cap' w' hd h1 h2 h3
  obtain ⟨ts, ds⟩ := a'
  simp only at hd
  subst hd
  exact bodyPost_end (results_none rfl _ _ _) rfl ⟨⟨_, rfl⟩, g', cap', h1, h2, h3⟩
theorem wlen_any (ao : Option Addr) (n cap : Nat) (w : World) : Calls Tryz.prog 109 #[.slice ao n cap] w fun e w' => e = .returned (.int .i64 n) ∧ w' = w := by
  go_enter Tryz.func109, Tryz.ntmps109
  go_wp2
  go_ret
  exact ⟨rfl, rfl⟩
theorem HpW.cut {w : World} {B kw g cap : Nat} {Wt : List Nat} {x : Nat} (h : HpW w B kw g cap (Wt ++ [x])) : HpW (w.setCell ⟨kw, 0, none⟩ (.slice (some ⟨g, 0, none⟩) Wt.length cap)) B kw g cap Wt := by
  have hne := h.ne
  refine ⟨h.bx.set _, ?_⟩
  refine (Kp.setCell (S := fun k => k = kw) w ⟨kw, 0, none⟩ _ rfl).own ?_ (fun k e => by cases e; exact fun q => hne q.symm)
  rcases h.row with ⟨hl, ⟨hn, _⟩ | ⟨g', cap', cur', e1, e2, e3, e4, e5, e6, e7⟩⟩
  · cases hn
  · cases e1
    refine ⟨by simp [dv], .inr ⟨g, cap, cur', rfl, e2, e3, by simp at e4; omega, e5, e6, ?_⟩⟩
    have := congrArg (List.take Wt.length) e7
    rw [List.take_take, List.length_append, dv_snoc, List.take_append_of_le_length (by simp [dv]), List.take_of_length_le (l := dv Wt) (by simp [dv]), List.length_singleton, Nat.mul_one, Nat.min_eq_left (by omega)] at this
    rw [Nat.mul_one]
    exact this
set_option maxHeartbeats 1000000 in
theorem popm_any {B kw g cap : Nat} {Wt : List Nat} {x : Nat} (w : World) (hl : Wt.length ≤ 1000000) (h : HpW w B kw g cap (Wt ++ [x])) :
    Calls Tryz.prog 202 #[.pointer (some ⟨kw, 0, none⟩)] w fun e w' => e = .returned (.iface 29 (.int .u32 x)) ∧ HpW w' B kw g cap Wt ∧ Kp (fun k => k = kw) w w' ∧ w'.heap.size = w.heap.size := by
  have c0 := h.bx.cell
  have f0 := h.bx.frozen
  have c1 := h.word (i := Wt.length) (by simp)
  have hx : (Wt ++ [x]).getD Wt.length 0 = x := by simp [List.getD_eq_getElem?_getD]
  rw [hx] at c1
  have hlen : (Wt ++ [x]).length = Wt.length + 1 := by simp
  rw [hlen] at c0
  have hcap : Wt.length + 1 ≤ cap := by
    rcases h.row with ⟨_, ⟨hn, _⟩ | ⟨g', cap', cur', e1, e2, e3, e4, e5⟩⟩
    · cases hn
    · cases e1
      simpa using e4
  have HF := hidS h.cut
  have hI : ((Wt.length + 1 : Nat) : Int) - 1 = (Wt.length : Int) := by omega
  generalize hm : Wt.length = m at *
  clear hx hlen h hm
  have hmk : (Instr.makeInterface 29 (.int .u32 (x : Int))).run Tryz.prog (w.setCell ⟨kw, 0, none⟩ (.slice (some ⟨g, 0, none⟩) m cap)) = .ok (.iface 29 (.int .u32 (x : Int))) (w.setCell ⟨kw, 0, none⟩ (.slice (some ⟨g, 0, none⟩) m cap)) := run_makeInterface _ 29 _ (by kernel_rfl)
  go_enter Tryz.func202, Tryz.ntmps202
  go_wp2
  go_ret
  exact ⟨rfl, HF.out, Kp.setCell _ _ _ rfl, by simp⟩
set_option maxHeartbeats 1000000 in
theorem up_any {B kw g cap : Nat} (Wt : List Nat) (j : Nat) (w : World) (hl : Wt.length ≤ 1000000) (hj : j < Wt.length) (h : HpW w B kw g cap Wt) :
    Calls Tryz.prog 141 #[ifW kw, .int .i64 j] w fun e w' => (∃ v, e = .returned v) ∧ ∃ Wt', Wt'.Perm Wt ∧ HpW w' B kw g cap Wt' ∧ Kp (fun k => k = g) w w' ∧ w'.heap.size = w.heap.size := by
  go_enter Tryz.func141, Tryz.ntmps141
  go_wp2
  go_loopw [1] (fun u wr => ∃ (k : Nat) (Wk : List Nat), u = .int .i64 k ∧ k < Wt.length ∧ Wk.Perm Wt ∧ HpW wr B kw g cap Wk ∧ Kp (fun k => k = g) w wr ∧ wr.heap.size = w.heap.size)
    (fun u _ => (intOf u).toNat)
  case atStart => exact ⟨j, Wt, rfl, hj, List.Perm.refl _, h, Kp.refl _ _, rfl⟩
  case round =>
    obtain ⟨k, Wk, rfl, hk, hp, hW, hkp, hz⟩ := hrel
    have hlk := hp.length_eq
    clear h
    by_cases hk0 : k = 0
    · subst hk0
      go_wp2
      exact bodyPost_end (results_none rfl _ _ _) rfl ⟨⟨_, rfl⟩, Wk, hp, hW, hkp, hz⟩
    · obtain ⟨p, hpk, hpI⟩ : ∃ p : Nat, p < k ∧ ((k : Int) - 1).tdiv 2 = (p : Int) := ⟨(k - 1) / 2, by omega, by
        rw [show (k : Int) - 1 = ((k - 1 : Nat) : Int) by omega, Int.tdiv_eq_ediv_of_nonneg (by omega)]
        omega⟩
      have hne : ((p : Int) == (k : Int)) = false := beq_eq_false_iff_ne.2 (by omega)
      have c0 := hW.bx.cell
      have HLS := less_any k p wr (by omega) (by omega) hW
      have HSW := hidS (fun n => swap_any p k (wr.drewN n) (by omega) (by omega) (hW.drewN n))
      have hml := meth_less c0
      have hms := fun n => meth_swap (w := wr.drewN n) c0
      have HZ := hidS (And.intro hp (And.intro hkp hz))
      have HL2 : Hid (p < Wk.length ∧ k < Wk.length) := hidS (by omega)
      clear hlk
      generalize decide (Wk.getD k 0 < Wk.getD p 0) = q at HLS
      clear hp hkp hz
      have hpw : Wk.Perm Wt := HZ.out.1
      have HPW := hidS hpw
      clear hpw
      cases q with
      | false =>
        go_wp2_with (go_at_call 201; with_reducible refine HLS.mono ?_; rintro e w3 ⟨rfl, n3, hw3⟩; subst hw3)
        exact bodyPost_end (results_none rfl _ _ _) rfl ⟨⟨_, rfl⟩, Wk, HPW.out, hW.drewN _, HZ.out.2.1.drewN _, HZ.out.2.2⟩
      | true =>
        go_wp2_with (first
          | (go_at_call 201; with_reducible refine HLS.mono ?_; rintro e w3 ⟨rfl, n3, hw3⟩; subst hw3; have hms3 := hms n3)
          | (go_at_call 204; with_reducible refine (HSW.out _).mono ?_; rintro e w4 ⟨⟨v4, rfl⟩, hW4, hk4, hz4⟩))
        go_roundw
        case rel => exact ⟨p, swp Wk p k, rfl, by omega, (swp_perm HL2.out.1 HL2.out.2).trans HPW.out, hW4, HZ.out.2.1.trans hk4.drewL (fun _ _ q => q), hz4.trans HZ.out.2.2⟩
        case measure => simp [intOf]; omega
set_option maxHeartbeats 2000000 in
theorem down_any {B kw g cap : Nat} (Wt : List Nat) (n : Nat) (w : World) (hl : Wt.length ≤ 1000000) (hn : n ≤ Wt.length) (h : HpW w B kw g cap Wt) :
    Calls Tryz.prog 138 #[ifW kw, .int .i64 0, .int .i64 n] w fun e w' => (∃ v, e = .returned v) ∧ ∃ Wt', Wt'.Perm Wt ∧ HpW w' B kw g cap Wt' ∧ Kp (fun k => k = g) w w' ∧ w'.heap.size = w.heap.size := by
  go_enter Tryz.func138, Tryz.ntmps138
  go_wp2
  go_loopw [7] (fun u wr => ∃ (k : Nat) (Wk : List Nat), u = .int .i64 k ∧ k ≤ Wt.length ∧ Wk.Perm Wt ∧ HpW wr B kw g cap Wk ∧ Kp (fun k => k = g) w wr ∧ wr.heap.size = w.heap.size)
    (fun u _ => n - (intOf u).toNat)
  case atStart => exact ⟨0, Wt, rfl, Nat.zero_le _, List.Perm.refl _, h, Kp.refl _ _, rfl⟩
  case round =>
    obtain ⟨k, Wk, rfl, hk, hp, hW, hkp, hz⟩ := hrel
    have hlk := hp.length_eq
    clear h
    obtain ⟨j1, hj1⟩ : ∃ j1, 2 * k + 1 = j1 := ⟨_, rfl⟩
    have hjI : 2 * (k : Int) + 1 = (j1 : Int) := by omega
    have HZ := hidS (And.intro hp (And.intro hkp hz))
    have HPp : Hid (Wk.Perm Wt) := hidS hp
    clear hp hkp hz
    have c0 := hW.bx.cell
    have hmlA := fun n => meth_less (w := wr.drewN n) c0
    have hmsA := fun n => meth_swap (w := wr.drewN n) c0
    have HML := hidS hmlA
    have HMS := hidS hmsA
    have hml0 : (method 370 174 (.pointer (some ⟨kw, 0, none⟩)) "Less").run Tryz.prog wr = .ok (201, .slice (some ⟨g, 0, none⟩) Wk.length cap) wr := meth_less c0
    clear hmlA hmsA
    by_cases hjn : j1 < n
    · have hjnB : ¬ (n : Int) ≤ (j1 : Int) := by omega
      have hjz : ¬ (j1 : Int) < 0 := by omega
      obtain ⟨j2, hj2⟩ : ∃ j2, j1 + 1 = j2 := ⟨_, rfl⟩
      have hj2I : (j1 : Int) + 1 = (j2 : Int) := by omega
      have HLS : Hid (∀ (d a b : Nat), a < Wk.length → b < Wk.length → Calls Tryz.prog 201 #[.slice (some ⟨g, 0, none⟩) Wk.length cap, .int .i64 a, .int .i64 b] (wr.drewN d) fun e w' => e = .returned (.bool (decide (Wk.getD a 0 < Wk.getD b 0))) ∧ ∃ n', w' = wr.drewN n') := hidS (fun d a b ha hb => (less_any a b (wr.drewN d) ha hb (hW.drewN d)).mono (by rintro e w' ⟨rfl, n', rfl⟩; exact ⟨rfl, d + n', drewN_two _ _ _⟩))
      have HSW : Hid (∀ (d j : Nat), j < Wk.length → k < Wk.length → Calls Tryz.prog 204 #[.slice (some ⟨g, 0, none⟩) Wk.length cap, .int .i64 k, .int .i64 j] (wr.drewN d) fun e w' => (∃ v, e = .returned v) ∧ HpW w' B kw g cap (swp Wk k j) ∧ Kp (fun k => k = g) wr w' ∧ w'.heap.size = wr.heap.size) := hidS (fun d j hj hk => (swap_any k j (wr.drewN d) hk hj (hW.drewN d)).mono (by rintro e w' ⟨h1, h2, h3, h4⟩; exact ⟨h1, h2, h3.drewL, h4⟩))
      by_cases hj2n : j2 < n
      · have hj2B : (j2 : Int) < (n : Int) := by omega
        have HL1 : Hid (Calls Tryz.prog 201 #[.slice (some ⟨g, 0, none⟩) Wk.length cap, .int .i64 j2, .int .i64 j1] wr fun e w' => e = .returned (.bool (decide (Wk.getD j2 0 < Wk.getD j1 0))) ∧ ∃ n', w' = wr.drewN n') := hidS (HLS.out 0 j2 j1 (by omega) (by omega))
        have HLA : Hid (∀ d, Calls Tryz.prog 201 #[.slice (some ⟨g, 0, none⟩) Wk.length cap, .int .i64 j1, .int .i64 k] (wr.drewN d) fun e w' => e = .returned (.bool (decide (Wk.getD j1 0 < Wk.getD k 0))) ∧ ∃ n', w' = wr.drewN n') := hidS (fun d => HLS.out d j1 k (by omega) (by omega))
        have HLB : Hid (∀ d, Calls Tryz.prog 201 #[.slice (some ⟨g, 0, none⟩) Wk.length cap, .int .i64 j2, .int .i64 k] (wr.drewN d) fun e w' => e = .returned (.bool (decide (Wk.getD j2 0 < Wk.getD k 0))) ∧ ∃ n', w' = wr.drewN n') := hidS (fun d => HLS.out d j2 k (by omega) (by omega))
        have HSA : Hid (∀ d, Calls Tryz.prog 204 #[.slice (some ⟨g, 0, none⟩) Wk.length cap, .int .i64 k, .int .i64 j1] (wr.drewN d) fun e w' => (∃ v, e = .returned v) ∧ HpW w' B kw g cap (swp Wk k j1) ∧ Kp (fun k => k = g) wr w' ∧ w'.heap.size = wr.heap.size) := hidS (fun d => HSW.out d j1 (by omega) (by omega))
        have HSB : Hid (∀ d, Calls Tryz.prog 204 #[.slice (some ⟨g, 0, none⟩) Wk.length cap, .int .i64 k, .int .i64 j2] (wr.drewN d) fun e w' => (∃ v, e = .returned v) ∧ HpW w' B kw g cap (swp Wk k j2) ∧ Kp (fun k => k = g) wr w' ∧ w'.heap.size = wr.heap.size) := hidS (fun d => HSW.out d j2 (by omega) (by omega))
        have HPA : Hid ((swp Wk k j1).Perm Wt) := hidS ((swp_perm (by omega) (by omega)).trans HPp.out)
        have HPB : Hid ((swp Wk k j2).Perm Wt) := hidS ((swp_perm (by omega) (by omega)).trans HPp.out)
        have HNM : Hid (k < j1 ∧ k < j2 ∧ j1 ≤ Wt.length ∧ j2 ≤ Wt.length) := hidS (by omega)
        generalize decide (Wk.getD j2 0 < Wk.getD j1 0) = q1 at HL1
        generalize decide (Wk.getD j1 0 < Wk.getD k 0) = qa at HLA
        generalize decide (Wk.getD j2 0 < Wk.getD k 0) = qb at HLB
        clear HLS HSW hlk hj1 hj2 hj2n
        cases q1 with
        | false =>
          cases qa with
          | false =>
            go_wp2_with (first
              | (go_at_call 201; with_reducible refine HL1.out.mono ?_; rintro e w3 ⟨rfl, n3, hw3⟩; subst hw3; clear HL1; have hml3 := HML.out n3)
              | (go_at_call 201; with_reducible refine (HLA.out _).mono ?_; rintro e w4 ⟨rfl, n4, hw4⟩; subst hw4; have hms4 := HMS.out n4)
              | (go_at_call 204; with_reducible refine (HSA.out _).mono ?_; rintro e w5 ⟨⟨v5, rfl⟩, hW5, hk5, hz5⟩))
            go_ret
            exact ⟨⟨_, rfl⟩, Wk, HPp.out, hW.drewN _, HZ.out.2.1.drewN _, HZ.out.2.2⟩
          | true =>
            go_wp2_with (first
              | (go_at_call 201; with_reducible refine HL1.out.mono ?_; rintro e w3 ⟨rfl, n3, hw3⟩; subst hw3; clear HL1; have hml3 := HML.out n3)
              | (go_at_call 201; with_reducible refine (HLA.out _).mono ?_; rintro e w4 ⟨rfl, n4, hw4⟩; subst hw4; have hms4 := HMS.out n4)
              | (go_at_call 204; with_reducible refine (HSA.out _).mono ?_; rintro e w5 ⟨⟨v5, rfl⟩, hW5, hk5, hz5⟩))
            go_roundw
            case rel => exact ⟨j1, swp Wk k j1, rfl, by have := HNM.out; omega, HPA.out, hW5, HZ.out.2.1.trans hk5 (fun _ _ q => q), hz5.trans HZ.out.2.2⟩
            case measure => have := HNM.out; simp [intOf]; omega
        | true =>
          cases qb with
          | false =>
            go_wp2_with (first
              | (go_at_call 201; with_reducible refine HL1.out.mono ?_; rintro e w3 ⟨rfl, n3, hw3⟩; subst hw3; clear HL1; have hml3 := HML.out n3)
              | (go_at_call 201; with_reducible refine (HLB.out _).mono ?_; rintro e w4 ⟨rfl, n4, hw4⟩; subst hw4; have hms4 := HMS.out n4)
              | (go_at_call 204; with_reducible refine (HSB.out _).mono ?_; rintro e w5 ⟨⟨v5, rfl⟩, hW5, hk5, hz5⟩))
            go_ret
            exact ⟨⟨_, rfl⟩, Wk, HPp.out, hW.drewN _, HZ.out.2.1.drewN _, HZ.out.2.2⟩
          | true =>
            go_wp2_with (first
              | (go_at_call 201; with_reducible refine HL1.out.mono ?_; rintro e w3 ⟨rfl, n3, hw3⟩; subst hw3; clear HL1; have hml3 := HML.out n3)
              | (go_at_call 201; with_reducible refine (HLB.out _).mono ?_; rintro e w4 ⟨rfl, n4, hw4⟩; subst hw4; have hms4 := HMS.out n4)
              | (go_at_call 204; with_reducible refine (HSB.out _).mono ?_; rintro e w5 ⟨⟨v5, rfl⟩, hW5, hk5, hz5⟩))
            go_roundw
            case rel => exact ⟨j2, swp Wk k j2, rfl, by have := HNM.out; omega, HPB.out, hW5, HZ.out.2.1.trans hk5 (fun _ _ q => q), hz5.trans HZ.out.2.2⟩
            case measure => have := HNM.out; simp [intOf]; omega
      · have hj2B : ¬ (j2 : Int) < (n : Int) := by omega
        have HLA : Hid (Calls Tryz.prog 201 #[.slice (some ⟨g, 0, none⟩) Wk.length cap, .int .i64 j1, .int .i64 k] wr fun e w' => e = .returned (.bool (decide (Wk.getD j1 0 < Wk.getD k 0))) ∧ ∃ n', w' = wr.drewN n') := hidS (HLS.out 0 j1 k (by omega) (by omega))
        have HSA : Hid (∀ d, Calls Tryz.prog 204 #[.slice (some ⟨g, 0, none⟩) Wk.length cap, .int .i64 k, .int .i64 j1] (wr.drewN d) fun e w' => (∃ v, e = .returned v) ∧ HpW w' B kw g cap (swp Wk k j1) ∧ Kp (fun k => k = g) wr w' ∧ w'.heap.size = wr.heap.size) := hidS (fun d => HSW.out d j1 (by omega) (by omega))
        have HPA : Hid ((swp Wk k j1).Perm Wt) := hidS ((swp_perm (by omega) (by omega)).trans HPp.out)
        have HNM : Hid (k < j1 ∧ j1 ≤ Wt.length) := hidS (by omega)
        generalize decide (Wk.getD j1 0 < Wk.getD k 0) = qa at HLA
        clear HLS HSW hlk hj1 hj2 hj2n
        cases qa with
        | false =>
          go_wp2_with (first
            | (go_at_call 201; with_reducible refine HLA.out.mono ?_; rintro e w4 ⟨rfl, n4, hw4⟩; subst hw4; have hms4 := HMS.out n4)
            | (go_at_call 204; with_reducible refine (HSA.out _).mono ?_; rintro e w5 ⟨⟨v5, rfl⟩, hW5, hk5, hz5⟩))
          go_ret
          exact ⟨⟨_, rfl⟩, Wk, HPp.out, hW.drewN _, HZ.out.2.1.drewN _, HZ.out.2.2⟩
        | true =>
          go_wp2_with (first
            | (go_at_call 201; with_reducible refine HLA.out.mono ?_; rintro e w4 ⟨rfl, n4, hw4⟩; subst hw4; have hms4 := HMS.out n4)
            | (go_at_call 204; with_reducible refine (HSA.out _).mono ?_; rintro e w5 ⟨⟨v5, rfl⟩, hW5, hk5, hz5⟩))
          go_roundw
          case rel => exact ⟨j1, swp Wk k j1, rfl, by have := HNM.out; omega, HPA.out, hW5, HZ.out.2.1.trans hk5 (fun _ _ q => q), hz5.trans HZ.out.2.2⟩
          case measure => have := HNM.out; simp [intOf]; omega
    · have hjnB : (n : Int) ≤ (j1 : Int) := by omega
      clear hlk hj1
      go_wp2
      go_ret
      exact ⟨⟨_, rfl⟩, Wk, HPp.out, hW, HZ.out.2.1, HZ.out.2.2⟩
end Go.Proofs.YtnalnlbainghoaaGreatDoor
