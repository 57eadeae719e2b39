import Derived.Test.YtiohmcfabjmcoaaSStepB
namespace Go.Proofs.Ytiohmcfabjmcoaa
open Go.RowKit

def fl (x : Nat) : Nat := if ok x = true then tn x else 2143289344
theorem wrd_not (m : Bool) (r : Nat) (h : r < 2147483648) : wrd (!m) r = tn (wrd m r) := by
  unfold wrd tn
  cases m
  · simp only [Bool.not_false, if_true, Bool.false_eq_true, if_false]; rw [if_pos (by omega)]; omega
  · simp only [Bool.not_true, if_true, Bool.false_eq_true, if_false]; rw [if_neg (by omega)]; omega
theorem flt (x : Nat) (h : x < 4294967296) : ∃ V1 V2 : Value,
    (∀ w, Calls Try.prog 22 #[.int .u32 x] w fun e w' => e = .returned V1 ∧ Below w.heap.size w w') ∧
    (∀ w, Calls Try.prog 28 #[V1] w fun e w' => e = .returned V2 ∧ Below w.heap.size w w') ∧
    (∀ w, Calls Try.prog 24 #[V2] w fun e w' => e = .returned (.int .u32 (fl x : Nat)) ∧ Below w.heap.size w w') := by
  unfold fl
  by_cases ho : ok x = true
  · have hm : x % 2147483648 ≤ 2139095040 := by simpa [ok] using ho
    rw [if_pos ho]
    have hw := wrd_not (sg x) (x % 2147483648) (by omega)
    rw [wrd_sg x h] at hw
    rw [← hw]
    by_cases hi : x % 2147483648 = 2139095040
    · rw [hi]
      exact ⟨_, _, fun w => take_endless x w h hi, fun w => flip2 (sg x) w, fun w => lay_endless (!sg x) w⟩
    · obtain ⟨r1, r2, r3⟩ := rd_rung x
      rw [r1]
      exact ⟨_, _, fun w => take_fin x w h (by omega), fun w => flip3 (sg x) (rdm x) (-149 + (rdk x : Int)) w, fun w => lay_fin (!sg x) (rdm x) (rdk x) w r2 (by omega) r3⟩
  · rw [if_neg ho]
    exact ⟨_, _, fun w => take_none x w h (by simpa using ho), fun w => flip1 w, fun w => lay_none w⟩
theorem fl_lt {x : Nat} (h : x < 4294967296) : fl x < 4294967296 := by
  unfold fl; split
  · exact tn_lt h
  · decide
theorem fl_fab (a : Nat) (h : a < 4294967296) : fl (fab (fl a)) = fbe a := by
  unfold fbe
  by_cases ho : ok a = true
  · have ho' : ¬ ok a = false := by simp [ho]
    rw [if_neg ho']
    have e1 : fl a = tn a := by unfold fl; rw [if_pos ho]
    rw [e1]
    have ot : ok (tn a) = true := by rw [ok_tn a h, ho]
    have hl := tn_lt h
    have : ok (fab (tn a)) = true := by
      rcases fab_cln hl with e | e
      · exfalso
        have hm : tn a % 2147483648 ≤ 2139095040 := by simpa [ok] using ot
        unfold fab at e
        rw [if_neg (by simp [ot])] at e
        split at e
        · omega
        · split at e
          · omega
          · split at e <;> omega
      · exact e
    unfold fl
    rw [if_pos this]
  · have ho' : ok a = false := by simpa using ho
    rw [if_pos ho']
    have e1 : fl a = 2143289344 := by unfold fl; rw [if_neg ho]
    rw [e1]
    decide +kernel
set_option maxRecDepth 100000 in
set_option maxHeartbeats 2000000 in
theorem rbelow_any (a : Nat) (w : World) (h : a < 4294967296) :
    Calls Try.prog 14 #[.int .u32 a] w fun e w' => e = .returned (.int .u32 (fbe a)) ∧ Below w.heap.size w w' := by
  have h1 := fl_lt h
  have h2 := fab_lt h1
  obtain ⟨V1, V2, t1, f1, l1⟩ := flt a h
  obtain ⟨V3, V4, t2, f2, l2⟩ := flt (fab (fl a)) h2
  have ab := fun w => rabove_any (fl a) w h1
  rw [fl_fab a h] at l2
  generalize fbe a = R at *
  generalize fab (fl a) = Z at *
  generalize fl a = Y at *
  have hB := Below.refl w.heap.size w
  go_enter Try.func14, Try.ntmps14
  go_wp2_with (first
    | (go_at_call 22; (first | with_reducible refine (t1 _).mono ?_ | with_reducible refine (t2 _).mono ?_); rintro e wq ⟨rfl, hq⟩; have hB := bt (by first | exact hB | exact bel hB | exact bel (bel hB)) hq)
    | (go_at_call 28; (first | with_reducible refine (f1 _).mono ?_ | with_reducible refine (f2 _).mono ?_); rintro e wq ⟨rfl, hq⟩; have hB := bt (by first | exact hB | exact bel hB | exact bel (bel hB)) hq)
    | (go_at_call 24; (first | with_reducible refine (l1 _).mono ?_ | with_reducible refine (l2 _).mono ?_); rintro e wq ⟨rfl, hq⟩; have hB := bt (by first | exact hB | exact bel hB | exact bel (bel hB)) hq)
    | (go_at_call 12; with_reducible refine (ab _).mono ?_; rintro e wq ⟨rfl, hq⟩; have hB := bt (by first | exact hB | exact bel hB | exact bel (bel hB)) hq))
  go_ret
  exact ⟨rfl, hB⟩
theorem rturned_any (a : Nat) (w : World) (h : a < 4294967296) :
    Calls Try.prog 16 #[.int .u32 a] w fun e w' => e = .returned (.int .u32 (tn a)) ∧ w' = w := by
  unfold tn
  by_cases h' : a < 2147483648
  · rw [if_pos h', show ((a + 2147483648 : Nat) : Int) = (a : Int) + 2147483648 by omega]
    have g1 : decide ((2147483648 : Int) ≤ (a : Int)) = false := decide_eq_false (by omega)
    obtain ⟨x, hx⟩ : ∃ x : Int, x = (a : Int) := ⟨_, rfl⟩
    rw [← hx] at g1 ⊢
    have hw : IntKind.u32.wrap (x + 2147483648) = x + 2147483648 := by rw [IntKind.wrap_u32']; omega
    have x0 : 0 ≤ x := by omega
    have x1 : x ≤ 2147483647 := by omega
    clear hx h h'
    go_enter Try.func16, Try.ntmps16
    go_wp2
    go_ret
    exact ⟨rfl, rfl⟩
  · rw [if_neg h', show ((a - 2147483648 : Nat) : Int) = (a : Int) - 2147483648 by omega]
    have g1 : decide ((2147483648 : Int) ≤ (a : Int)) = true := decide_eq_true (by omega)
    obtain ⟨x, hx⟩ : ∃ x : Int, x = (a : Int) := ⟨_, rfl⟩
    rw [← hx] at g1 ⊢
    have hw : IntKind.u32.wrap (x - 2147483648) = x - 2147483648 := by rw [IntKind.wrap_u32']; omega
    have x0 : 0 ≤ x := by omega
    have x1 : x ≤ 4294967295 := by omega
    clear hx h h'
    go_enter Try.func16, Try.ntmps16
    go_wp2
    go_ret
    exact ⟨rfl, rfl⟩
set_option maxRecDepth 100000 in
set_option maxHeartbeats 2000000 in
theorem single_steps (a : Nat) (w : World) (h : a < 4294967296) :
    Calls Try.prog 4 #[.int .u32 a] w fun e w' => e = .returned (.bool true) ∧ Below w.heap.size w w' := by
  have c1 := fun w => above_any a w h
  have c2 := fun w => rabove_any a w h
  have c3 := fun w => below_any a w h
  have c4 := fun w => rbelow_any a w h
  have c5 := fun w => turned_any a w h
  have c6 := fun w => rturned_any a w h
  generalize fab a = A at *
  generalize fbe a = B at *
  generalize tn a = T at *
  have hB := Below.refl w.heap.size w
  go_enter Try.func4, Try.ntmps4
  go_wp2_with (first
    | (go_at_call 11; refine (c1 _).mono ?_; rintro e wq ⟨rfl, hq⟩; subst wq)
    | (go_at_call 12; refine (c2 _).mono ?_; rintro e wq ⟨rfl, hq⟩; have hB := bt hB hq)
    | (go_at_call 13; refine (c3 _).mono ?_; rintro e wq ⟨rfl, hq⟩; subst wq)
    | (go_at_call 14; refine (c4 _).mono ?_; rintro e wq ⟨rfl, hq⟩; have hB := bt hB hq)
    | (go_at_call 15; refine (c5 _).mono ?_; rintro e wq ⟨rfl, hq⟩; subst wq)
    | (go_at_call 16; refine (c6 _).mono ?_; rintro e wq ⟨rfl, hq⟩; subst wq))
  go_ret
  exact ⟨rfl, hB⟩
end Go.Proofs.Ytiohmcfabjmcoaa
