import Derived.Test.YtiohmcfabjmcoaaSParB
namespace Go.Proofs.Ytiohmcfabjmcoaa
open Go.RowKit

set_option maxRecDepth 100000 in
theorem shut_noneT (w : World) (o1 : bits .or .u64 2139095040 4194304 = 2143289344) :
    Calls Try.prog 45 #[.agg #[.int .i64 24, .int .i64 (-149), .int .i64 104], .agg #[.int .u8 1, .bool true, .int .u64 0, .int .i64 0]] w fun e w' => e = .returned (.int .u64 2143289344) ∧ Below w.heap.size w w' := by
  go_enter Try.func45, Try.ntmps45
  go_wp2_with (first
    | (go_at_call 50; refine (most_any _).mono ?_; rintro e wq ⟨rfl, hq⟩; subst wq)
    | (go_at_call 51; refine (bitsof_any _).mono ?_; rintro e wq ⟨rfl, hq⟩; subst wq))
  go_ret
  exact ⟨rfl, by repeat (first | exact Below.refl _ _ | refine bel ?_)⟩
theorem lay_noneM (m : Bool) (w : World) :
    Calls Try.prog 24 #[.agg #[.int .u8 1, .bool m, .int .u64 0, .int .i64 0]] w fun e w' => e = .returned (.int .u32 ((2143289344 : Nat) : Int)) ∧ Below w.heap.size w w' := by
  cases m
  · exact lay_none w
  · exact lay_of _ 2143289344 w (by decide) (fun w => shut_noneT w (b64_or 23 2139095040 4194304 (by decide) (by decide) (by decide))) ⟨_, _, _, _, rfl⟩
theorem lay_small (m : Bool) (n : Nat) (q : Int) (w : World) (hs : n < 8388608) :
    Calls Try.prog 24 #[.agg #[.int .u8 3, .bool m, .int .u64 n, .int .i64 q]] w fun e w' => e = .returned (.int .u32 (wrd m n : Nat)) ∧ Below w.heap.size w w' := by
  cases m
  · refine lay_of _ (wrd false n) w (wrd_lt _ _ (by omega)) (fun w => shut_small0 n _ (by omega) _ ?_ w) ⟨_, _, _, _, rfl⟩
    exact b64_or 31 0 n (by decide) (by omega) (by omega)
  · refine lay_of _ (wrd true n) w (wrd_lt _ _ (by omega)) (fun w => shut_small1 n _ (by omega) _ ?_ w) ⟨_, _, _, _, rfl⟩
    exact b64_or 31 2147483648 n (by decide) (by omega) (by omega)
def jr (p : Int × Bool × Nat × Int) : Value := if prt (jw p) = p then .tuple #[.int .u32 (jw p), .int .i64 0] else .tuple #[.int .u32 0, .int .i64 30]
theorem jr_yes (p : Int × Bool × Nat × Int) (h : prt (jw p) = p) : jr p = .tuple #[.int .u32 (jw p), .int .i64 0] := by unfold jr; rw [if_pos h]
theorem jr_no (p : Int × Bool × Nat × Int) (h : prt (jw p) ≠ p) : jr p = .tuple #[.int .u32 0, .int .i64 30] := by unfold jr; rw [if_neg h]
theorem no_vld {p : Int × Bool × Nat × Int} (h : ¬ vld p) : prt (jw p) ≠ p := fun e => h (by rw [← e]; exact prt_vld _)
theorem rjoin_any (p : Int × Bool × Nat × Int) (w : World) (hn : p.2.2.1 < 4294967296) :
    Calls Try.prog 10 #[pv p] w fun e w' => e = .returned (jr p) ∧ Below w.heap.size w w' := by
  obtain ⟨s, m, n, q⟩ := p
  simp only at hn
  by_cases h1 : s = 1
  · subst h1
    have ej : jw (1, m, n, q) = 2143289344 := rfl
    have sp : ∀ w, Calls Try.prog 8 #[.int .u32 ((2143289344 : Nat) : Int)] w fun e w' => e = .returned (pv (1, false, 0, 0)) ∧ Below w.heap.size w w' := fun w => by
      have := rsplit_any 2143289344 w (by decide)
      rwa [prt_none] at this
    have l := fun w => lay_noneM m w
    by_cases hm : m = false
    · subst hm
      by_cases hn0 : n = 0
      · subst hn0
        by_cases hq0 : q = 0
        · subst hq0
          rw [jr_yes _ (by rw [ej]; exact prt_none), ej]
          exact rj10 false 0 0 2143289344 w l sp
        · rw [jr_no _ (by rw [ej, prt_none]; intro e; simp only [Prod.mk.injEq] at e; exact hq0 e.2.2.2.symm)]
          exact rj14 false 0 q 2143289344 0 (by simp; omega) w l sp
      · rw [jr_no _ (by rw [ej, prt_none]; intro e; simp only [Prod.mk.injEq] at e; exact hn0 e.2.2.1.symm)]
        exact rj13 false n q 2143289344 0 0 (by simp; omega) w l sp
    · have hmt : m = true := by simpa using hm
      subst hmt
      rw [jr_no _ (by rw [ej, prt_none]; intro e; simp only [Prod.mk.injEq] at e; exact absurd e.2.1 (by decide))]
      exact rj12 true n q 2143289344 false 0 0 (by decide) w l sp
  by_cases h2 : s = 2
  · subst h2
    have ej : jw (2, m, n, q) = wrd m 2139095040 := rfl
    have sp : ∀ w, Calls Try.prog 8 #[.int .u32 ((wrd m 2139095040 : Nat) : Int)] w fun e w' => e = .returned (pv (2, m, 0, 0)) ∧ Below w.heap.size w w' := fun w => by
      have := rsplit_any (wrd m 2139095040) w (wrd_lt _ _ (by decide))
      rwa [prt_endless] at this
    have l := fun w => lay_endless m w
    by_cases hn0 : n = 0
    · subst hn0
      by_cases hq0 : q = 0
      · subst hq0
        rw [jr_yes _ (by rw [ej]; exact prt_endless m), ej]
        exact rj20 m 0 0 _ w l sp
      · rw [jr_no _ (by rw [ej, prt_endless]; intro e; simp only [Prod.mk.injEq] at e; exact hq0 e.2.2.2.symm)]
        exact rj24 m 0 q _ 0 (by simp; omega) w l sp
    · rw [jr_no _ (by rw [ej, prt_endless]; intro e; simp only [Prod.mk.injEq] at e; exact hn0 e.2.2.1.symm)]
      exact rj23 m n q _ 0 0 (by simp; omega) w l sp
  by_cases h3 : s = 3
  · subst h3
    by_cases r1 : ¬ n < 16777216
    · rw [jr_no _ (no_vld (by
        intro v
        rcases v with ⟨v, -⟩ | ⟨v, -⟩ | ⟨-, v, -⟩
        · simp at v
        · simp at v
        · exact r1 v))]
      exact rj3a m n q w (decide_eq_true (by omega))
    have r1 := Decidable.not_not.1 r1
    by_cases r2 : q < -149
    · rw [jr_no _ (no_vld (by
        intro v
        rcases v with ⟨v, -⟩ | ⟨v, -⟩ | ⟨-, -, k, -, v, -⟩
        · simp at v
        · simp at v
        · simp only at v; omega))]
      exact rj3b m n q w (decide_eq_false (by omega)) (decide_eq_true r2)
    by_cases r3 : 104 < q
    · rw [jr_no _ (no_vld (by
        intro v
        rcases v with ⟨v, -⟩ | ⟨v, -⟩ | ⟨-, -, k, hk, v, -⟩
        · simp at v
        · simp at v
        · simp only at v; omega))]
      exact rj3c m n q w (decide_eq_false (by omega)) (decide_eq_false r2) (decide_eq_true r3)
    obtain ⟨k, rfl⟩ : ∃ k : Nat, q = -149 + (k : Int) := ⟨(q + 149).toNat, by omega⟩
    have hk : k < 254 := by omega
    have hw : IntKind.u64.wrap (n : Int) = (n : Int) := by
      show (n : Int) % 18446744073709551616 = _
      omega
    have ej : jw (3, m, n, -149 + (k : Int)) = wrd m (k * 8388608 + n) := by
      show sx m (fx n (-149 + (k : Int))) = _
      rw [fx_fin n k r1 hk, sx_wrd _ _ (by omega)]
    by_cases hv : k = 0 ∨ 8388608 ≤ n
    · have hp := prt_fin m n k r1 hk hv
      have sp : ∀ w, Calls Try.prog 8 #[.int .u32 ((wrd m (k * 8388608 + n) : Nat) : Int)] w fun e w' => e = .returned (pv (3, m, n, -149 + (k : Int))) ∧ Below w.heap.size w w' := fun w => by
        have := rsplit_any (wrd m (k * 8388608 + n)) w (wrd_lt _ _ (by omega))
        rwa [hp] at this
      rw [jr_yes _ (by rw [ej]; exact hp), ej]
      exact rj30 m n _ _ w hw (decide_eq_false (by omega)) (decide_eq_false r2) (decide_eq_false r3) (fun w => lay_fin m n k w r1 hk hv) sp
    · have hp := prt_fin m n 0 r1 (by decide) (Or.inl rfl)
      rw [Nat.zero_mul, Nat.zero_add] at hp
      have sp : ∀ w, Calls Try.prog 8 #[.int .u32 ((wrd m n : Nat) : Int)] w fun e w' => e = .returned (pv (3, m, n, -149)) ∧ Below w.heap.size w w' := fun w => by
        have := rsplit_any (wrd m n) w (wrd_lt _ _ (by omega))
        rw [hp] at this
        exact this
      rw [jr_no _ (no_vld (by
        intro v
        rcases v with ⟨v, -⟩ | ⟨v, -⟩ | ⟨-, -, k', hk', v, v2⟩
        · simp at v
        · simp at v
        · simp only at v v2; omega))]
      exact rj34 m n _ (wrd m n) (-149) (by simp; omega) w hw (decide_eq_false (by omega)) (decide_eq_false r2) (decide_eq_false r3) (fun w => lay_small m n _ w (by omega)) sp
  · rw [jr_no _ (no_vld (by
      intro v
      rcases v with ⟨v, -⟩ | ⟨v, -⟩ | ⟨v, -⟩
      · exact h1 v
      · exact h2 v
      · exact h3 v))]
    exact rjo s m n q w (by simp; omega) (by simp; omega) (by simp; omega)
set_option maxRecDepth 100000 in
set_option maxHeartbeats 2000000 in
theorem single_parts (a : Nat) (p : Int × Bool × Nat × Int) (w : World) (h : a < 4294967296) (hn : p.2.2.1 < 4294967296) :
    Calls Try.prog 3 #[.int .u32 a, pv p] w fun e w' => e = .returned (.bool true) ∧ Below w.heap.size w w' := by
  have s1 := fun w => split_any a w h
  have s2 := fun w => rsplit_any a w h
  have al := fun w => alike_any (prt a) w
  have j1 := fun w => join_any p w
  have j2 := fun w => rjoin_any p w hn
  clear hn
  generalize prt a = PA at *
  by_cases hE : prt (jw p) = p
  · rw [if_pos hE] at j1
    rw [jr_yes p hE] at j2
    clear hE
    generalize jw p = X at *
    obtain ⟨s, m, n, q⟩ := p
    obtain ⟨s', m', n', q'⟩ := PA
    simp only [pv] at *
    have hB := Below.refl (w.alloc (.cells #[.int .u8 s, .bool m, .int .u32 (n : Int), .int .i64 q] 25)).heap.size (w.alloc (.cells #[.int .u8 s, .bool m, .int .u32 (n : Int), .int .i64 q] 25))
    go_enter Try.func3, Try.ntmps3
    go_wp2_with (first
      | (go_at_call 7; (first | with_reducible refine (s1 _).mono ?_); rintro e wq ⟨rfl, hq⟩; have hB := bt (by first | exact hB | exact bdn hB | exact Below.drew hB | exact Below.drew (Below.drew hB)) hq; obtain ⟨c0, c1, c2, c3⟩ := pcl hB)
      | (go_at_call 8; (first | with_reducible refine (s2 _).mono ?_); rintro e wq ⟨rfl, hq⟩; have hB := bt (by first | exact hB | exact bdn hB | exact Below.drew hB | exact Below.drew (Below.drew hB)) hq; obtain ⟨c0, c1, c2, c3⟩ := pcl hB)
      | (go_at_call 6; (first | with_reducible refine (al _).mono ?_); rintro e wq ⟨rfl, hq⟩; have hB := bt (by first | exact hB | exact bdn hB | exact Below.drew hB | exact Below.drew (Below.drew hB)) hq; obtain ⟨c0, c1, c2, c3⟩ := pcl hB)
      | (go_at_call 9; (first | with_reducible refine (j1 _).mono ?_); rintro e wq ⟨rfl, hq⟩; have hB := bt (by first | exact hB | exact bdn hB | exact Below.drew hB | exact Below.drew (Below.drew hB)) hq; obtain ⟨c0, c1, c2, c3⟩ := pcl hB)
      | (go_at_call 10; (first | with_reducible refine (j2 _).mono ?_); rintro e wq ⟨rfl, hq⟩; have hB := bt (by first | exact hB | exact bdn hB | exact Below.drew hB | exact Below.drew (Below.drew hB)) hq; obtain ⟨c0, c1, c2, c3⟩ := pcl hB))
    go_ret
    exact ⟨rfl, bt (bel (Below.refl _ w)) (by first | exact hB | exact bdn hB | exact Below.drew hB)⟩
  · rw [if_neg hE] at j1
    rw [jr_no p hE] at j2
    clear hE
    obtain ⟨s, m, n, q⟩ := p
    obtain ⟨s', m', n', q'⟩ := PA
    simp only [pv] at *
    have hB := Below.refl (w.alloc (.cells #[.int .u8 s, .bool m, .int .u32 (n : Int), .int .i64 q] 25)).heap.size (w.alloc (.cells #[.int .u8 s, .bool m, .int .u32 (n : Int), .int .i64 q] 25))
    go_enter Try.func3, Try.ntmps3
    go_wp2_with (first
      | (go_at_call 7; (first | with_reducible refine (s1 _).mono ?_); rintro e wq ⟨rfl, hq⟩; have hB := bt (by first | exact hB | exact bdn hB | exact Below.drew hB | exact Below.drew (Below.drew hB)) hq; obtain ⟨c0, c1, c2, c3⟩ := pcl hB)
      | (go_at_call 8; (first | with_reducible refine (s2 _).mono ?_); rintro e wq ⟨rfl, hq⟩; have hB := bt (by first | exact hB | exact bdn hB | exact Below.drew hB | exact Below.drew (Below.drew hB)) hq; obtain ⟨c0, c1, c2, c3⟩ := pcl hB)
      | (go_at_call 6; (first | with_reducible refine (al _).mono ?_); rintro e wq ⟨rfl, hq⟩; have hB := bt (by first | exact hB | exact bdn hB | exact Below.drew hB | exact Below.drew (Below.drew hB)) hq; obtain ⟨c0, c1, c2, c3⟩ := pcl hB)
      | (go_at_call 9; (first | with_reducible refine (j1 _).mono ?_); rintro e wq ⟨rfl, hq⟩; have hB := bt (by first | exact hB | exact bdn hB | exact Below.drew hB | exact Below.drew (Below.drew hB)) hq; obtain ⟨c0, c1, c2, c3⟩ := pcl hB)
      | (go_at_call 10; (first | with_reducible refine (j2 _).mono ?_); rintro e wq ⟨rfl, hq⟩; have hB := bt (by first | exact hB | exact bdn hB | exact Below.drew hB | exact Below.drew (Below.drew hB)) hq; obtain ⟨c0, c1, c2, c3⟩ := pcl hB))
    go_ret
    exact ⟨rfl, bt (bel (Below.refl _ w)) (by first | exact hB | exact bdn hB | exact Below.drew hB)⟩
end Go.Proofs.Ytiohmcfabjmcoaa
