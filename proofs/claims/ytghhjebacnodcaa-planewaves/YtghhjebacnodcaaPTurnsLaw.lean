import Derived.Test.YtghhjebacnodcaaPTurnsL
namespace Go.Proofs.Ytghhjebacnodcaa
open Go.RowKit
theorem mulv_sm {a b c d r i r' i' : Nat} (h : MulV a b c d r i) (h' : MulV c d a b r' i') : (sm r r' && sm i i') = true := by
  obtain ⟨⟨w0, w1, w2, rfl⟩, ⟨w3, w4, w5, rfl⟩⟩ := h
  obtain ⟨⟨v0, v1, v2, rfl⟩, ⟨v3, v4, v5, rfl⟩⟩ := h'
  rw [fv_sm (sub_sm (fv_sm (mul_comm64 a c) _ _) (fv_sm (mul_comm64 b d) _ _)), Bool.true_and]
  exact fv_sm ((add_comm64 _ _).trans (add_sm (fv_sm (mul_comm64 b c) _ _) (fv_sm (mul_comm64 a d) _ _))) _ _
theorem addv_sm {a b c d r i r' i' : Nat} (h : AddV a b c d r i) (h' : AddV c d a b r' i') : (sm r r' && sm i i') = true := by
  obtain ⟨w0, w1, rfl, rfl⟩ := h
  obtain ⟨v0, v1, rfl, rfl⟩ := h'
  rw [fv_sm (add_comm64 a c), fv_sm (add_comm64 b d)]; rfl
theorem crossv_sm {a b c d u v : Nat} (h : CrossV a b c d u) (h' : CrossV c d a b v) :
    ((FloatKind.f64.format.order u (ng v) == some .eq) || (nn u && nn v)) = true := by
  obtain ⟨w0, w1, w2, rfl⟩ := h
  obtain ⟨v0, v1, v2, rfl⟩ := h'
  exact cross_swap _ _ _ _ (fv_sm (mul_comm64 a d) _ _) (fv_sm (mul_comm64 b c) _ _) _ _
theorem sm2 (x y : Nat) : (sm x x && sm y y) = true := by simp [sm]
theorem same_true {a b c d : Nat} (h : (sm a c && sm b d) = true) (w : World) :
    Calls Try.prog 21 #[.complex .f64 a b, .complex .f64 c d] w fun e w' => e = .returned (.bool true) ∧ w' = w := by
  have := same_any a b c d w
  rw [h] at this
  exact this
theorem pel {a w : World} {o : Obj} (h : Below a.heap.size a w) : Below a.heap.size a (w.alloc o) := h.alloc h.size o
theorem bel5 {w : World} (o1 o2 o3 o4 : Obj) (m n : Nat) : Below w.heap.size w ((((((w.alloc o1).alloc o2).drewN m).alloc o3).alloc o4).drewN n) :=
  below_drewN (pel (pel (below_drewN (pel (pel (Below.refl _ _))) _))) _
set_option maxRecDepth 100000 in
theorem plane_turns (a b c d : Nat) (p q : Int) (w : World) (ha : a < 18446744073709551616) (hb : b < 18446744073709551616) :
    Calls Try.prog 4 #[.agg #[.float .f64 a, .float .f64 b], .agg #[.float .f64 c, .float .f64 d], .int .i64 p, .int .i64 q] w fun e w' => e = .returned (.bool true) ∧ Below w.heap.size w w' := by
  have g1 : p.tmod 1000000007 < 1000000007 := Int.tmod_lt_of_pos _ (by decide)
  have g1' : -1000000007 < p.tmod 1000000007 := Int.lt_tmod_of_pos _ (by decide)
  have g2 : q.tmod 1000000007 < 1000000007 := Int.tmod_lt_of_pos _ (by decide)
  have g2' : -1000000007 < q.tmod 1000000007 := Int.lt_tmod_of_pos _ (by decide)
  have ht := tur_tur (p.tmod 1000000007) (q.tmod 1000000007) a b ha hb
  go_enter Try.func4, Try.ntmps4
  go_wp2_with (first
    | (go_at_call 7; refine (plives_any _).mono ?_; rintro e wq ⟨rfl, m0, hq⟩; subst wq)
    | (go_at_call 12; refine (lof_any _ _ _).mono ?_; rintro e wq ⟨rfl, o0, hq⟩; subst wq)
    | (go_at_call 20; with_reducible refine (cross_any a b c d _).mono ?_; rintro e wq ⟨u, m1, rfl, hq, hu⟩; subst wq)
    | (go_at_call 20; with_reducible refine (cross_any c d a b _).mono ?_; rintro e wq ⟨v, m2, rfl, hq, hv⟩; subst wq))
  have hc := crossv_sm hu hv
  have n1 := ne_self64 u
  have n2 := ne_self64 v
  have hcs : (FloatKind.f64.format.order u (Op.negFloat .f64 v) == some .eq) = true ∨ (FloatKind.f64.format.order u (Op.negFloat .f64 v) == some .eq) = false ∧ nn u = true ∧ nn v = true := by
    cases h : (FloatKind.f64.format.order u (Op.negFloat .f64 v) == some .eq)
    · right
      have h' : (FloatKind.f64.format.order u (ng v) == some .eq) = false := h
      rw [h'] at hc
      simpa using hc
    · exact Or.inl rfl
  rcases hcs with h0 | ⟨h0, h1, h2⟩
  all_goals (try rw [h1] at n1; rw [h2] at n2)
  all_goals
    go_wp2_with (first
      | (go_at_call 22; refine (turn_any _ _ _ _).mono ?_; rintro e wq ⟨rfl, hq⟩; subst wq)
      | (go_at_call 23; refine (mul_any _ _ _ _ _).mono ?_; rintro e wq ⟨r, i, m3, rfl, hq, hm⟩; subst wq)
      | (go_at_call 24; refine (add_any _ _ _ _ _).mono ?_; rintro e wq ⟨r, i, m3, rfl, hq, hm⟩; subst wq)
      | (go_at_call 21; refine (same_true (by first | exact sm2 _ _ | exact mulv_sm (by assumption) (by assumption) | exact addv_sm (by assumption) (by assumption)) _).mono ?_; rintro e wq ⟨rfl, hq⟩; subst wq))
    go_ret
    exact ⟨rfl, bel5 _ _ _ _ _ _⟩
end Go.Proofs.Ytghhjebacnodcaa
