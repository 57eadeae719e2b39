import Derived.Test.YtiohmcfabjmcoaaSBackA
import Derived.Test.YtiohmcfabjmcoaaSRest
namespace Go.Proofs.Ytiohmcfabjmcoaa
open Go.RowKit

/-- made wide and narrow again -/
theorem back_any (x : Nat) (w : World) (hx : x < 4294967296) :
    Calls Try.prog 18 #[.int .u64 ((if ok x = true then wide x else 9221120237041090560 : Nat) : Int)] w fun e w' => e = .returned (.int .u32 (on x)) ∧ ∃ m, w' = w.drewN m := by
  unfold on
  by_cases ox : ok x = true
  · rw [if_pos ox, if_pos ox]
    obtain ⟨e1, e2, e3⟩ := narrow_wide x hx ox
    have := narrow_any (wide x) w e2 e3
    rw [e1] at this
    exact this.mono fun e w' ⟨h1, h2⟩ => ⟨h1, 0, h2⟩
  · rw [if_neg ox, if_neg ox]
    exact narrow_nan 9221120237041090560 w (by decide +kernel)
theorem pcl {w W : World} {x y z u : Value} {ty : TypeId} (h : Below (w.alloc (.cells #[x, y, z, u] ty)).heap.size (w.alloc (.cells #[x, y, z, u] ty)) W) :
    W.cell? ⟨w.heap.size, 0, none⟩ = some x ∧ W.cell? ⟨w.heap.size, 1, none⟩ = some y ∧ W.cell? ⟨w.heap.size, 2, none⟩ = some z ∧ W.cell? ⟨w.heap.size, 3, none⟩ = some u :=
  ⟨(h.cell (p := ⟨w.heap.size, 0, none⟩) (by simp)).trans (by simp), (h.cell (p := ⟨w.heap.size, 1, none⟩) (by simp)).trans (by simp), (h.cell (p := ⟨w.heap.size, 2, none⟩) (by simp)).trans (by simp), (h.cell (p := ⟨w.heap.size, 3, none⟩) (by simp)).trans (by simp)⟩
theorem tn_tn (a : Nat) (h : a < 4294967296) : tn (tn a) = a := by unfold tn; split <;> split <;> omega
set_option maxRecDepth 100000 in
set_option maxHeartbeats 4000000 in
theorem single_back (a : Nat) (p : Int × Bool × Nat × Int) (w : World) (h : a < 4294967296) :
    Calls Try.prog 5 #[.int .u32 a, pv p] w fun e w' => e = .returned (.bool true) ∧ Below w.heap.size w w' := by
  have sp := fun w => split_any a w h
  have js := fun w => join_split a w h
  have o1 := fun w => one_any a w h
  have wd1 := fun w => wide_any a w h (wfine_all a)
  have bk := fun w => back_any a w h
  generalize (if ok a = true then wide a else 9221120237041090560) = A64 at wd1 bk
  have t1 := fun w => turned_any a w h
  have t2 := fun w => turned_any (tn a) w (tn_lt h)
  rw [tn_tn a h] at t2
  have ba := b_and a h
  have bt' := b_and (tn a) (tn_lt h)
  have em : tn a % 2147483648 = a % 2147483648 := by unfold tn; split <;> omega
  rw [em] at bt'
  have ne1 : ((tn a : Int) == (a : Int)) = false := by simp; unfold tn; split <;> omega
  have ja := fun w => join_any p w
  have z1 := fun w => awake_any w
  have s2 := fun w => split_any (jw p) w (jw_lt p)
  have al := fun w => alike_any p w
  generalize on a = O at *
  generalize tn a = T at *
  generalize a % 2147483648 = AM at *
  by_cases hE : prt (jw p) = p
  · rw [if_pos hE] at ja
    rw [hE] at s2
    clear hE
    generalize jw p = X at *
    generalize prt a = PA at *
    obtain ⟨s, m, n, q⟩ := p
    obtain ⟨s', m', n', q'⟩ := PA
    simp only [pv] at *
    have hB := Below.refl (w.alloc (.cells #[.int .u8 s, .bool m, .int .u32 (n : Int), .int .i64 q] 25)).heap.size (w.alloc (.cells #[.int .u8 s, .bool m, .int .u32 (n : Int), .int .i64 q] 25))
    go_enter Try.func5, Try.ntmps5
    go_wp2_with (first
      | (go_at_call 7; (first | with_reducible refine (sp _).mono ?_ | with_reducible refine (s2 _).mono ?_); rintro e wq ⟨rfl, hq⟩; have hB := bt (by first | exact hB | exact bdn hB | exact Below.drew hB | exact Below.drew (Below.drew hB)) hq; obtain ⟨c0, c1, c2, c3⟩ := pcl hB)
      | (go_at_call 9; (first | with_reducible refine (js _).mono ?_ | with_reducible refine (ja _).mono ?_); rintro e wq ⟨rfl, hq⟩; have hB := bt (by first | exact hB | exact bdn hB | exact Below.drew hB | exact Below.drew (Below.drew hB)) hq; obtain ⟨c0, c1, c2, c3⟩ := pcl hB)
      | (go_at_call 17; (first | with_reducible refine (o1 _).mono ?_); rintro e wq ⟨rfl, hq⟩; subst wq)
      | (go_at_call 19; (first | with_reducible refine (wd1 _).mono ?_); rintro e wq ⟨rfl, hq⟩; subst wq)
      | (go_at_call 18; (first | with_reducible refine (bk _).mono ?_); rintro e wq ⟨rfl, mq, hq⟩; subst wq; have hB := bdn (n := mq) hB)
      | (go_at_call 15; (first | with_reducible refine (t1 _).mono ?_ | with_reducible refine (t2 _).mono ?_); rintro e wq ⟨rfl, hq⟩; subst wq)
      | (go_at_call 20; (first | with_reducible refine (z1 _).mono ?_); rintro e wq ⟨rfl, mq, hq⟩; subst wq; have hB := bdn (n := mq) hB)
      | (go_at_call 6; (first | with_reducible refine (al _).mono ?_); rintro e wq ⟨rfl, hq⟩; have hB := bt (by first | exact hB | exact bdn hB | exact Below.drew hB | exact Below.drew (Below.drew hB)) hq; obtain ⟨c0, c1, c2, c3⟩ := pcl hB))
    go_region_with (first
      | (go_at_call 7; (first | with_reducible refine (sp _).mono ?_ | with_reducible refine (s2 _).mono ?_); rintro e wq ⟨rfl, hq⟩; have hB := bt (by first | exact hB | exact bdn hB | exact Below.drew hB | exact Below.drew (Below.drew hB)) hq; obtain ⟨c0, c1, c2, c3⟩ := pcl hB)
      | (go_at_call 6; (first | with_reducible refine (al _).mono ?_); rintro e wq ⟨rfl, hq⟩; have hB := bt (by first | exact hB | exact bdn hB | exact Below.drew hB | exact Below.drew (Below.drew hB)) hq; obtain ⟨c0, c1, c2, c3⟩ := pcl hB))
    all_goals go_wp2
    all_goals go_ret
    all_goals exact ⟨rfl, bt (bel (Below.refl _ w)) (by first | exact hB | exact bdn hB | exact Below.drew hB | exact Below.drew (Below.drew hB))⟩
  · rw [if_neg hE] at ja
    clear hE s2 al
    generalize prt a = PA at *
    obtain ⟨s, m, n, q⟩ := p
    obtain ⟨s', m', n', q'⟩ := PA
    simp only [pv] at *
    have hB := Below.refl (w.alloc (.cells #[.int .u8 s, .bool m, .int .u32 (n : Int), .int .i64 q] 25)).heap.size (w.alloc (.cells #[.int .u8 s, .bool m, .int .u32 (n : Int), .int .i64 q] 25))
    go_enter Try.func5, Try.ntmps5
    go_wp2_with (first
      | (go_at_call 7; with_reducible refine (sp _).mono ?_; rintro e wq ⟨rfl, hq⟩; have hB := bt (by first | exact hB | exact bdn hB | exact Below.drew hB | exact Below.drew (Below.drew hB)) hq; obtain ⟨c0, c1, c2, c3⟩ := pcl hB)
      | (go_at_call 9; (first | with_reducible refine (js _).mono ?_ | with_reducible refine (ja _).mono ?_); rintro e wq ⟨rfl, hq⟩; have hB := bt (by first | exact hB | exact bdn hB | exact Below.drew hB | exact Below.drew (Below.drew hB)) hq; obtain ⟨c0, c1, c2, c3⟩ := pcl hB)
      | (go_at_call 17; (first | with_reducible refine (o1 _).mono ?_); rintro e wq ⟨rfl, hq⟩; subst wq)
      | (go_at_call 19; (first | with_reducible refine (wd1 _).mono ?_); rintro e wq ⟨rfl, hq⟩; subst wq)
      | (go_at_call 18; (first | with_reducible refine (bk _).mono ?_); rintro e wq ⟨rfl, mq, hq⟩; subst wq; have hB := bdn (n := mq) hB)
      | (go_at_call 15; (first | with_reducible refine (t1 _).mono ?_ | with_reducible refine (t2 _).mono ?_); rintro e wq ⟨rfl, hq⟩; subst wq)
      | (go_at_call 20; (first | with_reducible refine (z1 _).mono ?_); rintro e wq ⟨rfl, mq, hq⟩; subst wq; have hB := bdn (n := mq) hB))
    go_ret
    exact ⟨rfl, bt (bel (Below.refl _ w)) (by first | exact hB | exact bdn hB | exact Below.drew hB)⟩
end Go.Proofs.Ytiohmcfabjmcoaa
