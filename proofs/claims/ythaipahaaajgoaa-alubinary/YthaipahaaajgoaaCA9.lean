import Derived.Test.YthaipahaaajgoaaCA6
import Derived.Test.YthaipahaaajgoaaCA5
import Derived.Test.YthaipahaaajgoaaCA8
namespace Go.Proofs.Ythaipahaaajgoaa
open Go.RowKit

theorem rnd_nv (m : Bool) (v : Value) (x k : Nat) (P : Int) (w : World) (h : NatV w v x) (hx : x < 2 ^ (32 * k)) (hk : k ≤ 100) (hP : -5000 ≤ P) (hP2 : P ≤ 5000) :
    Calls Try.prog 39 #[.agg #[.int .i64 24, .int .i64 (-149), .int .i64 104], .bool m, v, .int .i64 P, .bool false] w fun e w' => (∃ n p, e = .returned (hdV m n p) ∧ Fits n p (rg Ieee.single x P)) ∧ Below w.heap.size w w' := by
  obtain ⟨ao, cap, zs, rfl, hc, hn', hval, hN, hW, hr⟩ := h
  have := rnd_any m ao cap zs P w (by have := len_pow hN hval k hx; omega) hr hW hN hP hP2
  rw [hval] at this
  exact this
theorem vnone_b (w : World) : Calls Try.prog 36 #[] w fun e w' => e = .returned vN ∧ Below w.heap.size w w' := (vnone_any w).mono fun e w' ⟨he, h⟩ => ⟨he, by rw [h]; exact bel (Below.refl _ _)⟩
theorem vendless_b (m : Bool) (w : World) : Calls Try.prog 46 #[.bool m] w fun e w' => e = .returned (vE m) ∧ Below w.heap.size w w' := (vendless_any m w).mono fun e w' ⟨he, h⟩ => ⟨he, by rw [h]; exact bel (Below.refl _ _)⟩
set_option maxRecDepth 100000 in
set_option maxHeartbeats 4000000 in
theorem pr_n1 (sb : Int) (mb : Bool) (nb pb : Int) (w : World) :
    Calls Try.prog 33 #[.agg #[.int .i64 24, .int .i64 (-149), .int .i64 104], .agg #[.int .u8 1, .bool false, .int .u64 0, .int .i64 0], .agg #[.int .u8 sb, .bool mb, .int .u64 nb, .int .i64 pb]] w fun e w' => e = .returned (vN) ∧ Below w.heap.size w w' := by
  have HB : Below ((((w.alloc ob).alloc (oV 1 false 0 0)).alloc (oV sb mb nb pb)).alloc oz).heap.size ((((w.alloc ob).alloc (oV 1 false 0 0)).alloc (oV sb mb nb pb)).alloc oz) ((((w.alloc ob).alloc (oV 1 false 0 0)).alloc (oV sb mb nb pb)).alloc oz) := Below.refl _ _
  go_enter Try.func33, Try.ntmps33
  go_wp2_with (first
    | (go_at_call 36; with_reducible refine (vnone_b _).mono ?_; rintro e w1 ⟨rfl, hb1⟩; replace HB := bt2 hb1 (show Below ((((w.alloc ob).alloc (oV 1 false 0 0)).alloc (oV sb mb nb pb)).alloc oz).heap.size ((((w.alloc ob).alloc (oV 1 false 0 0)).alloc (oV sb mb nb pb)).alloc oz) _ from by (repeat (first | exact HB | exact Below.refl _ _ | with_reducible refine bel ?_ | with_reducible refine Below.drew ?_ | with_reducible refine bt3 ?_))); obtain ⟨x0, x1, x2, x3, x4, x5, x6, x7, x8, x9, x10⟩ := jF HB; obtain ⟨r0, r1, r2, r3, q0, q1, q2, q3⟩ := jA HB))
  refine bodyPost_ret (v := vN) (by simp [results, Try.f33, go_sem, r0, r1, r2, r3]) rfl ?_
  exact ⟨rfl, jB HB⟩
set_option maxRecDepth 100000 in
set_option maxHeartbeats 4000000 in
theorem pr_n2 (sa : Int) (ma : Bool) (na pa : Int) (h : (sa == 1) = false) (w : World) :
    Calls Try.prog 33 #[.agg #[.int .i64 24, .int .i64 (-149), .int .i64 104], .agg #[.int .u8 sa, .bool ma, .int .u64 na, .int .i64 pa], .agg #[.int .u8 1, .bool false, .int .u64 0, .int .i64 0]] w fun e w' => e = .returned (vN) ∧ Below w.heap.size w w' := by
  have HB : Below ((((w.alloc ob).alloc (oV sa ma na pa)).alloc (oV 1 false 0 0)).alloc oz).heap.size ((((w.alloc ob).alloc (oV sa ma na pa)).alloc (oV 1 false 0 0)).alloc oz) ((((w.alloc ob).alloc (oV sa ma na pa)).alloc (oV 1 false 0 0)).alloc oz) := Below.refl _ _
  go_enter Try.func33, Try.ntmps33
  go_wp2_with (first
    | (go_at_call 36; with_reducible refine (vnone_b _).mono ?_; rintro e w1 ⟨rfl, hb1⟩; replace HB := bt2 hb1 (show Below ((((w.alloc ob).alloc (oV sa ma na pa)).alloc (oV 1 false 0 0)).alloc oz).heap.size ((((w.alloc ob).alloc (oV sa ma na pa)).alloc (oV 1 false 0 0)).alloc oz) _ from by (repeat (first | exact HB | exact Below.refl _ _ | with_reducible refine bel ?_ | with_reducible refine Below.drew ?_ | with_reducible refine bt3 ?_))); obtain ⟨x0, x1, x2, x3, x4, x5, x6, x7, x8, x9, x10⟩ := jF HB; obtain ⟨r0, r1, r2, r3, q0, q1, q2, q3⟩ := jA HB))
  refine bodyPost_ret (v := vN) (by simp [results, Try.f33, go_sem, r0, r1, r2, r3]) rfl ?_
  exact ⟨rfl, jB HB⟩
set_option maxRecDepth 100000 in
set_option maxHeartbeats 4000000 in
theorem pr_ee (ma mb mm : Bool) (hmm : (!(ma == mb)) = mm) (w : World) :
    Calls Try.prog 33 #[.agg #[.int .i64 24, .int .i64 (-149), .int .i64 104], .agg #[.int .u8 2, .bool ma, .int .u64 0, .int .i64 0], .agg #[.int .u8 2, .bool mb, .int .u64 0, .int .i64 0]] w fun e w' => e = .returned (vE mm) ∧ Below w.heap.size w w' := by
  have HB : Below ((((w.alloc ob).alloc (oV 2 ma 0 0)).alloc (oV 2 mb 0 0)).alloc oz).heap.size ((((w.alloc ob).alloc (oV 2 ma 0 0)).alloc (oV 2 mb 0 0)).alloc oz) ((((w.alloc ob).alloc (oV 2 ma 0 0)).alloc (oV 2 mb 0 0)).alloc oz) := Below.refl _ _
  go_enter Try.func33, Try.ntmps33
  go_wp2_with (first
    | (go_at_call 45; with_reducible refine (isn2 ma _).mono ?_; rintro e w1 ⟨rfl, hb1⟩; replace HB := bt2 hb1 (show Below ((((w.alloc ob).alloc (oV 2 ma 0 0)).alloc (oV 2 mb 0 0)).alloc oz).heap.size ((((w.alloc ob).alloc (oV 2 ma 0 0)).alloc (oV 2 mb 0 0)).alloc oz) _ from by (repeat (first | exact HB | exact Below.refl _ _ | with_reducible refine bel ?_ | with_reducible refine Below.drew ?_ | with_reducible refine bt3 ?_))); obtain ⟨x0, x1, x2, x3, x4, x5, x6, x7, x8, x9, x10⟩ := jF HB; obtain ⟨r0, r1, r2, r3, q0, q1, q2, q3⟩ := jA HB)
    | (go_at_call 45; with_reducible refine (isn2 mb _).mono ?_; rintro e w1 ⟨rfl, hb1⟩; replace HB := bt2 hb1 (show Below ((((w.alloc ob).alloc (oV 2 ma 0 0)).alloc (oV 2 mb 0 0)).alloc oz).heap.size ((((w.alloc ob).alloc (oV 2 ma 0 0)).alloc (oV 2 mb 0 0)).alloc oz) _ from by (repeat (first | exact HB | exact Below.refl _ _ | with_reducible refine bel ?_ | with_reducible refine Below.drew ?_ | with_reducible refine bt3 ?_))); obtain ⟨x0, x1, x2, x3, x4, x5, x6, x7, x8, x9, x10⟩ := jF HB; obtain ⟨r0, r1, r2, r3, q0, q1, q2, q3⟩ := jA HB)
    | (go_at_call 46; with_reducible refine (vendless_b mm _).mono ?_; rintro e w1 ⟨rfl, hb1⟩; replace HB := bt2 hb1 (show Below ((((w.alloc ob).alloc (oV 2 ma 0 0)).alloc (oV 2 mb 0 0)).alloc oz).heap.size ((((w.alloc ob).alloc (oV 2 ma 0 0)).alloc (oV 2 mb 0 0)).alloc oz) _ from by (repeat (first | exact HB | exact Below.refl _ _ | with_reducible refine bel ?_ | with_reducible refine Below.drew ?_ | with_reducible refine bt3 ?_))); obtain ⟨x0, x1, x2, x3, x4, x5, x6, x7, x8, x9, x10⟩ := jF HB; obtain ⟨r0, r1, r2, r3, q0, q1, q2, q3⟩ := jA HB))
  refine bodyPost_ret (v := vE mm) (by simp [results, Try.f33, go_sem, r0, r1, r2, r3]) rfl ?_
  exact ⟨rfl, jB HB⟩
set_option maxRecDepth 100000 in
set_option maxHeartbeats 4000000 in
theorem pr_ez (ma mb : Bool) (pb : Int) (w : World) :
    Calls Try.prog 33 #[.agg #[.int .i64 24, .int .i64 (-149), .int .i64 104], .agg #[.int .u8 2, .bool ma, .int .u64 0, .int .i64 0], .agg #[.int .u8 3, .bool mb, .int .u64 0, .int .i64 pb]] w fun e w' => e = .returned (vN) ∧ Below w.heap.size w w' := by
  have HB : Below ((((w.alloc ob).alloc (oV 2 ma 0 0)).alloc (oV 3 mb 0 pb)).alloc oz).heap.size ((((w.alloc ob).alloc (oV 2 ma 0 0)).alloc (oV 3 mb 0 pb)).alloc oz) ((((w.alloc ob).alloc (oV 2 ma 0 0)).alloc (oV 3 mb 0 pb)).alloc oz) := Below.refl _ _
  go_enter Try.func33, Try.ntmps33
  go_wp2_with (first
    | (go_at_call 45; with_reducible refine (isn2 ma _).mono ?_; rintro e w1 ⟨rfl, hb1⟩; replace HB := bt2 hb1 (show Below ((((w.alloc ob).alloc (oV 2 ma 0 0)).alloc (oV 3 mb 0 pb)).alloc oz).heap.size ((((w.alloc ob).alloc (oV 2 ma 0 0)).alloc (oV 3 mb 0 pb)).alloc oz) _ from by (repeat (first | exact HB | exact Below.refl _ _ | with_reducible refine bel ?_ | with_reducible refine Below.drew ?_ | with_reducible refine bt3 ?_))); obtain ⟨x0, x1, x2, x3, x4, x5, x6, x7, x8, x9, x10⟩ := jF HB; obtain ⟨r0, r1, r2, r3, q0, q1, q2, q3⟩ := jA HB)
    | (go_at_call 45; with_reducible refine (isn3z mb pb _).mono ?_; rintro e w1 ⟨rfl, hb1⟩; replace HB := bt2 hb1 (show Below ((((w.alloc ob).alloc (oV 2 ma 0 0)).alloc (oV 3 mb 0 pb)).alloc oz).heap.size ((((w.alloc ob).alloc (oV 2 ma 0 0)).alloc (oV 3 mb 0 pb)).alloc oz) _ from by (repeat (first | exact HB | exact Below.refl _ _ | with_reducible refine bel ?_ | with_reducible refine Below.drew ?_ | with_reducible refine bt3 ?_))); obtain ⟨x0, x1, x2, x3, x4, x5, x6, x7, x8, x9, x10⟩ := jF HB; obtain ⟨r0, r1, r2, r3, q0, q1, q2, q3⟩ := jA HB)
    | (go_at_call 36; with_reducible refine (vnone_b _).mono ?_; rintro e w1 ⟨rfl, hb1⟩; replace HB := bt2 hb1 (show Below ((((w.alloc ob).alloc (oV 2 ma 0 0)).alloc (oV 3 mb 0 pb)).alloc oz).heap.size ((((w.alloc ob).alloc (oV 2 ma 0 0)).alloc (oV 3 mb 0 pb)).alloc oz) _ from by (repeat (first | exact HB | exact Below.refl _ _ | with_reducible refine bel ?_ | with_reducible refine Below.drew ?_ | with_reducible refine bt3 ?_))); obtain ⟨x0, x1, x2, x3, x4, x5, x6, x7, x8, x9, x10⟩ := jF HB; obtain ⟨r0, r1, r2, r3, q0, q1, q2, q3⟩ := jA HB))
  refine bodyPost_ret (v := vN) (by simp [results, Try.f33, go_sem, r0, r1, r2, r3]) rfl ?_
  exact ⟨rfl, jB HB⟩
set_option maxRecDepth 100000 in
set_option maxHeartbeats 4000000 in
theorem pr_ef (ma mb mm : Bool) (hmm : (!(ma == mb)) = mm) (nb : Nat) (pb : Int) (g : ((nb : Int) == 0) = false) (w : World) :
    Calls Try.prog 33 #[.agg #[.int .i64 24, .int .i64 (-149), .int .i64 104], .agg #[.int .u8 2, .bool ma, .int .u64 0, .int .i64 0], .agg #[.int .u8 3, .bool mb, .int .u64 nb, .int .i64 pb]] w fun e w' => e = .returned (vE mm) ∧ Below w.heap.size w w' := by
  have HB : Below ((((w.alloc ob).alloc (oV 2 ma 0 0)).alloc (oV 3 mb nb pb)).alloc oz).heap.size ((((w.alloc ob).alloc (oV 2 ma 0 0)).alloc (oV 3 mb nb pb)).alloc oz) ((((w.alloc ob).alloc (oV 2 ma 0 0)).alloc (oV 3 mb nb pb)).alloc oz) := Below.refl _ _
  go_enter Try.func33, Try.ntmps33
  go_wp2_with (first
    | (go_at_call 45; with_reducible refine (isn2 ma _).mono ?_; rintro e w1 ⟨rfl, hb1⟩; replace HB := bt2 hb1 (show Below ((((w.alloc ob).alloc (oV 2 ma 0 0)).alloc (oV 3 mb nb pb)).alloc oz).heap.size ((((w.alloc ob).alloc (oV 2 ma 0 0)).alloc (oV 3 mb nb pb)).alloc oz) _ from by (repeat (first | exact HB | exact Below.refl _ _ | with_reducible refine bel ?_ | with_reducible refine Below.drew ?_ | with_reducible refine bt3 ?_))); obtain ⟨x0, x1, x2, x3, x4, x5, x6, x7, x8, x9, x10⟩ := jF HB; obtain ⟨r0, r1, r2, r3, q0, q1, q2, q3⟩ := jA HB)
    | (go_at_call 45; with_reducible refine (isn3 mb nb pb _ g).mono ?_; rintro e w1 ⟨rfl, hb1⟩; replace HB := bt2 hb1 (show Below ((((w.alloc ob).alloc (oV 2 ma 0 0)).alloc (oV 3 mb nb pb)).alloc oz).heap.size ((((w.alloc ob).alloc (oV 2 ma 0 0)).alloc (oV 3 mb nb pb)).alloc oz) _ from by (repeat (first | exact HB | exact Below.refl _ _ | with_reducible refine bel ?_ | with_reducible refine Below.drew ?_ | with_reducible refine bt3 ?_))); obtain ⟨x0, x1, x2, x3, x4, x5, x6, x7, x8, x9, x10⟩ := jF HB; obtain ⟨r0, r1, r2, r3, q0, q1, q2, q3⟩ := jA HB)
    | (go_at_call 46; with_reducible refine (vendless_b mm _).mono ?_; rintro e w1 ⟨rfl, hb1⟩; replace HB := bt2 hb1 (show Below ((((w.alloc ob).alloc (oV 2 ma 0 0)).alloc (oV 3 mb nb pb)).alloc oz).heap.size ((((w.alloc ob).alloc (oV 2 ma 0 0)).alloc (oV 3 mb nb pb)).alloc oz) _ from by (repeat (first | exact HB | exact Below.refl _ _ | with_reducible refine bel ?_ | with_reducible refine Below.drew ?_ | with_reducible refine bt3 ?_))); obtain ⟨x0, x1, x2, x3, x4, x5, x6, x7, x8, x9, x10⟩ := jF HB; obtain ⟨r0, r1, r2, r3, q0, q1, q2, q3⟩ := jA HB))
  refine bodyPost_ret (v := vE mm) (by simp [results, Try.f33, go_sem, r0, r1, r2, r3]) rfl ?_
  exact ⟨rfl, jB HB⟩
set_option maxRecDepth 100000 in
set_option maxHeartbeats 4000000 in
theorem pr_ze (ma mb : Bool) (pa : Int) (w : World) :
    Calls Try.prog 33 #[.agg #[.int .i64 24, .int .i64 (-149), .int .i64 104], .agg #[.int .u8 3, .bool ma, .int .u64 0, .int .i64 pa], .agg #[.int .u8 2, .bool mb, .int .u64 0, .int .i64 0]] w fun e w' => e = .returned (vN) ∧ Below w.heap.size w w' := by
  have HB : Below ((((w.alloc ob).alloc (oV 3 ma 0 pa)).alloc (oV 2 mb 0 0)).alloc oz).heap.size ((((w.alloc ob).alloc (oV 3 ma 0 pa)).alloc (oV 2 mb 0 0)).alloc oz) ((((w.alloc ob).alloc (oV 3 ma 0 pa)).alloc (oV 2 mb 0 0)).alloc oz) := Below.refl _ _
  go_enter Try.func33, Try.ntmps33
  go_wp2_with (first
    | (go_at_call 45; with_reducible refine (isn3z ma pa _).mono ?_; rintro e w1 ⟨rfl, hb1⟩; replace HB := bt2 hb1 (show Below ((((w.alloc ob).alloc (oV 3 ma 0 pa)).alloc (oV 2 mb 0 0)).alloc oz).heap.size ((((w.alloc ob).alloc (oV 3 ma 0 pa)).alloc (oV 2 mb 0 0)).alloc oz) _ from by (repeat (first | exact HB | exact Below.refl _ _ | with_reducible refine bel ?_ | with_reducible refine Below.drew ?_ | with_reducible refine bt3 ?_))); obtain ⟨x0, x1, x2, x3, x4, x5, x6, x7, x8, x9, x10⟩ := jF HB; obtain ⟨r0, r1, r2, r3, q0, q1, q2, q3⟩ := jA HB)
    | (go_at_call 36; with_reducible refine (vnone_b _).mono ?_; rintro e w1 ⟨rfl, hb1⟩; replace HB := bt2 hb1 (show Below ((((w.alloc ob).alloc (oV 3 ma 0 pa)).alloc (oV 2 mb 0 0)).alloc oz).heap.size ((((w.alloc ob).alloc (oV 3 ma 0 pa)).alloc (oV 2 mb 0 0)).alloc oz) _ from by (repeat (first | exact HB | exact Below.refl _ _ | with_reducible refine bel ?_ | with_reducible refine Below.drew ?_ | with_reducible refine bt3 ?_))); obtain ⟨x0, x1, x2, x3, x4, x5, x6, x7, x8, x9, x10⟩ := jF HB; obtain ⟨r0, r1, r2, r3, q0, q1, q2, q3⟩ := jA HB))
  refine bodyPost_ret (v := vN) (by simp [results, Try.f33, go_sem, r0, r1, r2, r3]) rfl ?_
  exact ⟨rfl, jB HB⟩
set_option maxRecDepth 100000 in
set_option maxHeartbeats 4000000 in
theorem pr_fe (ma mb mm : Bool) (hmm : (!(ma == mb)) = mm) (na : Nat) (pa : Int) (g : ((na : Int) == 0) = false) (w : World) :
    Calls Try.prog 33 #[.agg #[.int .i64 24, .int .i64 (-149), .int .i64 104], .agg #[.int .u8 3, .bool ma, .int .u64 na, .int .i64 pa], .agg #[.int .u8 2, .bool mb, .int .u64 0, .int .i64 0]] w fun e w' => e = .returned (vE mm) ∧ Below w.heap.size w w' := by
  have HB : Below ((((w.alloc ob).alloc (oV 3 ma na pa)).alloc (oV 2 mb 0 0)).alloc oz).heap.size ((((w.alloc ob).alloc (oV 3 ma na pa)).alloc (oV 2 mb 0 0)).alloc oz) ((((w.alloc ob).alloc (oV 3 ma na pa)).alloc (oV 2 mb 0 0)).alloc oz) := Below.refl _ _
  go_enter Try.func33, Try.ntmps33
  go_wp2_with (first
    | (go_at_call 45; with_reducible refine (isn3 ma na pa _ g).mono ?_; rintro e w1 ⟨rfl, hb1⟩; replace HB := bt2 hb1 (show Below ((((w.alloc ob).alloc (oV 3 ma na pa)).alloc (oV 2 mb 0 0)).alloc oz).heap.size ((((w.alloc ob).alloc (oV 3 ma na pa)).alloc (oV 2 mb 0 0)).alloc oz) _ from by (repeat (first | exact HB | exact Below.refl _ _ | with_reducible refine bel ?_ | with_reducible refine Below.drew ?_ | with_reducible refine bt3 ?_))); obtain ⟨x0, x1, x2, x3, x4, x5, x6, x7, x8, x9, x10⟩ := jF HB; obtain ⟨r0, r1, r2, r3, q0, q1, q2, q3⟩ := jA HB)
    | (go_at_call 45; with_reducible refine (isn2 mb _).mono ?_; rintro e w1 ⟨rfl, hb1⟩; replace HB := bt2 hb1 (show Below ((((w.alloc ob).alloc (oV 3 ma na pa)).alloc (oV 2 mb 0 0)).alloc oz).heap.size ((((w.alloc ob).alloc (oV 3 ma na pa)).alloc (oV 2 mb 0 0)).alloc oz) _ from by (repeat (first | exact HB | exact Below.refl _ _ | with_reducible refine bel ?_ | with_reducible refine Below.drew ?_ | with_reducible refine bt3 ?_))); obtain ⟨x0, x1, x2, x3, x4, x5, x6, x7, x8, x9, x10⟩ := jF HB; obtain ⟨r0, r1, r2, r3, q0, q1, q2, q3⟩ := jA HB)
    | (go_at_call 46; with_reducible refine (vendless_b mm _).mono ?_; rintro e w1 ⟨rfl, hb1⟩; replace HB := bt2 hb1 (show Below ((((w.alloc ob).alloc (oV 3 ma na pa)).alloc (oV 2 mb 0 0)).alloc oz).heap.size ((((w.alloc ob).alloc (oV 3 ma na pa)).alloc (oV 2 mb 0 0)).alloc oz) _ from by (repeat (first | exact HB | exact Below.refl _ _ | with_reducible refine bel ?_ | with_reducible refine Below.drew ?_ | with_reducible refine bt3 ?_))); obtain ⟨x0, x1, x2, x3, x4, x5, x6, x7, x8, x9, x10⟩ := jF HB; obtain ⟨r0, r1, r2, r3, q0, q1, q2, q3⟩ := jA HB))
  refine bodyPost_ret (v := vE mm) (by simp [results, Try.f33, go_sem, r0, r1, r2, r3]) rfl ?_
  exact ⟨rfl, jB HB⟩
end Go.Proofs.Ythaipahaaajgoaa
namespace Go.Proofs.Ythaipahaaajgoaa
open Go.RowKit

set_option maxRecDepth 100000 in
set_option maxHeartbeats 4000000 in
theorem pr_ff (ma mb mm : Bool) (hmm : (!(ma == mb)) = mm) (na nb : Nat) (pa pb p : Int) (w : World) (hna : na < 16777216) (hnb : nb < 16777216) (h1 : -149 ≤ pa) (h2 : pa ≤ 104) (h3 : -149 ≤ pb) (h4 : pb ≤ 104) (hp : pa + pb = p) :
    Calls Try.prog 33 #[.agg #[.int .i64 24, .int .i64 (-149), .int .i64 104], .agg #[.int .u8 3, .bool ma, .int .u64 na, .int .i64 pa], .agg #[.int .u8 3, .bool mb, .int .u64 nb, .int .i64 pb]] w fun e w' => (∃ n q, e = .returned (hdV mm n q) ∧ Fits n q (rg Ieee.single (na * nb) p)) ∧ Below w.heap.size w w' := by
  have HPw : Hid (IntKind.i64.wrap (pa + pb) = p) := by rw [Hid, IntKind.wrap_i64]; omega
  have HPw2 : Hid (IntKind.i64.wrap p = p) := by rw [Hid, IntKind.wrap_i64]; omega
  have HM : Hid (na * nb < 2 ^ (32 * (2 + 2))) := mul_pow_lt (k := 2) (j := 2) (Nat.lt_of_lt_of_le hna (by decide)) (Nat.lt_of_lt_of_le hnb (by decide))
  have hpl : -5000 ≤ p := by omega
  have hpg : p ≤ 5000 := by omega
  have HB : Below ((((w.alloc ob).alloc (oV 3 ma na pa)).alloc (oV 3 mb nb pb)).alloc oz).heap.size ((((w.alloc ob).alloc (oV 3 ma na pa)).alloc (oV 3 mb nb pb)).alloc oz) ((((w.alloc ob).alloc (oV 3 ma na pa)).alloc (oV 3 mb nb pb)).alloc oz) := Below.refl _ _
  have HA := nv_nil ((((w.alloc ob).alloc (oV 3 ma na pa)).alloc (oV 3 mb nb pb)).alloc oz)
  have HQ := nv_nil ((((w.alloc ob).alloc (oV 3 ma na pa)).alloc (oV 3 mb nb pb)).alloc oz)
  go_enter Try.func33, Try.ntmps33
  go_wp2
  go_region_held3 (fun w' => w'.cell? ⟨w.heap.size, 0, none⟩ = some (.int .i64 24) ∧ w'.cell? ⟨w.heap.size, 1, none⟩ = some (.int .i64 (-149)) ∧ w'.cell? ⟨w.heap.size, 2, none⟩ = some (.int .i64 104) ∧ w'.cell? ⟨w.heap.size + 1, 0, none⟩ = some (.int .u8 3) ∧ w'.cell? ⟨w.heap.size + 1, 1, none⟩ = some (.bool ma) ∧ w'.cell? ⟨w.heap.size + 1, 2, none⟩ = some (.int .u64 (na : Nat)) ∧ w'.cell? ⟨w.heap.size + 1, 3, none⟩ = some (.int .i64 pa) ∧ w'.cell? ⟨w.heap.size + 1 + 1, 0, none⟩ = some (.int .u8 3) ∧ w'.cell? ⟨w.heap.size + 1 + 1, 1, none⟩ = some (.bool mb) ∧ w'.cell? ⟨w.heap.size + 1 + 1, 2, none⟩ = some (.int .u64 (nb : Nat)) ∧ w'.cell? ⟨w.heap.size + 1 + 1, 3, none⟩ = some (.int .i64 pb)) ((first | ((try dsimp only); with_reducible refine jS ?_; (repeat (first | exact HB | exact Below.refl _ _ | with_reducible refine bel ?_ | with_reducible refine Below.drew ?_ | with_reducible refine bt3 ?_)); done) | (refine jF ?_; (repeat (first | exact HB | exact Below.refl _ _ | with_reducible refine bel ?_ | with_reducible refine Below.drew ?_ | with_reducible refine bt3 ?_)); done))) (first
    | (go_at_call 38; with_reducible refine (nat_any na _ (by omega)).mono ?_; rintro e w1 ⟨⟨v1, rfl, hv1⟩, hb1⟩; replace HB : Below ((((w.alloc ob).alloc (oV 3 ma na pa)).alloc (oV 3 mb nb pb)).alloc oz).heap.size ((((w.alloc ob).alloc (oV 3 ma na pa)).alloc (oV 3 mb nb pb)).alloc oz) w1 := bt2 hb1 (by (repeat (first | exact HB | exact Below.refl _ _ | with_reducible refine bel ?_ | with_reducible refine Below.drew ?_ | with_reducible refine bt3 ?_))); replace HQ := HQ.step (by (repeat (first | exact Below.refl _ _ | with_reducible refine bel ?_ | with_reducible refine Below.drew ?_ | with_reducible refine bt3 ?_))) hb1; replace HA := hv1; clear hb1 hv1)
    | (go_at_call 38; with_reducible refine (nat_any nb _ (by omega)).mono ?_; rintro e w3 ⟨⟨v3, rfl, hv3⟩, hb3⟩; replace HB : Below ((((w.alloc ob).alloc (oV 3 ma na pa)).alloc (oV 3 mb nb pb)).alloc oz).heap.size ((((w.alloc ob).alloc (oV 3 ma na pa)).alloc (oV 3 mb nb pb)).alloc oz) w3 := bt2 hb3 (by (repeat (first | exact HB | exact Below.refl _ _ | with_reducible refine bel ?_ | with_reducible refine Below.drew ?_ | with_reducible refine bt3 ?_))); replace HA := HA.step (by (repeat (first | exact Below.refl _ _ | with_reducible refine bel ?_ | with_reducible refine Below.drew ?_ | with_reducible refine bt3 ?_))) hb3; replace HQ := hv3; clear hb3 hv3)
    | (go_at_call 47; with_reducible refine (times_nv v1 v3 na nb _ (HA.on (by (repeat (first | exact Below.refl _ _ | with_reducible refine bel ?_ | with_reducible refine Below.drew ?_ | with_reducible refine bt3 ?_)))) (HQ.on (by (repeat (first | exact Below.refl _ _ | with_reducible refine bel ?_ | with_reducible refine Below.drew ?_ | with_reducible refine bt3 ?_)))) (by omega) (by omega)).mono ?_; rintro e w5 ⟨⟨v5, rfl, hv5⟩, hb5⟩; replace HB : Below ((((w.alloc ob).alloc (oV 3 ma na pa)).alloc (oV 3 mb nb pb)).alloc oz).heap.size ((((w.alloc ob).alloc (oV 3 ma na pa)).alloc (oV 3 mb nb pb)).alloc oz) w5 := bt2 hb5 (by (repeat (first | exact HB | exact Below.refl _ _ | with_reducible refine bel ?_ | with_reducible refine Below.drew ?_ | with_reducible refine bt3 ?_))); replace HQ := HQ.step (by (repeat (first | exact Below.refl _ _ | with_reducible refine bel ?_ | with_reducible refine Below.drew ?_ | with_reducible refine bt3 ?_))) hb5; replace HA := hv5; clear hb5 hv5)
    | (go_at_call 39; (first | rw [HPw.out] | rw [HPw2.out]); with_reducible refine (rnd_nv mm v5 (na * nb) (2 + 2) p _ (HA.on (by (repeat (first | exact Below.refl _ _ | with_reducible refine bel ?_ | with_reducible refine Below.drew ?_ | with_reducible refine bt3 ?_)))) HM.out (by omega) hpl hpg).mono ?_; rintro e w9 ⟨⟨n9, p9, rfl, hf9⟩, hb9⟩; rw [hdV_agg]; replace HB : Below ((((w.alloc ob).alloc (oV 3 ma na pa)).alloc (oV 3 mb nb pb)).alloc oz).heap.size ((((w.alloc ob).alloc (oV 3 ma na pa)).alloc (oV 3 mb nb pb)).alloc oz) w9 := bt2 hb9 (by (repeat (first | exact HB | exact Below.refl _ _ | with_reducible refine bel ?_ | with_reducible refine Below.drew ?_ | with_reducible refine bt3 ?_))); replace HQ := HQ.step (by (repeat (first | exact Below.refl _ _ | with_reducible refine bel ?_ | with_reducible refine Below.drew ?_ | with_reducible refine bt3 ?_))) hb9; obtain ⟨r0, r1, r2, r3, q0, q1, q2, q3⟩ := jA HB))
  all_goals go_wp2
  all_goals refine bodyPost_ret (v := .agg #[.int .u8 (vS p9), .bool mm, .int .u64 (vM n9 p9), .int .i64 (vP p9)]) (by simp [results, Try.f33, go_sem, r0, r1, r2, r3]) rfl ?_
  all_goals exact ⟨⟨n9, p9, by rw [hdV_agg], hf9⟩, jB HB⟩
end Go.Proofs.Ythaipahaaajgoaa
namespace Go.Proofs.Ythaipahaaajgoaa
open Go.RowKit

theorem fmul_rd (a b : Nat) (fa : a % 2147483648 < 2139095040) (fb : b % 2147483648 < 2139095040) :
    fmul a b = Ieee.single.word (sn a ^^ sn b) (min (rg Ieee.single (rdm a * rdm b) (-149 + (rdk a : Int) + (-149 + (rdk b : Int)))) 2139095040) := by
  have h0 : Ieee.single.mul a b = ((Ieee.single.read a).product (Ieee.single.read b)).map Ieee.single.write := rfl
  rw [read_rd a fa, read_rd b fb] at h0
  simp only [Ieee.Datum.product, Option.map_some] at h0
  unfold fmul
  rw [h0, nearest_word]
  rfl
theorem xor_ne (m n : Bool) : (m ^^ n) = !(m == n) := by cases m <;> cases n <;> rfl
theorem fmul_ii {a b : Nat} (hi : a % 2147483648 = 2139095040) (hj : b % 2147483648 = 2139095040) : fmul a b = Ieee.single.word (sn a ^^ sn b) 2139095040 := by
  have h0 : Ieee.single.mul a b = ((Ieee.single.read a).product (Ieee.single.read b)).map Ieee.single.write := rfl
  rw [inf_read hi, inf_read hj] at h0
  unfold fmul
  rw [h0]
  rfl
theorem fmul_if {a b : Nat} (hi : a % 2147483648 = 2139095040) (hf : b % 2147483648 < 2139095040) : fmul a b = if rdm b = 0 then 2143289344 else Ieee.single.word (sn a ^^ sn b) 2139095040 := by
  have h0 : Ieee.single.mul a b = ((Ieee.single.read a).product (Ieee.single.read b)).map Ieee.single.write := rfl
  rw [inf_read hi, read_rd b hf] at h0
  unfold fmul
  rw [h0]
  simp only [Ieee.Datum.product]
  split <;> rfl
theorem fmul_fi {a b : Nat} (hi : b % 2147483648 = 2139095040) (hf : a % 2147483648 < 2139095040) : fmul a b = if rdm a = 0 then 2143289344 else Ieee.single.word (sn a ^^ sn b) 2139095040 := by
  have h0 : Ieee.single.mul a b = ((Ieee.single.read a).product (Ieee.single.read b)).map Ieee.single.write := rfl
  rw [inf_read hi, read_rd a hf] at h0
  unfold fmul
  rw [h0]
  simp only [Ieee.Datum.product]
  split
  · rfl
  · rw [Bool.xor_comm]; rfl
theorem layV_end (m : Bool) (x : Nat) (h : x = wrd m 2139095040) : LayV (vE m) x := fun w => by
  have := lay_endless m w
  rw [h]; exact this
theorem prodv_any (a b : Nat) (w : World) (ha : a < 4294967296) (hb : b < 4294967296) :
    Calls Try.prog 33 #[.agg #[.int .i64 24, .int .i64 (-149), .int .i64 104], tv a, tv b] w fun e w' => (∃ v, e = .returned v ∧ LayV v (fmul a b)) ∧ Below w.heap.size w w' := by
  have hx : (sn a ^^ sn b) = !(sg a == sg b) := by rw [xor_ne, sg_sn a ha, sg_sn b hb]
  rcases ok_cases a with ca | ca | ca
  · rw [tv_none ca, fmul_nan (Or.inl ca)]
    rcases ok_cases b with cb | cb | cb
    · rw [tv_none cb]; exact (pr_n1 _ _ _ _ w).mono fun e w' ⟨he, h⟩ => ⟨⟨_, he, layV_none⟩, h⟩
    · rw [tv_inf cb]; exact (pr_n1 _ _ _ _ w).mono fun e w' ⟨he, h⟩ => ⟨⟨_, he, layV_none⟩, h⟩
    · rw [tv_fin cb]; exact (pr_n1 _ _ _ _ w).mono fun e w' ⟨he, h⟩ => ⟨⟨_, he, layV_none⟩, h⟩
  · rw [tv_inf ca]
    rcases ok_cases b with cb | cb | cb
    · rw [tv_none cb, fmul_nan (Or.inr cb)]; exact (pr_n2 2 _ _ _ rfl w).mono fun e w' ⟨he, h⟩ => ⟨⟨_, he, layV_none⟩, h⟩
    · rw [tv_inf cb]
      have hf := fmul_ii ca cb
      rw [hx, word_wrd _ _ (by decide)] at hf
      exact (pr_ee _ _ _ rfl w).mono fun e w' ⟨he, h⟩ => ⟨⟨_, he, layV_end _ _ hf⟩, h⟩
    · rw [tv_fin cb]
      have hf := fmul_if ca cb
      by_cases hz : rdm b = 0
      · rw [if_pos hz] at hf
        rw [hf, hz]
        exact (pr_ez _ _ _ w).mono fun e w' ⟨he, h⟩ => ⟨⟨_, he, layV_none⟩, h⟩
      · rw [if_neg hz, hx, word_wrd _ _ (by decide)] at hf
        exact (pr_ef _ _ _ rfl _ _ (by rw [beq_eq_false_iff_ne]; omega) w).mono fun e w' ⟨he, h⟩ => ⟨⟨_, he, layV_end _ _ hf⟩, h⟩
  · rcases ok_cases b with cb | cb | cb
    · rw [tv_fin ca, tv_none cb, fmul_nan (Or.inr cb)]; exact (pr_n2 3 _ _ _ rfl w).mono fun e w' ⟨he, h⟩ => ⟨⟨_, he, layV_none⟩, h⟩
    · rw [tv_fin ca, tv_inf cb]
      have hf := fmul_fi cb ca
      by_cases hz : rdm a = 0
      · rw [if_pos hz] at hf
        rw [hf, hz]
        exact (pr_ze _ _ _ w).mono fun e w' ⟨he, h⟩ => ⟨⟨_, he, layV_none⟩, h⟩
      · rw [if_neg hz, hx, word_wrd _ _ (by decide)] at hf
        exact (pr_fe _ _ _ rfl _ _ (by rw [beq_eq_false_iff_ne]; omega) w).mono fun e w' ⟨he, h⟩ => ⟨⟨_, he, layV_end _ _ hf⟩, h⟩
    · rw [tv_fin ca, tv_fin cb]
      obtain ⟨ka, na⟩ := rd_k ca
      obtain ⟨kb, nb⟩ := rd_k cb
      have hf := fmul_rd a b ca cb
      rw [hx, word_wrd _ _ (by omega)] at hf
      exact (pr_ff _ _ _ rfl _ _ _ _ _ w na nb (by omega) (by omega) (by omega) (by omega) rfl).mono fun e w' ⟨⟨n, q, he, hq⟩, hbl⟩ => ⟨⟨_, he, layV_fit hq hf⟩, hbl⟩
set_option maxRecDepth 100000 in
set_option maxHeartbeats 1000000 in
theorem products_any (a b : Nat) (w : World) (ha : a < 4294967296) (hb : b < 4294967296) :
    Calls Try.prog 24 #[.int .u32 a, .int .u32 b] w fun e w' => e = .returned (.int .u32 (fmul a b)) ∧ Below w.heap.size w w' := by
  have HB : Below w.heap.size w w := Below.refl _ _
  go_enter Try.func24, Try.ntmps24
  go_wp2_with (first
    | (go_at_call 30; refine (form_any _).mono ?_; rintro e wq ⟨rfl, hq⟩; subst wq)
    | (go_at_call 31; with_reducible refine (take_any a _ ha).mono ?_; rintro e w1 ⟨rfl, h1⟩; replace HB : Below w.heap.size w w1 := bt2 h1 (by (repeat (first | exact HB | exact Below.refl _ _ | with_reducible refine bel ?_ | with_reducible refine Below.drew ?_ | with_reducible refine bt3 ?_))))
    | (go_at_call 31; with_reducible refine (take_any b _ hb).mono ?_; rintro e w1 ⟨rfl, h1⟩; replace HB : Below w.heap.size w w1 := bt2 h1 (by (repeat (first | exact HB | exact Below.refl _ _ | with_reducible refine bel ?_ | with_reducible refine Below.drew ?_ | with_reducible refine bt3 ?_))))
    | (go_at_call 33; with_reducible refine (prodv_any a b _ ha hb).mono ?_; rintro e w2 ⟨⟨v, rfl, hv⟩, h2⟩; replace HB : Below w.heap.size w w2 := bt2 h2 (by (repeat (first | exact HB | exact Below.refl _ _ | with_reducible refine bel ?_ | with_reducible refine Below.drew ?_ | with_reducible refine bt3 ?_))))
    | (go_at_call 28; with_reducible refine (layAt hv _).mono ?_; rintro e w3 ⟨rfl, h3⟩; replace HB : Below w.heap.size w w3 := bt2 h3 (by (repeat (first | exact HB | exact Below.refl _ _ | with_reducible refine bel ?_ | with_reducible refine Below.drew ?_ | with_reducible refine bt3 ?_)))))
  go_ret
  exact ⟨rfl, HB⟩
end Go.Proofs.Ythaipahaaajgoaa
namespace Go.Proofs.Ythaipahaaajgoaa
open Go.RowKit

theorem rg_shift (f : Ieee.Format) (hp : 0 < f.fractionBits) (N z : Nat) (Q : Int) : rg f (N * 2 ^ z) (Q - z) = rg f N Q := by
  obtain ⟨d, hd⟩ : ∃ d : Nat, f.leastPlace ≤ Q - z + d := ⟨(f.leastPlace - (Q - z)).toNat, by omega⟩
  have n1 := rg_near f hp (N * 2 ^ z) (Q - z) d hd
  have n2 := rg_near f hp N Q d (by omega)
  rw [Nat.mul_assoc, ← Nat.pow_add, show z + (Q - z - f.leastPlace + d).toNat = (Q - f.leastPlace + d).toNat by omega] at n1
  exact n1.unique (Nat.two_pow_pos _) n2
theorem p192 : (2 : Nat) ^ (32 * 6) = 2 ^ 192 := rfl
theorem rnd_q (m : Bool) (v : Value) (x : Nat) (Q : Int) (mo : Bool) (r : Nat) (w : World) (h : NatV w v x) (hx : x < 2 ^ (32 * 6)) (hP : -2000 ≤ Q) (hP2 : Q ≤ 2000) (hr : rg Ieee.single (2 * x + mo.toNat) (Q - 1) = r) :
    Calls Try.prog 39 #[.agg #[.int .i64 24, .int .i64 (-149), .int .i64 104], .bool m, v, .int .i64 Q, .bool mo] w fun e w' => (∃ n p, e = .returned (hdV m n p) ∧ Fits n p r) ∧ Below w.heap.size w w' := by
  cases mo with
  | false =>
    have := rg_shift Ieee.single (by decide) x 1 Q
    rw [show x * 2 ^ 1 = 2 * x by omega] at this
    have hr' : rg Ieee.single x Q = r := by rw [← this]; exact hr
    have := rnd_nv m v x 6 Q w h hx (by omega) (by omega) (by omega)
    rw [hr'] at this
    exact this
  | true =>
    have hnl : nbits (2 * x + 1) ≤ 4000 := by
      obtain ⟨b1, b2, b3⟩ := nb_bounds (2 * x + 1) (by omega)
      have h9 : 2 * x + 1 < 2 ^ (192 + 1) := by rw [Nat.pow_succ, ← p192]; omega
      have c1 := (Nat.pow_lt_pow_iff_right (a := 2) (by decide)).1 (Nat.lt_of_le_of_lt b1 h9)
      omega
    have := rndM_any m v x (2 * x + 1) Q (Q - 1) w h hx (by omega) rfl hnl (by omega) (by omega)
    rw [show rg Ieee.single (2 * x + 1) (Q - 1) = r from hr] at this
    exact this
theorem q_lt (na : Nat) (h : na < 16777216) : na * 2 ^ 128 < 2 ^ (32 * 6) := by
  have h1 : na * 2 ^ 128 < 2 ^ 24 * 2 ^ 128 := Nat.mul_lt_mul_of_pos_right h (Nat.two_pow_pos _)
  rw [← Nat.pow_add] at h1
  exact Nat.lt_of_lt_of_le h1 (Nat.pow_le_pow_right (by decide) (by decide))
theorem over_q (v u : Value) (na nb V q : Nat) (mo : Bool) (w : World) (h : NatV w v V) (h' : NatV w u nb) (hna : na < 16777216) (hV : na * 2 ^ 128 = V) (hnb : nb < 16777216) (h0 : nb ≠ 0) (hq : V / nb = q) (hmo : decide (0 < V % nb) = mo) :
    Calls Try.prog 48 #[v, u] w fun e w' => (∃ v', e = .returned (.tuple #[v', .bool mo]) ∧ NatV w' v' q) ∧ Below w.heap.size w w' := by
  have hVl : V < 2 ^ (32 * 6) := by rw [← hV]; exact q_lt na hna
  have hnl : nbits V ≤ 3200 := by
    by_cases hz : V = 0
    · rw [hz]; decide
    · obtain ⟨b1, b2, b3⟩ := nb_bounds V hz
      have c1 := (Nat.pow_lt_pow_iff_right (a := 2) (by decide)).1 (Nat.lt_of_le_of_lt b1 (show V < 2 ^ 192 from hVl))
      omega
  have := over_nv v u V nb 6 _ w h h' hVl (Nat.lt_of_lt_of_le hnb (by decide)) (by omega) (by omega) rfl hnl
  rw [hmo, hq] at this
  exact this
set_option maxRecDepth 100000 in
set_option maxHeartbeats 4000000 in
theorem rt_n1 (sb : Int) (mb : Bool) (nb pb : Int) (w : World) :
    Calls Try.prog 34 #[.agg #[.int .i64 24, .int .i64 (-149), .int .i64 104], .agg #[.int .u8 1, .bool false, .int .u64 0, .int .i64 0], .agg #[.int .u8 sb, .bool mb, .int .u64 nb, .int .i64 pb]] w fun e w' => e = .returned (vN) ∧ Below w.heap.size w w' := by
  have HB : Below ((((w.alloc ob).alloc (oV 1 false 0 0)).alloc (oV sb mb nb pb)).alloc oz).heap.size ((((w.alloc ob).alloc (oV 1 false 0 0)).alloc (oV sb mb nb pb)).alloc oz) ((((w.alloc ob).alloc (oV 1 false 0 0)).alloc (oV sb mb nb pb)).alloc oz) := Below.refl _ _
  go_enter Try.func34, Try.ntmps34
  go_wp2_with (first
    | (go_at_call 36; with_reducible refine (vnone_b _).mono ?_; rintro e w1 ⟨rfl, hb1⟩; replace HB := bt2 hb1 (show Below ((((w.alloc ob).alloc (oV 1 false 0 0)).alloc (oV sb mb nb pb)).alloc oz).heap.size ((((w.alloc ob).alloc (oV 1 false 0 0)).alloc (oV sb mb nb pb)).alloc oz) _ from by (repeat (first | exact HB | exact Below.refl _ _ | with_reducible refine bel ?_ | with_reducible refine Below.drew ?_ | with_reducible refine bt3 ?_))); obtain ⟨x0, x1, x2, x3, x4, x5, x6, x7, x8, x9, x10⟩ := jF HB; obtain ⟨r0, r1, r2, r3, q0, q1, q2, q3⟩ := jA HB))
  refine bodyPost_ret (v := vN) (by simp [results, Try.f34, go_sem, r0, r1, r2, r3]) rfl ?_
  exact ⟨rfl, jB HB⟩
set_option maxRecDepth 100000 in
set_option maxHeartbeats 4000000 in
theorem rt_n2 (sa : Int) (ma : Bool) (na pa : Int) (h : (sa == 1) = false) (w : World) :
    Calls Try.prog 34 #[.agg #[.int .i64 24, .int .i64 (-149), .int .i64 104], .agg #[.int .u8 sa, .bool ma, .int .u64 na, .int .i64 pa], .agg #[.int .u8 1, .bool false, .int .u64 0, .int .i64 0]] w fun e w' => e = .returned (vN) ∧ Below w.heap.size w w' := by
  have HB : Below ((((w.alloc ob).alloc (oV sa ma na pa)).alloc (oV 1 false 0 0)).alloc oz).heap.size ((((w.alloc ob).alloc (oV sa ma na pa)).alloc (oV 1 false 0 0)).alloc oz) ((((w.alloc ob).alloc (oV sa ma na pa)).alloc (oV 1 false 0 0)).alloc oz) := Below.refl _ _
  go_enter Try.func34, Try.ntmps34
  go_wp2_with (first
    | (go_at_call 36; with_reducible refine (vnone_b _).mono ?_; rintro e w1 ⟨rfl, hb1⟩; replace HB := bt2 hb1 (show Below ((((w.alloc ob).alloc (oV sa ma na pa)).alloc (oV 1 false 0 0)).alloc oz).heap.size ((((w.alloc ob).alloc (oV sa ma na pa)).alloc (oV 1 false 0 0)).alloc oz) _ from by (repeat (first | exact HB | exact Below.refl _ _ | with_reducible refine bel ?_ | with_reducible refine Below.drew ?_ | with_reducible refine bt3 ?_))); obtain ⟨x0, x1, x2, x3, x4, x5, x6, x7, x8, x9, x10⟩ := jF HB; obtain ⟨r0, r1, r2, r3, q0, q1, q2, q3⟩ := jA HB))
  refine bodyPost_ret (v := vN) (by simp [results, Try.f34, go_sem, r0, r1, r2, r3]) rfl ?_
  exact ⟨rfl, jB HB⟩
set_option maxRecDepth 100000 in
set_option maxHeartbeats 4000000 in
theorem rt_ee (ma mb : Bool) (w : World) :
    Calls Try.prog 34 #[.agg #[.int .i64 24, .int .i64 (-149), .int .i64 104], .agg #[.int .u8 2, .bool ma, .int .u64 0, .int .i64 0], .agg #[.int .u8 2, .bool mb, .int .u64 0, .int .i64 0]] w fun e w' => e = .returned (vN) ∧ Below w.heap.size w w' := by
  have HB : Below ((((w.alloc ob).alloc (oV 2 ma 0 0)).alloc (oV 2 mb 0 0)).alloc oz).heap.size ((((w.alloc ob).alloc (oV 2 ma 0 0)).alloc (oV 2 mb 0 0)).alloc oz) ((((w.alloc ob).alloc (oV 2 ma 0 0)).alloc (oV 2 mb 0 0)).alloc oz) := Below.refl _ _
  go_enter Try.func34, Try.ntmps34
  go_wp2_with (first
    | (go_at_call 36; with_reducible refine (vnone_b _).mono ?_; rintro e w1 ⟨rfl, hb1⟩; replace HB := bt2 hb1 (show Below ((((w.alloc ob).alloc (oV 2 ma 0 0)).alloc (oV 2 mb 0 0)).alloc oz).heap.size ((((w.alloc ob).alloc (oV 2 ma 0 0)).alloc (oV 2 mb 0 0)).alloc oz) _ from by (repeat (first | exact HB | exact Below.refl _ _ | with_reducible refine bel ?_ | with_reducible refine Below.drew ?_ | with_reducible refine bt3 ?_))); obtain ⟨x0, x1, x2, x3, x4, x5, x6, x7, x8, x9, x10⟩ := jF HB; obtain ⟨r0, r1, r2, r3, q0, q1, q2, q3⟩ := jA HB))
  refine bodyPost_ret (v := vN) (by simp [results, Try.f34, go_sem, r0, r1, r2, r3]) rfl ?_
  exact ⟨rfl, jB HB⟩
set_option maxRecDepth 100000 in
set_option maxHeartbeats 4000000 in
theorem rt_ef (ma mb mm : Bool) (hmm : (!(ma == mb)) = mm) (nb pb : Int) (w : World) :
    Calls Try.prog 34 #[.agg #[.int .i64 24, .int .i64 (-149), .int .i64 104], .agg #[.int .u8 2, .bool ma, .int .u64 0, .int .i64 0], .agg #[.int .u8 3, .bool mb, .int .u64 nb, .int .i64 pb]] w fun e w' => e = .returned (vE mm) ∧ Below w.heap.size w w' := by
  have HB : Below ((((w.alloc ob).alloc (oV 2 ma 0 0)).alloc (oV 3 mb nb pb)).alloc oz).heap.size ((((w.alloc ob).alloc (oV 2 ma 0 0)).alloc (oV 3 mb nb pb)).alloc oz) ((((w.alloc ob).alloc (oV 2 ma 0 0)).alloc (oV 3 mb nb pb)).alloc oz) := Below.refl _ _
  go_enter Try.func34, Try.ntmps34
  go_wp2_with (first
    | (go_at_call 46; with_reducible refine (vendless_b mm _).mono ?_; rintro e w1 ⟨rfl, hb1⟩; replace HB := bt2 hb1 (show Below ((((w.alloc ob).alloc (oV 2 ma 0 0)).alloc (oV 3 mb nb pb)).alloc oz).heap.size ((((w.alloc ob).alloc (oV 2 ma 0 0)).alloc (oV 3 mb nb pb)).alloc oz) _ from by (repeat (first | exact HB | exact Below.refl _ _ | with_reducible refine bel ?_ | with_reducible refine Below.drew ?_ | with_reducible refine bt3 ?_))); obtain ⟨x0, x1, x2, x3, x4, x5, x6, x7, x8, x9, x10⟩ := jF HB; obtain ⟨r0, r1, r2, r3, q0, q1, q2, q3⟩ := jA HB))
  refine bodyPost_ret (v := vE mm) (by simp [results, Try.f34, go_sem, r0, r1, r2, r3]) rfl ?_
  exact ⟨rfl, jB HB⟩
set_option maxRecDepth 100000 in
set_option maxHeartbeats 4000000 in
theorem rt_fe (ma mb mm : Bool) (hmm : (!(ma == mb)) = mm) (na pa : Int) (w : World) :
    Calls Try.prog 34 #[.agg #[.int .i64 24, .int .i64 (-149), .int .i64 104], .agg #[.int .u8 3, .bool ma, .int .u64 na, .int .i64 pa], .agg #[.int .u8 2, .bool mb, .int .u64 0, .int .i64 0]] w fun e w' => e = .returned (.agg #[.int .u8 3, .bool mm, .int .u64 0, .int .i64 (-149)]) ∧ Below w.heap.size w w' := by
  have HB : Below ((((w.alloc ob).alloc (oV 3 ma na pa)).alloc (oV 2 mb 0 0)).alloc oz).heap.size ((((w.alloc ob).alloc (oV 3 ma na pa)).alloc (oV 2 mb 0 0)).alloc oz) ((((w.alloc ob).alloc (oV 3 ma na pa)).alloc (oV 2 mb 0 0)).alloc oz) := Below.refl _ _
  go_enter Try.func34, Try.ntmps34
  go_wp2_with (first
    | (go_at_call 42; with_reducible refine (nought_any mm _).mono ?_; rintro e w1 ⟨rfl, hb1⟩; replace HB := bt2 hb1 (show Below ((((w.alloc ob).alloc (oV 3 ma na pa)).alloc (oV 2 mb 0 0)).alloc oz).heap.size ((((w.alloc ob).alloc (oV 3 ma na pa)).alloc (oV 2 mb 0 0)).alloc oz) _ from by (repeat (first | exact HB | exact Below.refl _ _ | with_reducible refine bel ?_ | with_reducible refine Below.drew ?_ | with_reducible refine bt3 ?_))); obtain ⟨x0, x1, x2, x3, x4, x5, x6, x7, x8, x9, x10⟩ := jF HB; obtain ⟨r0, r1, r2, r3, q0, q1, q2, q3⟩ := jA HB))
  refine bodyPost_ret (v := .agg #[.int .u8 3, .bool mm, .int .u64 0, .int .i64 (-149)]) (by simp [results, Try.f34, go_sem, r0, r1, r2, r3]) rfl ?_
  exact ⟨rfl, jB HB⟩
set_option maxRecDepth 100000 in
set_option maxHeartbeats 4000000 in
theorem rt_zz (ma mb : Bool) (pa pb : Int) (w : World) :
    Calls Try.prog 34 #[.agg #[.int .i64 24, .int .i64 (-149), .int .i64 104], .agg #[.int .u8 3, .bool ma, .int .u64 0, .int .i64 pa], .agg #[.int .u8 3, .bool mb, .int .u64 0, .int .i64 pb]] w fun e w' => e = .returned (vN) ∧ Below w.heap.size w w' := by
  have HB : Below ((((w.alloc ob).alloc (oV 3 ma 0 pa)).alloc (oV 3 mb 0 pb)).alloc oz).heap.size ((((w.alloc ob).alloc (oV 3 ma 0 pa)).alloc (oV 3 mb 0 pb)).alloc oz) ((((w.alloc ob).alloc (oV 3 ma 0 pa)).alloc (oV 3 mb 0 pb)).alloc oz) := Below.refl _ _
  go_enter Try.func34, Try.ntmps34
  go_wp2_with (first
    | (go_at_call 45; with_reducible refine (isn3z mb pb _).mono ?_; rintro e w1 ⟨rfl, hb1⟩; replace HB := bt2 hb1 (show Below ((((w.alloc ob).alloc (oV 3 ma 0 pa)).alloc (oV 3 mb 0 pb)).alloc oz).heap.size ((((w.alloc ob).alloc (oV 3 ma 0 pa)).alloc (oV 3 mb 0 pb)).alloc oz) _ from by (repeat (first | exact HB | exact Below.refl _ _ | with_reducible refine bel ?_ | with_reducible refine Below.drew ?_ | with_reducible refine bt3 ?_))); obtain ⟨x0, x1, x2, x3, x4, x5, x6, x7, x8, x9, x10⟩ := jF HB; obtain ⟨r0, r1, r2, r3, q0, q1, q2, q3⟩ := jA HB)
    | (go_at_call 45; with_reducible refine (isn3z ma pa _).mono ?_; rintro e w1 ⟨rfl, hb1⟩; replace HB := bt2 hb1 (show Below ((((w.alloc ob).alloc (oV 3 ma 0 pa)).alloc (oV 3 mb 0 pb)).alloc oz).heap.size ((((w.alloc ob).alloc (oV 3 ma 0 pa)).alloc (oV 3 mb 0 pb)).alloc oz) _ from by (repeat (first | exact HB | exact Below.refl _ _ | with_reducible refine bel ?_ | with_reducible refine Below.drew ?_ | with_reducible refine bt3 ?_))); obtain ⟨x0, x1, x2, x3, x4, x5, x6, x7, x8, x9, x10⟩ := jF HB; obtain ⟨r0, r1, r2, r3, q0, q1, q2, q3⟩ := jA HB)
    | (go_at_call 36; with_reducible refine (vnone_b _).mono ?_; rintro e w1 ⟨rfl, hb1⟩; replace HB := bt2 hb1 (show Below ((((w.alloc ob).alloc (oV 3 ma 0 pa)).alloc (oV 3 mb 0 pb)).alloc oz).heap.size ((((w.alloc ob).alloc (oV 3 ma 0 pa)).alloc (oV 3 mb 0 pb)).alloc oz) _ from by (repeat (first | exact HB | exact Below.refl _ _ | with_reducible refine bel ?_ | with_reducible refine Below.drew ?_ | with_reducible refine bt3 ?_))); obtain ⟨x0, x1, x2, x3, x4, x5, x6, x7, x8, x9, x10⟩ := jF HB; obtain ⟨r0, r1, r2, r3, q0, q1, q2, q3⟩ := jA HB))
  refine bodyPost_ret (v := vN) (by simp [results, Try.f34, go_sem, r0, r1, r2, r3]) rfl ?_
  exact ⟨rfl, jB HB⟩
set_option maxRecDepth 100000 in
set_option maxHeartbeats 4000000 in
theorem rt_fz (ma mb mm : Bool) (hmm : (!(ma == mb)) = mm) (na : Nat) (pa pb : Int) (g : ((na : Int) == 0) = false) (w : World) :
    Calls Try.prog 34 #[.agg #[.int .i64 24, .int .i64 (-149), .int .i64 104], .agg #[.int .u8 3, .bool ma, .int .u64 na, .int .i64 pa], .agg #[.int .u8 3, .bool mb, .int .u64 0, .int .i64 pb]] w fun e w' => e = .returned (vE mm) ∧ Below w.heap.size w w' := by
  have HB : Below ((((w.alloc ob).alloc (oV 3 ma na pa)).alloc (oV 3 mb 0 pb)).alloc oz).heap.size ((((w.alloc ob).alloc (oV 3 ma na pa)).alloc (oV 3 mb 0 pb)).alloc oz) ((((w.alloc ob).alloc (oV 3 ma na pa)).alloc (oV 3 mb 0 pb)).alloc oz) := Below.refl _ _
  go_enter Try.func34, Try.ntmps34
  go_wp2_with (first
    | (go_at_call 45; with_reducible refine (isn3z mb pb _).mono ?_; rintro e w1 ⟨rfl, hb1⟩; replace HB := bt2 hb1 (show Below ((((w.alloc ob).alloc (oV 3 ma na pa)).alloc (oV 3 mb 0 pb)).alloc oz).heap.size ((((w.alloc ob).alloc (oV 3 ma na pa)).alloc (oV 3 mb 0 pb)).alloc oz) _ from by (repeat (first | exact HB | exact Below.refl _ _ | with_reducible refine bel ?_ | with_reducible refine Below.drew ?_ | with_reducible refine bt3 ?_))); obtain ⟨x0, x1, x2, x3, x4, x5, x6, x7, x8, x9, x10⟩ := jF HB; obtain ⟨r0, r1, r2, r3, q0, q1, q2, q3⟩ := jA HB)
    | (go_at_call 45; with_reducible refine (isn3 ma na pa _ g).mono ?_; rintro e w1 ⟨rfl, hb1⟩; replace HB := bt2 hb1 (show Below ((((w.alloc ob).alloc (oV 3 ma na pa)).alloc (oV 3 mb 0 pb)).alloc oz).heap.size ((((w.alloc ob).alloc (oV 3 ma na pa)).alloc (oV 3 mb 0 pb)).alloc oz) _ from by (repeat (first | exact HB | exact Below.refl _ _ | with_reducible refine bel ?_ | with_reducible refine Below.drew ?_ | with_reducible refine bt3 ?_))); obtain ⟨x0, x1, x2, x3, x4, x5, x6, x7, x8, x9, x10⟩ := jF HB; obtain ⟨r0, r1, r2, r3, q0, q1, q2, q3⟩ := jA HB)
    | (go_at_call 46; with_reducible refine (vendless_b mm _).mono ?_; rintro e w1 ⟨rfl, hb1⟩; replace HB := bt2 hb1 (show Below ((((w.alloc ob).alloc (oV 3 ma na pa)).alloc (oV 3 mb 0 pb)).alloc oz).heap.size ((((w.alloc ob).alloc (oV 3 ma na pa)).alloc (oV 3 mb 0 pb)).alloc oz) _ from by (repeat (first | exact HB | exact Below.refl _ _ | with_reducible refine bel ?_ | with_reducible refine Below.drew ?_ | with_reducible refine bt3 ?_))); obtain ⟨x0, x1, x2, x3, x4, x5, x6, x7, x8, x9, x10⟩ := jF HB; obtain ⟨r0, r1, r2, r3, q0, q1, q2, q3⟩ := jA HB))
  refine bodyPost_ret (v := vE mm) (by simp [results, Try.f34, go_sem, r0, r1, r2, r3]) rfl ?_
  exact ⟨rfl, jB HB⟩
end Go.Proofs.Ythaipahaaajgoaa
namespace Go.Proofs.Ythaipahaaajgoaa
open Go.RowKit

set_option maxRecDepth 100000 in
set_option maxHeartbeats 4000000 in
theorem rt_ff (ma mb mm : Bool) (hmm : (!(ma == mb)) = mm) (na nb V q r : Nat) (mo : Bool) (pa pb p : Int) (w : World) (hna : na < 16777216) (hnb : nb < 16777216) (g : ((nb : Int) == 0) = false) (h1 : -149 ≤ pa) (h2 : pa ≤ 104) (h3 : -149 ≤ pb) (h4 : pb ≤ 104) (hp : pa - pb - 128 = p) (hV : na * 2 ^ 128 = V) (hq : V / nb = q) (hmo : decide (0 < V % nb) = mo) (hr : rg Ieee.single (2 * q + mo.toNat) (p - 1) = r) :
    Calls Try.prog 34 #[.agg #[.int .i64 24, .int .i64 (-149), .int .i64 104], .agg #[.int .u8 3, .bool ma, .int .u64 na, .int .i64 pa], .agg #[.int .u8 3, .bool mb, .int .u64 nb, .int .i64 pb]] w fun e w' => (∃ n q, e = .returned (hdV mm n q) ∧ Fits n q r) ∧ Below w.heap.size w w' := by
  have HU : ∀ v w, NatV w v na → Calls Try.prog 37 #[v, .int .i64 128] w fun e w' => (∃ v', e = .returned v' ∧ NatV w' v' V) ∧ Below w.heap.size w w' := fun v w h => by
    have := up_nv v na 128 w h (by omega) (by decide)
    rw [hV] at this
    exact this
  have HOV := fun v u w (h : NatV w v V) (h' : NatV w u nb) => over_q v u na nb V q mo w h h' hna hV hnb (by have := beq_eq_false_iff_ne.1 g; omega) hq hmo
  have hql : q < 2 ^ (32 * 6) := by rw [← hq]; exact Nat.lt_of_le_of_lt (Nat.div_le_self _ _) (by rw [← hV]; exact q_lt na hna)
  have HRD := fun v w (h : NatV w v q) => rnd_q mm v q p mo r w h hql (by omega) (by omega) hr
  have HP1 : Hid (IntKind.i64.wrap (pa - pb) = pa - pb) := by rw [Hid, IntKind.wrap_i64]; omega
  have HPw : Hid (IntKind.i64.wrap (pa - pb - 128) = p) := by rw [Hid, IntKind.wrap_i64]; omega
  have HPw2 : Hid (IntKind.i64.wrap p = p) := by rw [Hid, IntKind.wrap_i64]; omega
  clear hV hq hmo hr hql
  have HB : Below ((((w.alloc ob).alloc (oV 3 ma na pa)).alloc (oV 3 mb nb pb)).alloc oz).heap.size ((((w.alloc ob).alloc (oV 3 ma na pa)).alloc (oV 3 mb nb pb)).alloc oz) ((((w.alloc ob).alloc (oV 3 ma na pa)).alloc (oV 3 mb nb pb)).alloc oz) := Below.refl _ _
  go_enter Try.func34, Try.ntmps34
  go_wp2_with (go_at_call 45; with_reducible refine (isn3 mb nb pb _ g).mono ?_; rintro e w1 ⟨rfl, hb1⟩; replace HB := bt2 hb1 (show Below ((((w.alloc ob).alloc (oV 3 ma na pa)).alloc (oV 3 mb nb pb)).alloc oz).heap.size ((((w.alloc ob).alloc (oV 3 ma na pa)).alloc (oV 3 mb nb pb)).alloc oz) _ from by (repeat (first | exact HB | exact Below.refl _ _ | with_reducible refine bel ?_ | with_reducible refine Below.drew ?_ | with_reducible refine bt3 ?_))); obtain ⟨x0, x1, x2, x3, x4, x5, x6, x7, x8, x9, x10⟩ := jF HB; obtain ⟨r0, r1, r2, r3, q0, q1, q2, q3⟩ := jA HB)
  have HA := nv_nil w1
  have HQ := nv_nil w1
  clear x0 x1 x2 x3 x4 x5 x6 x7 x8 x9 x10 r0 r1 r2 r3 q0 q1 q2 q3
  go_region_held3 (fun w' => w'.cell? ⟨w.heap.size, 0, none⟩ = some (.int .i64 24) ∧ w'.cell? ⟨w.heap.size, 1, none⟩ = some (.int .i64 (-149)) ∧ w'.cell? ⟨w.heap.size, 2, none⟩ = some (.int .i64 104) ∧ w'.cell? ⟨w.heap.size + 1, 0, none⟩ = some (.int .u8 3) ∧ w'.cell? ⟨w.heap.size + 1, 1, none⟩ = some (.bool ma) ∧ w'.cell? ⟨w.heap.size + 1, 2, none⟩ = some (.int .u64 (na : Nat)) ∧ w'.cell? ⟨w.heap.size + 1, 3, none⟩ = some (.int .i64 pa) ∧ w'.cell? ⟨w.heap.size + 1 + 1, 0, none⟩ = some (.int .u8 3) ∧ w'.cell? ⟨w.heap.size + 1 + 1, 1, none⟩ = some (.bool mb) ∧ w'.cell? ⟨w.heap.size + 1 + 1, 2, none⟩ = some (.int .u64 (nb : Nat)) ∧ w'.cell? ⟨w.heap.size + 1 + 1, 3, none⟩ = some (.int .i64 pb)) ((first | ((try dsimp only); with_reducible refine jS ?_; (repeat (first | exact HB | exact Below.refl _ _ | with_reducible refine bel ?_ | with_reducible refine Below.drew ?_ | with_reducible refine bt3 ?_)); done) | (refine jF ?_; (repeat (first | exact HB | exact Below.refl _ _ | with_reducible refine bel ?_ | with_reducible refine Below.drew ?_ | with_reducible refine bt3 ?_)); done))) (first
    | (go_at_call 38; with_reducible refine (nat_any na _ (by omega)).mono ?_; rintro e w1 ⟨⟨v1, rfl, hv1⟩, hb1⟩; replace HB : Below ((((w.alloc ob).alloc (oV 3 ma na pa)).alloc (oV 3 mb nb pb)).alloc oz).heap.size ((((w.alloc ob).alloc (oV 3 ma na pa)).alloc (oV 3 mb nb pb)).alloc oz) w1 := bt2 hb1 (by (repeat (first | exact HB | exact Below.refl _ _ | with_reducible refine bel ?_ | with_reducible refine Below.drew ?_ | with_reducible refine bt3 ?_))); replace HQ := HQ.step (by (repeat (first | exact Below.refl _ _ | with_reducible refine bel ?_ | with_reducible refine Below.drew ?_ | with_reducible refine bt3 ?_))) hb1; replace HA := hv1; clear hb1 hv1)
    | (go_at_call 38; with_reducible refine (nat_any nb _ (by omega)).mono ?_; rintro e w3 ⟨⟨v3, rfl, hv3⟩, hb3⟩; replace HB : Below ((((w.alloc ob).alloc (oV 3 ma na pa)).alloc (oV 3 mb nb pb)).alloc oz).heap.size ((((w.alloc ob).alloc (oV 3 ma na pa)).alloc (oV 3 mb nb pb)).alloc oz) w3 := bt2 hb3 (by (repeat (first | exact HB | exact Below.refl _ _ | with_reducible refine bel ?_ | with_reducible refine Below.drew ?_ | with_reducible refine bt3 ?_))); replace HA := HA.step (by (repeat (first | exact Below.refl _ _ | with_reducible refine bel ?_ | with_reducible refine Below.drew ?_ | with_reducible refine bt3 ?_))) hb3; replace HQ := hv3; clear hb3 hv3)
    | (go_at_call 37; with_reducible refine (HU v1 _ (HA.on (by (repeat (first | exact Below.refl _ _ | with_reducible refine bel ?_ | with_reducible refine Below.drew ?_ | with_reducible refine bt3 ?_))))).mono ?_; rintro e w4 ⟨⟨v4, rfl, hv4⟩, hb4⟩; replace HB : Below ((((w.alloc ob).alloc (oV 3 ma na pa)).alloc (oV 3 mb nb pb)).alloc oz).heap.size ((((w.alloc ob).alloc (oV 3 ma na pa)).alloc (oV 3 mb nb pb)).alloc oz) w4 := bt2 hb4 (by (repeat (first | exact HB | exact Below.refl _ _ | with_reducible refine bel ?_ | with_reducible refine Below.drew ?_ | with_reducible refine bt3 ?_))); replace HQ := HQ.step (by (repeat (first | exact Below.refl _ _ | with_reducible refine bel ?_ | with_reducible refine Below.drew ?_ | with_reducible refine bt3 ?_))) hb4; replace HA := hv4; clear hb4 hv4)
    | (go_at_call 48; with_reducible refine (HOV v4 v3 _ (HA.on (by (repeat (first | exact Below.refl _ _ | with_reducible refine bel ?_ | with_reducible refine Below.drew ?_ | with_reducible refine bt3 ?_)))) (HQ.on (by (repeat (first | exact Below.refl _ _ | with_reducible refine bel ?_ | with_reducible refine Below.drew ?_ | with_reducible refine bt3 ?_))))).mono ?_; rintro e w5 ⟨⟨v5, rfl, hv5⟩, hb5⟩; replace HB : Below ((((w.alloc ob).alloc (oV 3 ma na pa)).alloc (oV 3 mb nb pb)).alloc oz).heap.size ((((w.alloc ob).alloc (oV 3 ma na pa)).alloc (oV 3 mb nb pb)).alloc oz) w5 := bt2 hb5 (by (repeat (first | exact HB | exact Below.refl _ _ | with_reducible refine bel ?_ | with_reducible refine Below.drew ?_ | with_reducible refine bt3 ?_))); replace HQ := HQ.step (by (repeat (first | exact Below.refl _ _ | with_reducible refine bel ?_ | with_reducible refine Below.drew ?_ | with_reducible refine bt3 ?_))) hb5; replace HA := hv5; clear hb5 hv5))
  clear HQ
  obtain ⟨x0, x1, x2, x3, x4, x5, x6, x7, x8, x9, x10⟩ := jF HB; obtain ⟨r0, r1, r2, r3, q0, q1, q2, q3⟩ := jA HB
  go_wp2_with (first
    | (go_at_call 39; (first | rw [HPw.out] | rw [HPw2.out] | skip); with_reducible refine (HRD v5 _ (HA.on (by (repeat (first | exact Below.refl _ _ | with_reducible refine bel ?_ | with_reducible refine Below.drew ?_ | with_reducible refine bt3 ?_))))).mono ?_; rintro e w9 ⟨⟨n9, p9, rfl, hf9⟩, hb9⟩; rw [hdV_agg]; replace HB : Below ((((w.alloc ob).alloc (oV 3 ma na pa)).alloc (oV 3 mb nb pb)).alloc oz).heap.size ((((w.alloc ob).alloc (oV 3 ma na pa)).alloc (oV 3 mb nb pb)).alloc oz) w9 := bt2 hb9 (by (repeat (first | exact HB | exact Below.refl _ _ | with_reducible refine bel ?_ | with_reducible refine Below.drew ?_ | with_reducible refine bt3 ?_))); clear x0 x1 x2 x3 x4 x5 x6 x7 x8 x9 x10 r0 r1 r2 r3 q0 q1 q2 q3; obtain ⟨r0, r1, r2, r3, q0, q1, q2, q3⟩ := jA HB))
  all_goals refine bodyPost_ret (v := .agg #[.int .u8 (vS p9), .bool mm, .int .u64 (vM n9 p9), .int .i64 (vP p9)]) (by simp [results, Try.f34, go_sem, r0, r1, r2, r3]) rfl ?_
  all_goals exact ⟨⟨n9, p9, by rw [hdV_agg], hf9⟩, jB HB⟩
end Go.Proofs.Ythaipahaaajgoaa
namespace Go.Proofs.Ythaipahaaajgoaa
open Go.RowKit

theorem xor_neR (m n : Bool) : (m ^^ n) = !(m == n) := by cases m <;> cases n <;> rfl
theorem div0 (a b : Nat) : Ieee.single.div a b = ((Ieee.single.read a).quotient 25 (Ieee.single.read b)).map Ieee.single.write := rfl
theorem fdiv_rd (a b : Nat) (fa : a % 2147483648 < 2139095040) (fb : b % 2147483648 < 2139095040) (hb : rdm b ≠ 0) :
    fdiv a b = Ieee.single.word (sn a ^^ sn b) (min (rg Ieee.single (2 * (rdm a * 2 ^ 128 / rdm b) + (rdm a * 2 ^ 128 % rdm b != 0).toNat) (-149 + (rdk a : Int) - (-149 + (rdk b : Int)) - 128 - 1)) 2139095040) := by
  obtain ⟨ka, na⟩ := rd_k fa
  obtain ⟨kb, nb⟩ := rd_k fb
  have h0 := div0 a b
  rw [read_rd a fa, read_rd b fb] at h0
  simp only [Ieee.Datum.quotient, if_neg hb, Option.map_some] at h0
  generalize hm : 25 + (rdm b).log2 - (rdm a).log2 = more at h0
  rw [Nat.shiftLeft_eq] at h0
  have hf : fdiv a b = Ieee.single.word (sn a ^^ sn b) (min (rg Ieee.single (2 * (rdm a * 2 ^ more / rdm b) + (rdm a * 2 ^ more % rdm b != 0).toNat) (-149 + (rdk a : Int) - (-149 + (rdk b : Int)) - more - 1)) 2139095040) := by
    unfold fdiv; rw [h0]; exact nearest_word _ _ _
  rw [hf]
  congr 2
  by_cases hz : rdm a = 0
  · rw [hz]
    simp only [Nat.zero_mul, Nat.zero_div, Nat.zero_mod]
    unfold rg
    rw [if_pos (by decide), if_pos (by decide)]
  have hbp : 0 < rdm b := by omega
  have hlb := log_lt (n := rdm b) (k := 24) (by decide) (show rdm b < 2 ^ 24 by omega)
  have hla := log_lt (n := rdm a) (k := 24) (by decide) (show rdm a < 2 ^ 24 by omega)
  have hlt : rdm b < 2 ^ ((rdm b).log2 + 1) := Nat.lt_log2_self
  have hge : 2 ^ (rdm a).log2 ≤ rdm a := Nat.log2_self_le hz
  have hD : 16777216 ≤ rdm a * 2 ^ more / rdm b := by
    rw [Nat.le_div_iff_mul_le hbp]
    have h3 : 2 ^ ((rdm a).log2 + more) ≤ rdm a * 2 ^ more := by rw [Nat.pow_add]; exact Nat.mul_le_mul_right _ hge
    have h4 : 2 ^ (24 + ((rdm b).log2 + 1)) ≤ 2 ^ ((rdm a).log2 + more) := Nat.pow_le_pow_right (by decide) (by omega)
    have h5 : 16777216 * rdm b ≤ 16777216 * 2 ^ ((rdm b).log2 + 1) := Nat.mul_le_mul_left _ (Nat.le_of_lt hlt)
    rw [Nat.pow_add 2 24] at h4
    omega
  obtain ⟨d, hd⟩ : ∃ d, more + d = 128 := ⟨128 - more, by omega⟩
  have := rg_quot (rdm a) (rdm b) more d (-149 + (rdk a : Int) - (-149 + (rdk b : Int)) - 128 - 1) hbp hD
  rw [hd] at this
  rw [← this]
  congr 1
  omega
theorem fdiv_ii {a b : Nat} (hi : a % 2147483648 = 2139095040) (hj : b % 2147483648 = 2139095040) : fdiv a b = 2143289344 := by
  have h0 := div0 a b
  rw [inf_read hi, inf_read hj] at h0
  unfold fdiv
  rw [h0]
  rfl
theorem fdiv_if {a b : Nat} (hi : a % 2147483648 = 2139095040) (hf : b % 2147483648 < 2139095040) : fdiv a b = Ieee.single.word (sn a ^^ sn b) 2139095040 := by
  have h0 := div0 a b
  rw [inf_read hi, read_rd b hf] at h0
  unfold fdiv
  rw [h0]
  rfl
theorem fdiv_fi {a b : Nat} (hi : b % 2147483648 = 2139095040) (hf : a % 2147483648 < 2139095040) : fdiv a b = Ieee.single.word (sn a ^^ sn b) 0 := by
  have h0 := div0 a b
  rw [inf_read hi, read_rd a hf] at h0
  unfold fdiv
  rw [h0]
  rfl
theorem fdiv_fz {a b : Nat} (fa : a % 2147483648 < 2139095040) (fb : b % 2147483648 < 2139095040) (hb : rdm b = 0) : fdiv a b = if rdm a = 0 then 2143289344 else Ieee.single.word (sn a ^^ sn b) 2139095040 := by
  have h0 := div0 a b
  rw [read_rd a fa, read_rd b fb] at h0
  unfold fdiv
  rw [h0]
  simp only [Ieee.Datum.quotient, if_pos hb]
  split <;> rfl
theorem layV_endR (m : Bool) (x : Nat) (h : x = wrd m 2139095040) : LayV (vE m) x := fun w => by
  have := lay_endless m w
  rw [h]; exact this
theorem dec_ne (n : Nat) : (decide (0 < n)).toNat = (n != 0).toNat := by
  by_cases h : n = 0
  · subst h; rfl
  · rw [decide_eq_true (by omega), show (n != 0) = true by simp [h]]
theorem ratiov_any (a b : Nat) (w : World) (ha : a < 4294967296) (hb : b < 4294967296) :
    Calls Try.prog 34 #[.agg #[.int .i64 24, .int .i64 (-149), .int .i64 104], tv a, tv b] w fun e w' => (∃ v, e = .returned v ∧ LayV v (fdiv a b)) ∧ Below w.heap.size w w' := by
  have hx : (sn a ^^ sn b) = !(sg a == sg b) := by rw [xor_neR, sg_sn a ha, sg_sn b hb]
  rcases ok_cases a with ca | ca | ca
  · rw [tv_none ca, fdiv_nan (Or.inl ca)]
    rcases ok_cases b with cb | cb | cb
    · rw [tv_none cb]; exact (rt_n1 _ _ _ _ w).mono fun e w' ⟨he, h⟩ => ⟨⟨_, he, layV_none⟩, h⟩
    · rw [tv_inf cb]; exact (rt_n1 _ _ _ _ w).mono fun e w' ⟨he, h⟩ => ⟨⟨_, he, layV_none⟩, h⟩
    · rw [tv_fin cb]; exact (rt_n1 _ _ _ _ w).mono fun e w' ⟨he, h⟩ => ⟨⟨_, he, layV_none⟩, h⟩
  · rw [tv_inf ca]
    rcases ok_cases b with cb | cb | cb
    · rw [tv_none cb, fdiv_nan (Or.inr cb)]; exact (rt_n2 2 _ _ _ rfl w).mono fun e w' ⟨he, h⟩ => ⟨⟨_, he, layV_none⟩, h⟩
    · rw [tv_inf cb, fdiv_ii ca cb]
      exact (rt_ee _ _ w).mono fun e w' ⟨he, h⟩ => ⟨⟨_, he, layV_none⟩, h⟩
    · rw [tv_fin cb]
      have hf := fdiv_if ca cb
      rw [hx, word_wrd _ _ (by decide)] at hf
      exact (rt_ef _ _ _ rfl _ _ w).mono fun e w' ⟨he, h⟩ => ⟨⟨_, he, layV_endR _ _ hf⟩, h⟩
  · rcases ok_cases b with cb | cb | cb
    · rw [tv_fin ca, tv_none cb, fdiv_nan (Or.inr cb)]; exact (rt_n2 3 _ _ _ rfl w).mono fun e w' ⟨he, h⟩ => ⟨⟨_, he, layV_none⟩, h⟩
    · rw [tv_fin ca, tv_inf cb]
      have hf := fdiv_fi cb ca
      rw [hx, word_wrd _ _ (by decide)] at hf
      refine (rt_fe _ _ _ rfl _ _ w).mono fun e w' ⟨he, h⟩ => ⟨⟨_, he, ?_⟩, h⟩
      have hfit : Fits 0 (-149) 0 := ⟨0, by omega, by omega, Or.inl rfl, rfl⟩
      have h9 := layV_fit (m := !(sg a == sg b)) (x := fdiv a b) hfit (by rw [hf, Nat.zero_min])
      rw [show hdV (!(sg a == sg b)) 0 (-149) = .agg #[.int .u8 3, .bool (!(sg a == sg b)), .int .u64 ((0 : Nat) : Int), .int .i64 (-149)] from if_neg (by decide)] at h9
      exact h9
    · rw [tv_fin ca, tv_fin cb]
      obtain ⟨ka, na⟩ := rd_k ca
      obtain ⟨kb, nb⟩ := rd_k cb
      by_cases hz : rdm b = 0
      · have hf := fdiv_fz ca cb hz
        rw [hz]
        by_cases hy : rdm a = 0
        · rw [if_pos hy] at hf
          rw [hf, hy]
          exact (rt_zz _ _ _ _ w).mono fun e w' ⟨he, h⟩ => ⟨⟨_, he, layV_none⟩, h⟩
        · rw [if_neg hy, hx, word_wrd _ _ (by decide)] at hf
          exact (rt_fz _ _ _ rfl _ _ _ (by rw [beq_eq_false_iff_ne]; omega) w).mono fun e w' ⟨he, h⟩ => ⟨⟨_, he, layV_endR _ _ hf⟩, h⟩
      · have hf := fdiv_rd a b ca cb hz
        rw [hx, word_wrd _ _ (Nat.lt_of_le_of_lt (Nat.min_le_right _ _) (by decide)), ← dec_ne] at hf
        exact (rt_ff _ _ _ rfl _ _ _ _ _ _ _ _ _ w na nb (by rw [beq_eq_false_iff_ne]; omega) (by omega) (by omega) (by omega) (by omega) rfl rfl rfl rfl rfl).mono fun e w' ⟨⟨n, q, he, hq⟩, hbl⟩ => ⟨⟨_, he, layV_fit hq hf⟩, hbl⟩
set_option maxRecDepth 100000 in
set_option maxHeartbeats 1000000 in
theorem ratios_any (a b : Nat) (w : World) (ha : a < 4294967296) (hb : b < 4294967296) :
    Calls Try.prog 25 #[.int .u32 a, .int .u32 b] w fun e w' => e = .returned (.int .u32 (fdiv a b)) ∧ Below w.heap.size w w' := by
  have HB : Below w.heap.size w w := Below.refl _ _
  go_enter Try.func25, Try.ntmps25
  go_wp2_with (first
    | (go_at_call 30; refine (form_any _).mono ?_; rintro e wq ⟨rfl, hq⟩; subst wq)
    | (go_at_call 31; with_reducible refine (take_any a _ ha).mono ?_; rintro e w1 ⟨rfl, h1⟩; replace HB : Below w.heap.size w w1 := bt2 h1 (by (repeat (first | exact HB | exact Below.refl _ _ | with_reducible refine bel ?_ | with_reducible refine Below.drew ?_ | with_reducible refine bt3 ?_))))
    | (go_at_call 31; with_reducible refine (take_any b _ hb).mono ?_; rintro e w1 ⟨rfl, h1⟩; replace HB : Below w.heap.size w w1 := bt2 h1 (by (repeat (first | exact HB | exact Below.refl _ _ | with_reducible refine bel ?_ | with_reducible refine Below.drew ?_ | with_reducible refine bt3 ?_))))
    | (go_at_call 34; with_reducible refine (ratiov_any a b _ ha hb).mono ?_; rintro e w2 ⟨⟨v, rfl, hv⟩, h2⟩; replace HB : Below w.heap.size w w2 := bt2 h2 (by (repeat (first | exact HB | exact Below.refl _ _ | with_reducible refine bel ?_ | with_reducible refine Below.drew ?_ | with_reducible refine bt3 ?_))))
    | (go_at_call 28; with_reducible refine (layAt hv _).mono ?_; rintro e w3 ⟨rfl, h3⟩; replace HB : Below w.heap.size w w3 := bt2 h3 (by (repeat (first | exact HB | exact Below.refl _ _ | with_reducible refine bel ?_ | with_reducible refine Below.drew ?_ | with_reducible refine bt3 ?_)))))
  go_ret
  exact ⟨rfl, HB⟩
end Go.Proofs.Ythaipahaaajgoaa
