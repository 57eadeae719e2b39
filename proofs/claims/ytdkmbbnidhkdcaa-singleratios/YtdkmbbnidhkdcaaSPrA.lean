import Derived.Test.YtdkmbbnidhkdcaaSTimes
import Derived.Test.YtdkmbbnidhkdcaaSStB
namespace Go.Proofs.Ytdkmbbnidhkdcaa
open Go.RowKit

theorem rnd_nv (m : Bool) (v : Value) (x k : Nat) (P : Int) (w : World) (h : NatV w v x) (hx : x < 2 ^ (32 * k)) (hk : k ≤ 100) (hP : -5000 ≤ P) (hP2 : P ≤ 5000) :
    Calls Try.prog 35 #[.agg #[.int .i64 24, .int .i64 (-149), .int .i64 104], .bool m, v, .int .i64 P, .bool false] w fun e w' => (∃ n p, e = .returned (hdV m n p) ∧ Fits n p (rg Ieee.single x P)) ∧ Below w.heap.size w w' := by
  obtain ⟨ao, cap, zs, rfl, hc, hn', hval, hN, hW, hr⟩ := h
  have := rnd_any m ao cap zs P w (by have := len_pow hN hval k hx; omega) hr hW hN hP hP2
  rw [hval] at this
  exact this
theorem vnone_b (w : World) : Calls Try.prog 32 #[] w fun e w' => e = .returned vN ∧ Below w.heap.size w w' := (vnone_any w).mono fun e w' ⟨he, h⟩ => ⟨he, by rw [h]; exact bel (Below.refl _ _)⟩
theorem vendless_b (m : Bool) (w : World) : Calls Try.prog 42 #[.bool m] w fun e w' => e = .returned (vE m) ∧ Below w.heap.size w w' := (vendless_any m w).mono fun e w' ⟨he, h⟩ => ⟨he, by rw [h]; exact bel (Below.refl _ _)⟩
set_option maxRecDepth 100000 in
set_option maxHeartbeats 4000000 in
theorem pr_n1 (sb : Int) (mb : Bool) (nb pb : Int) (w : World) :
    Calls Try.prog 25 #[.agg #[.int .i64 24, .int .i64 (-149), .int .i64 104], .agg #[.int .u8 1, .bool false, .int .u64 0, .int .i64 0], .agg #[.int .u8 sb, .bool mb, .int .u64 nb, .int .i64 pb]] w fun e w' => e = .returned (vN) ∧ Below w.heap.size w w' := by
  have HB : Below ((((w.alloc ob).alloc (oV 1 false 0 0)).alloc (oV sb mb nb pb)).alloc oz).heap.size ((((w.alloc ob).alloc (oV 1 false 0 0)).alloc (oV sb mb nb pb)).alloc oz) ((((w.alloc ob).alloc (oV 1 false 0 0)).alloc (oV sb mb nb pb)).alloc oz) := Below.refl _ _
  go_enter Try.func25, Try.ntmps25
  go_wp2_with (first
    | (go_at_call 32; with_reducible refine (vnone_b _).mono ?_; rintro e w1 ⟨rfl, hb1⟩; replace HB := bt2 hb1 (show Below ((((w.alloc ob).alloc (oV 1 false 0 0)).alloc (oV sb mb nb pb)).alloc oz).heap.size ((((w.alloc ob).alloc (oV 1 false 0 0)).alloc (oV sb mb nb pb)).alloc oz) _ from by (repeat (first | exact HB | exact Below.refl _ _ | with_reducible refine bel ?_ | with_reducible refine Below.drew ?_ | with_reducible refine bt3 ?_))); obtain ⟨x0, x1, x2, x3, x4, x5, x6, x7, x8, x9, x10⟩ := jF HB; obtain ⟨r0, r1, r2, r3, q0, q1, q2, q3⟩ := jA HB))
  refine bodyPost_ret (v := vN) (by simp [results, Try.f25, go_sem, r0, r1, r2, r3]) rfl ?_
  exact ⟨rfl, jB HB⟩
set_option maxRecDepth 100000 in
set_option maxHeartbeats 4000000 in
theorem pr_n2 (sa : Int) (ma : Bool) (na pa : Int) (h : (sa == 1) = false) (w : World) :
    Calls Try.prog 25 #[.agg #[.int .i64 24, .int .i64 (-149), .int .i64 104], .agg #[.int .u8 sa, .bool ma, .int .u64 na, .int .i64 pa], .agg #[.int .u8 1, .bool false, .int .u64 0, .int .i64 0]] w fun e w' => e = .returned (vN) ∧ Below w.heap.size w w' := by
  have HB : Below ((((w.alloc ob).alloc (oV sa ma na pa)).alloc (oV 1 false 0 0)).alloc oz).heap.size ((((w.alloc ob).alloc (oV sa ma na pa)).alloc (oV 1 false 0 0)).alloc oz) ((((w.alloc ob).alloc (oV sa ma na pa)).alloc (oV 1 false 0 0)).alloc oz) := Below.refl _ _
  go_enter Try.func25, Try.ntmps25
  go_wp2_with (first
    | (go_at_call 32; with_reducible refine (vnone_b _).mono ?_; rintro e w1 ⟨rfl, hb1⟩; replace HB := bt2 hb1 (show Below ((((w.alloc ob).alloc (oV sa ma na pa)).alloc (oV 1 false 0 0)).alloc oz).heap.size ((((w.alloc ob).alloc (oV sa ma na pa)).alloc (oV 1 false 0 0)).alloc oz) _ from by (repeat (first | exact HB | exact Below.refl _ _ | with_reducible refine bel ?_ | with_reducible refine Below.drew ?_ | with_reducible refine bt3 ?_))); obtain ⟨x0, x1, x2, x3, x4, x5, x6, x7, x8, x9, x10⟩ := jF HB; obtain ⟨r0, r1, r2, r3, q0, q1, q2, q3⟩ := jA HB))
  refine bodyPost_ret (v := vN) (by simp [results, Try.f25, go_sem, r0, r1, r2, r3]) rfl ?_
  exact ⟨rfl, jB HB⟩
set_option maxRecDepth 100000 in
set_option maxHeartbeats 4000000 in
theorem pr_ee (ma mb mm : Bool) (hmm : (!(ma == mb)) = mm) (w : World) :
    Calls Try.prog 25 #[.agg #[.int .i64 24, .int .i64 (-149), .int .i64 104], .agg #[.int .u8 2, .bool ma, .int .u64 0, .int .i64 0], .agg #[.int .u8 2, .bool mb, .int .u64 0, .int .i64 0]] w fun e w' => e = .returned (vE mm) ∧ Below w.heap.size w w' := by
  have HB : Below ((((w.alloc ob).alloc (oV 2 ma 0 0)).alloc (oV 2 mb 0 0)).alloc oz).heap.size ((((w.alloc ob).alloc (oV 2 ma 0 0)).alloc (oV 2 mb 0 0)).alloc oz) ((((w.alloc ob).alloc (oV 2 ma 0 0)).alloc (oV 2 mb 0 0)).alloc oz) := Below.refl _ _
  go_enter Try.func25, Try.ntmps25
  go_wp2_with (first
    | (go_at_call 41; with_reducible refine (isn2 ma _).mono ?_; rintro e w1 ⟨rfl, hb1⟩; replace HB := bt2 hb1 (show Below ((((w.alloc ob).alloc (oV 2 ma 0 0)).alloc (oV 2 mb 0 0)).alloc oz).heap.size ((((w.alloc ob).alloc (oV 2 ma 0 0)).alloc (oV 2 mb 0 0)).alloc oz) _ from by (repeat (first | exact HB | exact Below.refl _ _ | with_reducible refine bel ?_ | with_reducible refine Below.drew ?_ | with_reducible refine bt3 ?_))); obtain ⟨x0, x1, x2, x3, x4, x5, x6, x7, x8, x9, x10⟩ := jF HB; obtain ⟨r0, r1, r2, r3, q0, q1, q2, q3⟩ := jA HB)
    | (go_at_call 41; with_reducible refine (isn2 mb _).mono ?_; rintro e w1 ⟨rfl, hb1⟩; replace HB := bt2 hb1 (show Below ((((w.alloc ob).alloc (oV 2 ma 0 0)).alloc (oV 2 mb 0 0)).alloc oz).heap.size ((((w.alloc ob).alloc (oV 2 ma 0 0)).alloc (oV 2 mb 0 0)).alloc oz) _ from by (repeat (first | exact HB | exact Below.refl _ _ | with_reducible refine bel ?_ | with_reducible refine Below.drew ?_ | with_reducible refine bt3 ?_))); obtain ⟨x0, x1, x2, x3, x4, x5, x6, x7, x8, x9, x10⟩ := jF HB; obtain ⟨r0, r1, r2, r3, q0, q1, q2, q3⟩ := jA HB)
    | (go_at_call 42; with_reducible refine (vendless_b mm _).mono ?_; rintro e w1 ⟨rfl, hb1⟩; replace HB := bt2 hb1 (show Below ((((w.alloc ob).alloc (oV 2 ma 0 0)).alloc (oV 2 mb 0 0)).alloc oz).heap.size ((((w.alloc ob).alloc (oV 2 ma 0 0)).alloc (oV 2 mb 0 0)).alloc oz) _ from by (repeat (first | exact HB | exact Below.refl _ _ | with_reducible refine bel ?_ | with_reducible refine Below.drew ?_ | with_reducible refine bt3 ?_))); obtain ⟨x0, x1, x2, x3, x4, x5, x6, x7, x8, x9, x10⟩ := jF HB; obtain ⟨r0, r1, r2, r3, q0, q1, q2, q3⟩ := jA HB))
  refine bodyPost_ret (v := vE mm) (by simp [results, Try.f25, go_sem, r0, r1, r2, r3]) rfl ?_
  exact ⟨rfl, jB HB⟩
set_option maxRecDepth 100000 in
set_option maxHeartbeats 4000000 in
theorem pr_ez (ma mb : Bool) (pb : Int) (w : World) :
    Calls Try.prog 25 #[.agg #[.int .i64 24, .int .i64 (-149), .int .i64 104], .agg #[.int .u8 2, .bool ma, .int .u64 0, .int .i64 0], .agg #[.int .u8 3, .bool mb, .int .u64 0, .int .i64 pb]] w fun e w' => e = .returned (vN) ∧ Below w.heap.size w w' := by
  have HB : Below ((((w.alloc ob).alloc (oV 2 ma 0 0)).alloc (oV 3 mb 0 pb)).alloc oz).heap.size ((((w.alloc ob).alloc (oV 2 ma 0 0)).alloc (oV 3 mb 0 pb)).alloc oz) ((((w.alloc ob).alloc (oV 2 ma 0 0)).alloc (oV 3 mb 0 pb)).alloc oz) := Below.refl _ _
  go_enter Try.func25, Try.ntmps25
  go_wp2_with (first
    | (go_at_call 41; with_reducible refine (isn2 ma _).mono ?_; rintro e w1 ⟨rfl, hb1⟩; replace HB := bt2 hb1 (show Below ((((w.alloc ob).alloc (oV 2 ma 0 0)).alloc (oV 3 mb 0 pb)).alloc oz).heap.size ((((w.alloc ob).alloc (oV 2 ma 0 0)).alloc (oV 3 mb 0 pb)).alloc oz) _ from by (repeat (first | exact HB | exact Below.refl _ _ | with_reducible refine bel ?_ | with_reducible refine Below.drew ?_ | with_reducible refine bt3 ?_))); obtain ⟨x0, x1, x2, x3, x4, x5, x6, x7, x8, x9, x10⟩ := jF HB; obtain ⟨r0, r1, r2, r3, q0, q1, q2, q3⟩ := jA HB)
    | (go_at_call 41; with_reducible refine (isn3z mb pb _).mono ?_; rintro e w1 ⟨rfl, hb1⟩; replace HB := bt2 hb1 (show Below ((((w.alloc ob).alloc (oV 2 ma 0 0)).alloc (oV 3 mb 0 pb)).alloc oz).heap.size ((((w.alloc ob).alloc (oV 2 ma 0 0)).alloc (oV 3 mb 0 pb)).alloc oz) _ from by (repeat (first | exact HB | exact Below.refl _ _ | with_reducible refine bel ?_ | with_reducible refine Below.drew ?_ | with_reducible refine bt3 ?_))); obtain ⟨x0, x1, x2, x3, x4, x5, x6, x7, x8, x9, x10⟩ := jF HB; obtain ⟨r0, r1, r2, r3, q0, q1, q2, q3⟩ := jA HB)
    | (go_at_call 32; with_reducible refine (vnone_b _).mono ?_; rintro e w1 ⟨rfl, hb1⟩; replace HB := bt2 hb1 (show Below ((((w.alloc ob).alloc (oV 2 ma 0 0)).alloc (oV 3 mb 0 pb)).alloc oz).heap.size ((((w.alloc ob).alloc (oV 2 ma 0 0)).alloc (oV 3 mb 0 pb)).alloc oz) _ from by (repeat (first | exact HB | exact Below.refl _ _ | with_reducible refine bel ?_ | with_reducible refine Below.drew ?_ | with_reducible refine bt3 ?_))); obtain ⟨x0, x1, x2, x3, x4, x5, x6, x7, x8, x9, x10⟩ := jF HB; obtain ⟨r0, r1, r2, r3, q0, q1, q2, q3⟩ := jA HB))
  refine bodyPost_ret (v := vN) (by simp [results, Try.f25, go_sem, r0, r1, r2, r3]) rfl ?_
  exact ⟨rfl, jB HB⟩
set_option maxRecDepth 100000 in
set_option maxHeartbeats 4000000 in
theorem pr_ef (ma mb mm : Bool) (hmm : (!(ma == mb)) = mm) (nb : Nat) (pb : Int) (g : ((nb : Int) == 0) = false) (w : World) :
    Calls Try.prog 25 #[.agg #[.int .i64 24, .int .i64 (-149), .int .i64 104], .agg #[.int .u8 2, .bool ma, .int .u64 0, .int .i64 0], .agg #[.int .u8 3, .bool mb, .int .u64 nb, .int .i64 pb]] w fun e w' => e = .returned (vE mm) ∧ Below w.heap.size w w' := by
  have HB : Below ((((w.alloc ob).alloc (oV 2 ma 0 0)).alloc (oV 3 mb nb pb)).alloc oz).heap.size ((((w.alloc ob).alloc (oV 2 ma 0 0)).alloc (oV 3 mb nb pb)).alloc oz) ((((w.alloc ob).alloc (oV 2 ma 0 0)).alloc (oV 3 mb nb pb)).alloc oz) := Below.refl _ _
  go_enter Try.func25, Try.ntmps25
  go_wp2_with (first
    | (go_at_call 41; with_reducible refine (isn2 ma _).mono ?_; rintro e w1 ⟨rfl, hb1⟩; replace HB := bt2 hb1 (show Below ((((w.alloc ob).alloc (oV 2 ma 0 0)).alloc (oV 3 mb nb pb)).alloc oz).heap.size ((((w.alloc ob).alloc (oV 2 ma 0 0)).alloc (oV 3 mb nb pb)).alloc oz) _ from by (repeat (first | exact HB | exact Below.refl _ _ | with_reducible refine bel ?_ | with_reducible refine Below.drew ?_ | with_reducible refine bt3 ?_))); obtain ⟨x0, x1, x2, x3, x4, x5, x6, x7, x8, x9, x10⟩ := jF HB; obtain ⟨r0, r1, r2, r3, q0, q1, q2, q3⟩ := jA HB)
    | (go_at_call 41; with_reducible refine (isn3 mb nb pb _ g).mono ?_; rintro e w1 ⟨rfl, hb1⟩; replace HB := bt2 hb1 (show Below ((((w.alloc ob).alloc (oV 2 ma 0 0)).alloc (oV 3 mb nb pb)).alloc oz).heap.size ((((w.alloc ob).alloc (oV 2 ma 0 0)).alloc (oV 3 mb nb pb)).alloc oz) _ from by (repeat (first | exact HB | exact Below.refl _ _ | with_reducible refine bel ?_ | with_reducible refine Below.drew ?_ | with_reducible refine bt3 ?_))); obtain ⟨x0, x1, x2, x3, x4, x5, x6, x7, x8, x9, x10⟩ := jF HB; obtain ⟨r0, r1, r2, r3, q0, q1, q2, q3⟩ := jA HB)
    | (go_at_call 42; with_reducible refine (vendless_b mm _).mono ?_; rintro e w1 ⟨rfl, hb1⟩; replace HB := bt2 hb1 (show Below ((((w.alloc ob).alloc (oV 2 ma 0 0)).alloc (oV 3 mb nb pb)).alloc oz).heap.size ((((w.alloc ob).alloc (oV 2 ma 0 0)).alloc (oV 3 mb nb pb)).alloc oz) _ from by (repeat (first | exact HB | exact Below.refl _ _ | with_reducible refine bel ?_ | with_reducible refine Below.drew ?_ | with_reducible refine bt3 ?_))); obtain ⟨x0, x1, x2, x3, x4, x5, x6, x7, x8, x9, x10⟩ := jF HB; obtain ⟨r0, r1, r2, r3, q0, q1, q2, q3⟩ := jA HB))
  refine bodyPost_ret (v := vE mm) (by simp [results, Try.f25, go_sem, r0, r1, r2, r3]) rfl ?_
  exact ⟨rfl, jB HB⟩
set_option maxRecDepth 100000 in
set_option maxHeartbeats 4000000 in
theorem pr_ze (ma mb : Bool) (pa : Int) (w : World) :
    Calls Try.prog 25 #[.agg #[.int .i64 24, .int .i64 (-149), .int .i64 104], .agg #[.int .u8 3, .bool ma, .int .u64 0, .int .i64 pa], .agg #[.int .u8 2, .bool mb, .int .u64 0, .int .i64 0]] w fun e w' => e = .returned (vN) ∧ Below w.heap.size w w' := by
  have HB : Below ((((w.alloc ob).alloc (oV 3 ma 0 pa)).alloc (oV 2 mb 0 0)).alloc oz).heap.size ((((w.alloc ob).alloc (oV 3 ma 0 pa)).alloc (oV 2 mb 0 0)).alloc oz) ((((w.alloc ob).alloc (oV 3 ma 0 pa)).alloc (oV 2 mb 0 0)).alloc oz) := Below.refl _ _
  go_enter Try.func25, Try.ntmps25
  go_wp2_with (first
    | (go_at_call 41; with_reducible refine (isn3z ma pa _).mono ?_; rintro e w1 ⟨rfl, hb1⟩; replace HB := bt2 hb1 (show Below ((((w.alloc ob).alloc (oV 3 ma 0 pa)).alloc (oV 2 mb 0 0)).alloc oz).heap.size ((((w.alloc ob).alloc (oV 3 ma 0 pa)).alloc (oV 2 mb 0 0)).alloc oz) _ from by (repeat (first | exact HB | exact Below.refl _ _ | with_reducible refine bel ?_ | with_reducible refine Below.drew ?_ | with_reducible refine bt3 ?_))); obtain ⟨x0, x1, x2, x3, x4, x5, x6, x7, x8, x9, x10⟩ := jF HB; obtain ⟨r0, r1, r2, r3, q0, q1, q2, q3⟩ := jA HB)
    | (go_at_call 32; with_reducible refine (vnone_b _).mono ?_; rintro e w1 ⟨rfl, hb1⟩; replace HB := bt2 hb1 (show Below ((((w.alloc ob).alloc (oV 3 ma 0 pa)).alloc (oV 2 mb 0 0)).alloc oz).heap.size ((((w.alloc ob).alloc (oV 3 ma 0 pa)).alloc (oV 2 mb 0 0)).alloc oz) _ from by (repeat (first | exact HB | exact Below.refl _ _ | with_reducible refine bel ?_ | with_reducible refine Below.drew ?_ | with_reducible refine bt3 ?_))); obtain ⟨x0, x1, x2, x3, x4, x5, x6, x7, x8, x9, x10⟩ := jF HB; obtain ⟨r0, r1, r2, r3, q0, q1, q2, q3⟩ := jA HB))
  refine bodyPost_ret (v := vN) (by simp [results, Try.f25, go_sem, r0, r1, r2, r3]) rfl ?_
  exact ⟨rfl, jB HB⟩
set_option maxRecDepth 100000 in
set_option maxHeartbeats 4000000 in
theorem pr_fe (ma mb mm : Bool) (hmm : (!(ma == mb)) = mm) (na : Nat) (pa : Int) (g : ((na : Int) == 0) = false) (w : World) :
    Calls Try.prog 25 #[.agg #[.int .i64 24, .int .i64 (-149), .int .i64 104], .agg #[.int .u8 3, .bool ma, .int .u64 na, .int .i64 pa], .agg #[.int .u8 2, .bool mb, .int .u64 0, .int .i64 0]] w fun e w' => e = .returned (vE mm) ∧ Below w.heap.size w w' := by
  have HB : Below ((((w.alloc ob).alloc (oV 3 ma na pa)).alloc (oV 2 mb 0 0)).alloc oz).heap.size ((((w.alloc ob).alloc (oV 3 ma na pa)).alloc (oV 2 mb 0 0)).alloc oz) ((((w.alloc ob).alloc (oV 3 ma na pa)).alloc (oV 2 mb 0 0)).alloc oz) := Below.refl _ _
  go_enter Try.func25, Try.ntmps25
  go_wp2_with (first
    | (go_at_call 41; with_reducible refine (isn3 ma na pa _ g).mono ?_; rintro e w1 ⟨rfl, hb1⟩; replace HB := bt2 hb1 (show Below ((((w.alloc ob).alloc (oV 3 ma na pa)).alloc (oV 2 mb 0 0)).alloc oz).heap.size ((((w.alloc ob).alloc (oV 3 ma na pa)).alloc (oV 2 mb 0 0)).alloc oz) _ from by (repeat (first | exact HB | exact Below.refl _ _ | with_reducible refine bel ?_ | with_reducible refine Below.drew ?_ | with_reducible refine bt3 ?_))); obtain ⟨x0, x1, x2, x3, x4, x5, x6, x7, x8, x9, x10⟩ := jF HB; obtain ⟨r0, r1, r2, r3, q0, q1, q2, q3⟩ := jA HB)
    | (go_at_call 41; with_reducible refine (isn2 mb _).mono ?_; rintro e w1 ⟨rfl, hb1⟩; replace HB := bt2 hb1 (show Below ((((w.alloc ob).alloc (oV 3 ma na pa)).alloc (oV 2 mb 0 0)).alloc oz).heap.size ((((w.alloc ob).alloc (oV 3 ma na pa)).alloc (oV 2 mb 0 0)).alloc oz) _ from by (repeat (first | exact HB | exact Below.refl _ _ | with_reducible refine bel ?_ | with_reducible refine Below.drew ?_ | with_reducible refine bt3 ?_))); obtain ⟨x0, x1, x2, x3, x4, x5, x6, x7, x8, x9, x10⟩ := jF HB; obtain ⟨r0, r1, r2, r3, q0, q1, q2, q3⟩ := jA HB)
    | (go_at_call 42; with_reducible refine (vendless_b mm _).mono ?_; rintro e w1 ⟨rfl, hb1⟩; replace HB := bt2 hb1 (show Below ((((w.alloc ob).alloc (oV 3 ma na pa)).alloc (oV 2 mb 0 0)).alloc oz).heap.size ((((w.alloc ob).alloc (oV 3 ma na pa)).alloc (oV 2 mb 0 0)).alloc oz) _ from by (repeat (first | exact HB | exact Below.refl _ _ | with_reducible refine bel ?_ | with_reducible refine Below.drew ?_ | with_reducible refine bt3 ?_))); obtain ⟨x0, x1, x2, x3, x4, x5, x6, x7, x8, x9, x10⟩ := jF HB; obtain ⟨r0, r1, r2, r3, q0, q1, q2, q3⟩ := jA HB))
  refine bodyPost_ret (v := vE mm) (by simp [results, Try.f25, go_sem, r0, r1, r2, r3]) rfl ?_
  exact ⟨rfl, jB HB⟩
end Go.Proofs.Ytdkmbbnidhkdcaa
