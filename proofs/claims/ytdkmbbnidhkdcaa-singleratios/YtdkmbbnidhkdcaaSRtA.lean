import Derived.Test.YtdkmbbnidhkdcaaSOvC
import Derived.Test.YtdkmbbnidhkdcaaSRmE
import Derived.Test.YtdkmbbnidhkdcaaSPrA
namespace Go.Proofs.Ytdkmbbnidhkdcaa
open Go.RowKit

theorem rg_shift (f : Ieee.Format) (hp : 0 < f.fractionBits) (N z : Nat) (Q : Int) : rg f (N * 2 ^ z) (Q - z) = rg f N Q := by
  obtain ⟨d, hd⟩ : ∃ d : Nat, f.leastPlace ≤ Q - z + d := ⟨(f.leastPlace - (Q - z)).toNat, by omega⟩
  have n1 := rg_near f hp (N * 2 ^ z) (Q - z) d hd
  have n2 := rg_near f hp N Q d (by omega)
  rw [Nat.mul_assoc, ← Nat.pow_add, show z + (Q - z - f.leastPlace + d).toNat = (Q - f.leastPlace + d).toNat by omega] at n1
  exact n1.unique (Nat.two_pow_pos _) n2
theorem p192 : (2 : Nat) ^ (32 * 6) = 2 ^ 192 := rfl
theorem rnd_q (m : Bool) (v : Value) (x : Nat) (Q : Int) (mo : Bool) (r : Nat) (w : World) (h : NatV w v x) (hx : x < 2 ^ (32 * 6)) (hP : -2000 ≤ Q) (hP2 : Q ≤ 2000) (hr : rg Ieee.single (2 * x + mo.toNat) (Q - 1) = r) :
    Calls Try.prog 35 #[.agg #[.int .i64 24, .int .i64 (-149), .int .i64 104], .bool m, v, .int .i64 Q, .bool mo] w fun e w' => (∃ n p, e = .returned (hdV m n p) ∧ Fits n p r) ∧ Below w.heap.size w w' := by
  cases mo with
  | false =>
    have := rg_shift Ieee.single (by decide) x 1 Q
    rw [show x * 2 ^ 1 = 2 * x by omega] at this
    have hr' : rg Ieee.single x Q = r := by rw [← this]; exact hr
    have := rnd_nv m v x 6 Q w h hx (by omega) (by omega) (by omega)
    rw [hr'] at this
    exact this
  | true =>
    have hnl : nbits (2 * x + 1) ≤ 4000 := by
      obtain ⟨b1, b2, b3⟩ := nb_bounds (2 * x + 1) (by omega)
      have h9 : 2 * x + 1 < 2 ^ (192 + 1) := by rw [Nat.pow_succ, ← p192]; omega
      have c1 := (Nat.pow_lt_pow_iff_right (a := 2) (by decide)).1 (Nat.lt_of_le_of_lt b1 h9)
      omega
    have := rndM_any m v x (2 * x + 1) Q (Q - 1) w h hx (by omega) rfl hnl (by omega) (by omega)
    rw [show rg Ieee.single (2 * x + 1) (Q - 1) = r from hr] at this
    exact this
theorem q_lt (na : Nat) (h : na < 16777216) : na * 2 ^ 128 < 2 ^ (32 * 6) := by
  have h1 : na * 2 ^ 128 < 2 ^ 24 * 2 ^ 128 := Nat.mul_lt_mul_of_pos_right h (Nat.two_pow_pos _)
  rw [← Nat.pow_add] at h1
  exact Nat.lt_of_lt_of_le h1 (Nat.pow_le_pow_right (by decide) (by decide))
theorem over_q (v u : Value) (na nb V q : Nat) (mo : Bool) (w : World) (h : NatV w v V) (h' : NatV w u nb) (hna : na < 16777216) (hV : na * 2 ^ 128 = V) (hnb : nb < 16777216) (h0 : nb ≠ 0) (hq : V / nb = q) (hmo : decide (0 < V % nb) = mo) :
    Calls Try.prog 44 #[v, u] w fun e w' => (∃ v', e = .returned (.tuple #[v', .bool mo]) ∧ NatV w' v' q) ∧ Below w.heap.size w w' := by
  have hVl : V < 2 ^ (32 * 6) := by rw [← hV]; exact q_lt na hna
  have hnl : nbits V ≤ 3200 := by
    by_cases hz : V = 0
    · rw [hz]; decide
    · obtain ⟨b1, b2, b3⟩ := nb_bounds V hz
      have c1 := (Nat.pow_lt_pow_iff_right (a := 2) (by decide)).1 (Nat.lt_of_le_of_lt b1 (show V < 2 ^ 192 from hVl))
      omega
  have := over_nv v u V nb 6 _ w h h' hVl (Nat.lt_of_lt_of_le hnb (by decide)) (by omega) (by omega) rfl hnl
  rw [hmo, hq] at this
  exact this
set_option maxRecDepth 100000 in
set_option maxHeartbeats 4000000 in
theorem rt_n1 (sb : Int) (mb : Bool) (nb pb : Int) (w : World) :
    Calls Try.prog 26 #[.agg #[.int .i64 24, .int .i64 (-149), .int .i64 104], .agg #[.int .u8 1, .bool false, .int .u64 0, .int .i64 0], .agg #[.int .u8 sb, .bool mb, .int .u64 nb, .int .i64 pb]] w fun e w' => e = .returned (vN) ∧ Below w.heap.size w w' := by
  have HB : Below ((((w.alloc ob).alloc (oV 1 false 0 0)).alloc (oV sb mb nb pb)).alloc oz).heap.size ((((w.alloc ob).alloc (oV 1 false 0 0)).alloc (oV sb mb nb pb)).alloc oz) ((((w.alloc ob).alloc (oV 1 false 0 0)).alloc (oV sb mb nb pb)).alloc oz) := Below.refl _ _
  go_enter Try.func26, Try.ntmps26
  go_wp2_with (first
    | (go_at_call 32; with_reducible refine (vnone_b _).mono ?_; rintro e w1 ⟨rfl, hb1⟩; replace HB := bt2 hb1 (show Below ((((w.alloc ob).alloc (oV 1 false 0 0)).alloc (oV sb mb nb pb)).alloc oz).heap.size ((((w.alloc ob).alloc (oV 1 false 0 0)).alloc (oV sb mb nb pb)).alloc oz) _ from by (repeat (first | exact HB | exact Below.refl _ _ | with_reducible refine bel ?_ | with_reducible refine Below.drew ?_ | with_reducible refine bt3 ?_))); obtain ⟨x0, x1, x2, x3, x4, x5, x6, x7, x8, x9, x10⟩ := jF HB; obtain ⟨r0, r1, r2, r3, q0, q1, q2, q3⟩ := jA HB))
  refine bodyPost_ret (v := vN) (by simp [results, Try.f26, go_sem, r0, r1, r2, r3]) rfl ?_
  exact ⟨rfl, jB HB⟩
set_option maxRecDepth 100000 in
set_option maxHeartbeats 4000000 in
theorem rt_n2 (sa : Int) (ma : Bool) (na pa : Int) (h : (sa == 1) = false) (w : World) :
    Calls Try.prog 26 #[.agg #[.int .i64 24, .int .i64 (-149), .int .i64 104], .agg #[.int .u8 sa, .bool ma, .int .u64 na, .int .i64 pa], .agg #[.int .u8 1, .bool false, .int .u64 0, .int .i64 0]] w fun e w' => e = .returned (vN) ∧ Below w.heap.size w w' := by
  have HB : Below ((((w.alloc ob).alloc (oV sa ma na pa)).alloc (oV 1 false 0 0)).alloc oz).heap.size ((((w.alloc ob).alloc (oV sa ma na pa)).alloc (oV 1 false 0 0)).alloc oz) ((((w.alloc ob).alloc (oV sa ma na pa)).alloc (oV 1 false 0 0)).alloc oz) := Below.refl _ _
  go_enter Try.func26, Try.ntmps26
  go_wp2_with (first
    | (go_at_call 32; with_reducible refine (vnone_b _).mono ?_; rintro e w1 ⟨rfl, hb1⟩; replace HB := bt2 hb1 (show Below ((((w.alloc ob).alloc (oV sa ma na pa)).alloc (oV 1 false 0 0)).alloc oz).heap.size ((((w.alloc ob).alloc (oV sa ma na pa)).alloc (oV 1 false 0 0)).alloc oz) _ from by (repeat (first | exact HB | exact Below.refl _ _ | with_reducible refine bel ?_ | with_reducible refine Below.drew ?_ | with_reducible refine bt3 ?_))); obtain ⟨x0, x1, x2, x3, x4, x5, x6, x7, x8, x9, x10⟩ := jF HB; obtain ⟨r0, r1, r2, r3, q0, q1, q2, q3⟩ := jA HB))
  refine bodyPost_ret (v := vN) (by simp [results, Try.f26, go_sem, r0, r1, r2, r3]) rfl ?_
  exact ⟨rfl, jB HB⟩
set_option maxRecDepth 100000 in
set_option maxHeartbeats 4000000 in
theorem rt_ee (ma mb : Bool) (w : World) :
    Calls Try.prog 26 #[.agg #[.int .i64 24, .int .i64 (-149), .int .i64 104], .agg #[.int .u8 2, .bool ma, .int .u64 0, .int .i64 0], .agg #[.int .u8 2, .bool mb, .int .u64 0, .int .i64 0]] w fun e w' => e = .returned (vN) ∧ Below w.heap.size w w' := by
  have HB : Below ((((w.alloc ob).alloc (oV 2 ma 0 0)).alloc (oV 2 mb 0 0)).alloc oz).heap.size ((((w.alloc ob).alloc (oV 2 ma 0 0)).alloc (oV 2 mb 0 0)).alloc oz) ((((w.alloc ob).alloc (oV 2 ma 0 0)).alloc (oV 2 mb 0 0)).alloc oz) := Below.refl _ _
  go_enter Try.func26, Try.ntmps26
  go_wp2_with (first
    | (go_at_call 32; with_reducible refine (vnone_b _).mono ?_; rintro e w1 ⟨rfl, hb1⟩; replace HB := bt2 hb1 (show Below ((((w.alloc ob).alloc (oV 2 ma 0 0)).alloc (oV 2 mb 0 0)).alloc oz).heap.size ((((w.alloc ob).alloc (oV 2 ma 0 0)).alloc (oV 2 mb 0 0)).alloc oz) _ from by (repeat (first | exact HB | exact Below.refl _ _ | with_reducible refine bel ?_ | with_reducible refine Below.drew ?_ | with_reducible refine bt3 ?_))); obtain ⟨x0, x1, x2, x3, x4, x5, x6, x7, x8, x9, x10⟩ := jF HB; obtain ⟨r0, r1, r2, r3, q0, q1, q2, q3⟩ := jA HB))
  refine bodyPost_ret (v := vN) (by simp [results, Try.f26, go_sem, r0, r1, r2, r3]) rfl ?_
  exact ⟨rfl, jB HB⟩
set_option maxRecDepth 100000 in
set_option maxHeartbeats 4000000 in
theorem rt_ef (ma mb mm : Bool) (hmm : (!(ma == mb)) = mm) (nb pb : Int) (w : World) :
    Calls Try.prog 26 #[.agg #[.int .i64 24, .int .i64 (-149), .int .i64 104], .agg #[.int .u8 2, .bool ma, .int .u64 0, .int .i64 0], .agg #[.int .u8 3, .bool mb, .int .u64 nb, .int .i64 pb]] w fun e w' => e = .returned (vE mm) ∧ Below w.heap.size w w' := by
  have HB : Below ((((w.alloc ob).alloc (oV 2 ma 0 0)).alloc (oV 3 mb nb pb)).alloc oz).heap.size ((((w.alloc ob).alloc (oV 2 ma 0 0)).alloc (oV 3 mb nb pb)).alloc oz) ((((w.alloc ob).alloc (oV 2 ma 0 0)).alloc (oV 3 mb nb pb)).alloc oz) := Below.refl _ _
  go_enter Try.func26, Try.ntmps26
  go_wp2_with (first
    | (go_at_call 42; with_reducible refine (vendless_b mm _).mono ?_; rintro e w1 ⟨rfl, hb1⟩; replace HB := bt2 hb1 (show Below ((((w.alloc ob).alloc (oV 2 ma 0 0)).alloc (oV 3 mb nb pb)).alloc oz).heap.size ((((w.alloc ob).alloc (oV 2 ma 0 0)).alloc (oV 3 mb nb pb)).alloc oz) _ from by (repeat (first | exact HB | exact Below.refl _ _ | with_reducible refine bel ?_ | with_reducible refine Below.drew ?_ | with_reducible refine bt3 ?_))); obtain ⟨x0, x1, x2, x3, x4, x5, x6, x7, x8, x9, x10⟩ := jF HB; obtain ⟨r0, r1, r2, r3, q0, q1, q2, q3⟩ := jA HB))
  refine bodyPost_ret (v := vE mm) (by simp [results, Try.f26, go_sem, r0, r1, r2, r3]) rfl ?_
  exact ⟨rfl, jB HB⟩
set_option maxRecDepth 100000 in
set_option maxHeartbeats 4000000 in
theorem rt_fe (ma mb mm : Bool) (hmm : (!(ma == mb)) = mm) (na pa : Int) (w : World) :
    Calls Try.prog 26 #[.agg #[.int .i64 24, .int .i64 (-149), .int .i64 104], .agg #[.int .u8 3, .bool ma, .int .u64 na, .int .i64 pa], .agg #[.int .u8 2, .bool mb, .int .u64 0, .int .i64 0]] w fun e w' => e = .returned (.agg #[.int .u8 3, .bool mm, .int .u64 0, .int .i64 (-149)]) ∧ Below w.heap.size w w' := by
  have HB : Below ((((w.alloc ob).alloc (oV 3 ma na pa)).alloc (oV 2 mb 0 0)).alloc oz).heap.size ((((w.alloc ob).alloc (oV 3 ma na pa)).alloc (oV 2 mb 0 0)).alloc oz) ((((w.alloc ob).alloc (oV 3 ma na pa)).alloc (oV 2 mb 0 0)).alloc oz) := Below.refl _ _
  go_enter Try.func26, Try.ntmps26
  go_wp2_with (first
    | (go_at_call 38; with_reducible refine (nought_any mm _).mono ?_; rintro e w1 ⟨rfl, hb1⟩; replace HB := bt2 hb1 (show Below ((((w.alloc ob).alloc (oV 3 ma na pa)).alloc (oV 2 mb 0 0)).alloc oz).heap.size ((((w.alloc ob).alloc (oV 3 ma na pa)).alloc (oV 2 mb 0 0)).alloc oz) _ from by (repeat (first | exact HB | exact Below.refl _ _ | with_reducible refine bel ?_ | with_reducible refine Below.drew ?_ | with_reducible refine bt3 ?_))); obtain ⟨x0, x1, x2, x3, x4, x5, x6, x7, x8, x9, x10⟩ := jF HB; obtain ⟨r0, r1, r2, r3, q0, q1, q2, q3⟩ := jA HB))
  refine bodyPost_ret (v := .agg #[.int .u8 3, .bool mm, .int .u64 0, .int .i64 (-149)]) (by simp [results, Try.f26, go_sem, r0, r1, r2, r3]) rfl ?_
  exact ⟨rfl, jB HB⟩
set_option maxRecDepth 100000 in
set_option maxHeartbeats 4000000 in
theorem rt_zz (ma mb : Bool) (pa pb : Int) (w : World) :
    Calls Try.prog 26 #[.agg #[.int .i64 24, .int .i64 (-149), .int .i64 104], .agg #[.int .u8 3, .bool ma, .int .u64 0, .int .i64 pa], .agg #[.int .u8 3, .bool mb, .int .u64 0, .int .i64 pb]] w fun e w' => e = .returned (vN) ∧ Below w.heap.size w w' := by
  have HB : Below ((((w.alloc ob).alloc (oV 3 ma 0 pa)).alloc (oV 3 mb 0 pb)).alloc oz).heap.size ((((w.alloc ob).alloc (oV 3 ma 0 pa)).alloc (oV 3 mb 0 pb)).alloc oz) ((((w.alloc ob).alloc (oV 3 ma 0 pa)).alloc (oV 3 mb 0 pb)).alloc oz) := Below.refl _ _
  go_enter Try.func26, Try.ntmps26
  go_wp2_with (first
    | (go_at_call 41; with_reducible refine (isn3z mb pb _).mono ?_; rintro e w1 ⟨rfl, hb1⟩; replace HB := bt2 hb1 (show Below ((((w.alloc ob).alloc (oV 3 ma 0 pa)).alloc (oV 3 mb 0 pb)).alloc oz).heap.size ((((w.alloc ob).alloc (oV 3 ma 0 pa)).alloc (oV 3 mb 0 pb)).alloc oz) _ from by (repeat (first | exact HB | exact Below.refl _ _ | with_reducible refine bel ?_ | with_reducible refine Below.drew ?_ | with_reducible refine bt3 ?_))); obtain ⟨x0, x1, x2, x3, x4, x5, x6, x7, x8, x9, x10⟩ := jF HB; obtain ⟨r0, r1, r2, r3, q0, q1, q2, q3⟩ := jA HB)
    | (go_at_call 41; with_reducible refine (isn3z ma pa _).mono ?_; rintro e w1 ⟨rfl, hb1⟩; replace HB := bt2 hb1 (show Below ((((w.alloc ob).alloc (oV 3 ma 0 pa)).alloc (oV 3 mb 0 pb)).alloc oz).heap.size ((((w.alloc ob).alloc (oV 3 ma 0 pa)).alloc (oV 3 mb 0 pb)).alloc oz) _ from by (repeat (first | exact HB | exact Below.refl _ _ | with_reducible refine bel ?_ | with_reducible refine Below.drew ?_ | with_reducible refine bt3 ?_))); obtain ⟨x0, x1, x2, x3, x4, x5, x6, x7, x8, x9, x10⟩ := jF HB; obtain ⟨r0, r1, r2, r3, q0, q1, q2, q3⟩ := jA HB)
    | (go_at_call 32; with_reducible refine (vnone_b _).mono ?_; rintro e w1 ⟨rfl, hb1⟩; replace HB := bt2 hb1 (show Below ((((w.alloc ob).alloc (oV 3 ma 0 pa)).alloc (oV 3 mb 0 pb)).alloc oz).heap.size ((((w.alloc ob).alloc (oV 3 ma 0 pa)).alloc (oV 3 mb 0 pb)).alloc oz) _ from by (repeat (first | exact HB | exact Below.refl _ _ | with_reducible refine bel ?_ | with_reducible refine Below.drew ?_ | with_reducible refine bt3 ?_))); obtain ⟨x0, x1, x2, x3, x4, x5, x6, x7, x8, x9, x10⟩ := jF HB; obtain ⟨r0, r1, r2, r3, q0, q1, q2, q3⟩ := jA HB))
  refine bodyPost_ret (v := vN) (by simp [results, Try.f26, go_sem, r0, r1, r2, r3]) rfl ?_
  exact ⟨rfl, jB HB⟩
set_option maxRecDepth 100000 in
set_option maxHeartbeats 4000000 in
theorem rt_fz (ma mb mm : Bool) (hmm : (!(ma == mb)) = mm) (na : Nat) (pa pb : Int) (g : ((na : Int) == 0) = false) (w : World) :
    Calls Try.prog 26 #[.agg #[.int .i64 24, .int .i64 (-149), .int .i64 104], .agg #[.int .u8 3, .bool ma, .int .u64 na, .int .i64 pa], .agg #[.int .u8 3, .bool mb, .int .u64 0, .int .i64 pb]] w fun e w' => e = .returned (vE mm) ∧ Below w.heap.size w w' := by
  have HB : Below ((((w.alloc ob).alloc (oV 3 ma na pa)).alloc (oV 3 mb 0 pb)).alloc oz).heap.size ((((w.alloc ob).alloc (oV 3 ma na pa)).alloc (oV 3 mb 0 pb)).alloc oz) ((((w.alloc ob).alloc (oV 3 ma na pa)).alloc (oV 3 mb 0 pb)).alloc oz) := Below.refl _ _
  go_enter Try.func26, Try.ntmps26
  go_wp2_with (first
    | (go_at_call 41; with_reducible refine (isn3z mb pb _).mono ?_; rintro e w1 ⟨rfl, hb1⟩; replace HB := bt2 hb1 (show Below ((((w.alloc ob).alloc (oV 3 ma na pa)).alloc (oV 3 mb 0 pb)).alloc oz).heap.size ((((w.alloc ob).alloc (oV 3 ma na pa)).alloc (oV 3 mb 0 pb)).alloc oz) _ from by (repeat (first | exact HB | exact Below.refl _ _ | with_reducible refine bel ?_ | with_reducible refine Below.drew ?_ | with_reducible refine bt3 ?_))); obtain ⟨x0, x1, x2, x3, x4, x5, x6, x7, x8, x9, x10⟩ := jF HB; obtain ⟨r0, r1, r2, r3, q0, q1, q2, q3⟩ := jA HB)
    | (go_at_call 41; with_reducible refine (isn3 ma na pa _ g).mono ?_; rintro e w1 ⟨rfl, hb1⟩; replace HB := bt2 hb1 (show Below ((((w.alloc ob).alloc (oV 3 ma na pa)).alloc (oV 3 mb 0 pb)).alloc oz).heap.size ((((w.alloc ob).alloc (oV 3 ma na pa)).alloc (oV 3 mb 0 pb)).alloc oz) _ from by (repeat (first | exact HB | exact Below.refl _ _ | with_reducible refine bel ?_ | with_reducible refine Below.drew ?_ | with_reducible refine bt3 ?_))); obtain ⟨x0, x1, x2, x3, x4, x5, x6, x7, x8, x9, x10⟩ := jF HB; obtain ⟨r0, r1, r2, r3, q0, q1, q2, q3⟩ := jA HB)
    | (go_at_call 42; with_reducible refine (vendless_b mm _).mono ?_; rintro e w1 ⟨rfl, hb1⟩; replace HB := bt2 hb1 (show Below ((((w.alloc ob).alloc (oV 3 ma na pa)).alloc (oV 3 mb 0 pb)).alloc oz).heap.size ((((w.alloc ob).alloc (oV 3 ma na pa)).alloc (oV 3 mb 0 pb)).alloc oz) _ from by (repeat (first | exact HB | exact Below.refl _ _ | with_reducible refine bel ?_ | with_reducible refine Below.drew ?_ | with_reducible refine bt3 ?_))); obtain ⟨x0, x1, x2, x3, x4, x5, x6, x7, x8, x9, x10⟩ := jF HB; obtain ⟨r0, r1, r2, r3, q0, q1, q2, q3⟩ := jA HB))
  refine bodyPost_ret (v := vE mm) (by simp [results, Try.f26, go_sem, r0, r1, r2, r3]) rfl ?_
  exact ⟨rfl, jB HB⟩
end Go.Proofs.Ytdkmbbnidhkdcaa
