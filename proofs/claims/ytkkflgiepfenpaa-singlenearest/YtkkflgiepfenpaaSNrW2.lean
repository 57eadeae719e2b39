import Derived.Test.YtkkflgiepfenpaaSNrB
namespace Go.Proofs.Ytkkflgiepfenpaa
open Go.RowKit
set_option linter.unusedVariables false

set_option maxRecDepth 100000 in
set_option maxHeartbeats 2000000 in
theorem nr_zee (a b P Q R AM PM QM RM X Y : Nat) (xp yp : Int) (XO XS : Int) (SB : Bool) (w : World)
    (f1 : (∀ w, Calls Try.prog 5 #[.int .u32 a] w fun e w' => e = .returned (.bool true) ∧ w' = w))
    (f2 : (∀ w, Calls Try.prog 5 #[.int .u32 b] w fun e w' => e = .returned (.bool true) ∧ w' = w))
    (r1 : (∀ w, Calls Try.prog 7 #[.int .u32 a] w fun e w' => e = .returned (.tuple #[.int .u64 (X : Int), .int .i64 xp]) ∧ w' = w))
    (r2 : (∀ w, Calls Try.prog 7 #[.int .u32 b] w fun e w' => e = .returned (.tuple #[.int .u64 (Y : Int), .int .i64 yp]) ∧ w' = w))
    (p1 : (∀ w, Calls Try.prog 8 #[.int .u32 a, .int .u32 b] w fun e w' => e = .returned (.int .u32 (P : Int)) ∧ ∃ m, w' = w.drewN m))
    (q1 : (∀ w, Calls Try.prog 11 #[.int .u32 a, .int .u32 b] w fun e w' => e = .returned (.int .u32 (Q : Int)) ∧ ∃ m, w' = w.drewN m))
    (t1 : (∀ w, Calls Try.prog 12 #[.int .u32 a] w fun e w' => e = .returned (.int .u32 (R : Int)) ∧ ∃ m, w' = w.drewN m))
    (z1 : (∀ w, Calls Try.prog 6 #[] w fun e w' => e = .returned (.bool true) ∧ ∃ m, w' = w.drewN m))
    (ha : bits .and .u32 (a : Int) 2147483647 = (AM : Int)) (hx : bits .xor .u32 (a : Int) (b : Int) = XO) (ho : bits .andNot .u32 XO 2147483647 = XS) (gs : (XS != 0) = SB)
    (b1 : -149 ≤ xp) (b2 : xp ≤ 104) (b3 : -149 ≤ yp) (b4 : yp ≤ 104)
    (fP : (∀ w, Calls Try.prog 5 #[.int .u32 P] w fun e w' => e = .returned (.bool true) ∧ w' = w))
    (hP : bits .and .u32 (P : Int) 2147483647 = (PM : Int))
    (gP : ((PM : Int) != 0) = false)
    (gY : ((Y : Int) != 0) = true)
    (fQ : (∀ w, Calls Try.prog 5 #[.int .u32 Q] w fun e w' => e = .returned (.bool true) ∧ w' = w))
    (hQ : bits .and .u32 (Q : Int) 2147483647 = (QM : Int))
    (gQ : ((QM : Int) != 0) = true)
    (QL QH : Nat) (QA : Int) (QE : Bool)
    (vQ : (∀ w, Calls Try.prog 9 #[.int .u32 Q] w fun e w' => e = .returned (.tuple #[.int .u64 (QL : Int), .int .u64 (QH : Int), .int .i64 QA, .bool QE]) ∧ w' = w))
    (kQ : (∀ w, Calls Try.prog 10 #[.int .u64 (X : Int), .int .i64 (xp - yp), .int .u64 ((QL : Int) * (Y : Int)), .int .u64 ((QH : Int) * (Y : Int)), .int .i64 QA, .bool QE] w fun e w' => e = .returned (.bool true) ∧ w' = w))
    (wQ : (QL : Int) * (Y : Int) < 18446744073709551616) (wQ0 : 0 ≤ (QL : Int) * (Y : Int)) (wQ1 : (QH : Int) * (Y : Int) < 18446744073709551616) (wQ2 : 0 ≤ (QH : Int) * (Y : Int)) (sQ : ((Q : Int) != (QM : Int)) = SB)
    (gX : ((X : Int) != 0) = true)
    (gA : ((a : Int) == (AM : Int)) = true)
    (fR : (∀ w, Calls Try.prog 5 #[.int .u32 R] w fun e w' => e = .returned (.bool true) ∧ w' = w))
    (hR : bits .and .u32 (R : Int) 2147483647 = (RM : Int)) (gR : ((R : Int) == 0) = false) (sR : ((R : Int) != (RM : Int)) = false)
    (RL RH : Nat) (RA : Int) (RE : Bool) (rb : -1000 ≤ RA) (rb2 : RA ≤ 1000)
    (vR : (∀ w, Calls Try.prog 9 #[.int .u32 R] w fun e w' => e = .returned (.tuple #[.int .u64 (RL : Int), .int .u64 (RH : Int), .int .i64 RA, .bool RE]) ∧ w' = w))
    (kR : (∀ w, Calls Try.prog 10 #[.int .u64 (X : Int), .int .i64 xp, .int .u64 ((RL : Int) * (RL : Int)), .int .u64 ((RH : Int) * (RH : Int)), .int .i64 (2 * RA), .bool RE] w fun e w' => e = .returned (.bool true) ∧ w' = w))
    (wR : (RL : Int) * (RL : Int) < 18446744073709551616) (wR0 : 0 ≤ (RL : Int) * (RL : Int)) (wR1 : (RH : Int) * (RH : Int) < 18446744073709551616) (wR2 : 0 ≤ (RH : Int) * (RH : Int)) :
    Calls Try.prog 3 #[.int .u32 a, .int .u32 b] w fun e w' => e = .returned (.bool true) ∧ ∃ m, w' = w.drewN m := by
  go_enter Try.func3, Try.ntmps3
  go_wp2_with (first
    | (go_at_call 5; (first | with_reducible refine (f1 _).mono ?_ | with_reducible refine (f2 _).mono ?_ | with_reducible refine (fP _).mono ?_ | with_reducible refine (fQ _).mono ?_ | with_reducible refine (fR _).mono ?_); rintro e wq ⟨rfl, hq⟩; subst wq)
    | (go_at_call 7; (first | with_reducible refine (r1 _).mono ?_ | with_reducible refine (r2 _).mono ?_); rintro e wq ⟨rfl, hq⟩; subst wq)
    | (go_at_call 8; (first | with_reducible refine (p1 _).mono ?_); rintro e wq ⟨rfl, m, hq⟩; subst wq)
    | (go_at_call 11; (first | with_reducible refine (q1 _).mono ?_); rintro e wq ⟨rfl, m, hq⟩; subst wq)
    | (go_at_call 12; (first | with_reducible refine (t1 _).mono ?_); rintro e wq ⟨rfl, m, hq⟩; subst wq)
    | (go_at_call 6; (first | with_reducible refine (z1 _).mono ?_); rintro e wq ⟨rfl, m, hq⟩; subst wq)
    | (go_at_call 9; (first | with_reducible refine (vQ _).mono ?_ | with_reducible refine (vR _).mono ?_); rintro e wq ⟨rfl, hq⟩; subst wq)
    | (go_at_call 10; (first | with_reducible refine (kQ _).mono ?_ | with_reducible refine (kR _).mono ?_); rintro e wq ⟨rfl, hq⟩; subst wq))
  go_ret
  exact ⟨rfl, _, rfl⟩
set_option maxRecDepth 100000 in
set_option maxHeartbeats 2000000 in
theorem nr_eis (a b P Q R AM PM QM RM X Y : Nat) (xp yp : Int) (XO XS : Int) (SB : Bool) (w : World)
    (f1 : (∀ w, Calls Try.prog 5 #[.int .u32 a] w fun e w' => e = .returned (.bool true) ∧ w' = w))
    (f2 : (∀ w, Calls Try.prog 5 #[.int .u32 b] w fun e w' => e = .returned (.bool true) ∧ w' = w))
    (r1 : (∀ w, Calls Try.prog 7 #[.int .u32 a] w fun e w' => e = .returned (.tuple #[.int .u64 (X : Int), .int .i64 xp]) ∧ w' = w))
    (r2 : (∀ w, Calls Try.prog 7 #[.int .u32 b] w fun e w' => e = .returned (.tuple #[.int .u64 (Y : Int), .int .i64 yp]) ∧ w' = w))
    (p1 : (∀ w, Calls Try.prog 8 #[.int .u32 a, .int .u32 b] w fun e w' => e = .returned (.int .u32 (P : Int)) ∧ ∃ m, w' = w.drewN m))
    (q1 : (∀ w, Calls Try.prog 11 #[.int .u32 a, .int .u32 b] w fun e w' => e = .returned (.int .u32 (Q : Int)) ∧ ∃ m, w' = w.drewN m))
    (t1 : (∀ w, Calls Try.prog 12 #[.int .u32 a] w fun e w' => e = .returned (.int .u32 (R : Int)) ∧ ∃ m, w' = w.drewN m))
    (z1 : (∀ w, Calls Try.prog 6 #[] w fun e w' => e = .returned (.bool true) ∧ ∃ m, w' = w.drewN m))
    (ha : bits .and .u32 (a : Int) 2147483647 = (AM : Int)) (hx : bits .xor .u32 (a : Int) (b : Int) = XO) (ho : bits .andNot .u32 XO 2147483647 = XS) (gs : (XS != 0) = SB)
    (b1 : -149 ≤ xp) (b2 : xp ≤ 104) (b3 : -149 ≤ yp) (b4 : yp ≤ 104)
    (fP : (∀ w, Calls Try.prog 5 #[.int .u32 P] w fun e w' => e = .returned (.bool true) ∧ w' = w))
    (hP : bits .and .u32 (P : Int) 2147483647 = (PM : Int))
    (gP : ((PM : Int) != 0) = true)
    (PL PH : Nat) (PA : Int) (PE : Bool)
    (vP : (∀ w, Calls Try.prog 9 #[.int .u32 P] w fun e w' => e = .returned (.tuple #[.int .u64 (PL : Int), .int .u64 (PH : Int), .int .i64 PA, .bool PE]) ∧ w' = w))
    (kP : (∀ w, Calls Try.prog 10 #[.int .u64 ((X : Int) * (Y : Int)), .int .i64 (xp + yp), .int .u64 (PL : Int), .int .u64 (PH : Int), .int .i64 PA, .bool PE] w fun e w' => e = .returned (.bool true) ∧ w' = w))
    (wP : (X : Int) * (Y : Int) < 18446744073709551616) (wP0 : 0 ≤ (X : Int) * (Y : Int)) (sP : ((P : Int) != (PM : Int)) = SB)
    (gY : ((Y : Int) != 0) = true)
    (fQ : (∀ w, Calls Try.prog 5 #[.int .u32 Q] w fun e w' => e = .returned (.bool false) ∧ w' = w))
    (gX : ((X : Int) != 0) = true)
    (gA : ((a : Int) == (AM : Int)) = false) :
    Calls Try.prog 3 #[.int .u32 a, .int .u32 b] w fun e w' => e = .returned (.bool true) ∧ ∃ m, w' = w.drewN m := by
  go_enter Try.func3, Try.ntmps3
  go_wp2_with (first
    | (go_at_call 5; (first | with_reducible refine (f1 _).mono ?_ | with_reducible refine (f2 _).mono ?_ | with_reducible refine (fP _).mono ?_ | with_reducible refine (fQ _).mono ?_); rintro e wq ⟨rfl, hq⟩; subst wq)
    | (go_at_call 7; (first | with_reducible refine (r1 _).mono ?_ | with_reducible refine (r2 _).mono ?_); rintro e wq ⟨rfl, hq⟩; subst wq)
    | (go_at_call 8; (first | with_reducible refine (p1 _).mono ?_); rintro e wq ⟨rfl, m, hq⟩; subst wq)
    | (go_at_call 11; (first | with_reducible refine (q1 _).mono ?_); rintro e wq ⟨rfl, m, hq⟩; subst wq)
    | (go_at_call 12; (first | with_reducible refine (t1 _).mono ?_); rintro e wq ⟨rfl, m, hq⟩; subst wq)
    | (go_at_call 6; (first | with_reducible refine (z1 _).mono ?_); rintro e wq ⟨rfl, m, hq⟩; subst wq)
    | (go_at_call 9; (first | with_reducible refine (vP _).mono ?_); rintro e wq ⟨rfl, hq⟩; subst wq)
    | (go_at_call 10; (first | with_reducible refine (kP _).mono ?_); rintro e wq ⟨rfl, hq⟩; subst wq))
  go_ret
  exact ⟨rfl, _, rfl⟩
set_option maxRecDepth 100000 in
set_option maxHeartbeats 2000000 in
theorem nr_eie (a b P Q R AM PM QM RM X Y : Nat) (xp yp : Int) (XO XS : Int) (SB : Bool) (w : World)
    (f1 : (∀ w, Calls Try.prog 5 #[.int .u32 a] w fun e w' => e = .returned (.bool true) ∧ w' = w))
    (f2 : (∀ w, Calls Try.prog 5 #[.int .u32 b] w fun e w' => e = .returned (.bool true) ∧ w' = w))
    (r1 : (∀ w, Calls Try.prog 7 #[.int .u32 a] w fun e w' => e = .returned (.tuple #[.int .u64 (X : Int), .int .i64 xp]) ∧ w' = w))
    (r2 : (∀ w, Calls Try.prog 7 #[.int .u32 b] w fun e w' => e = .returned (.tuple #[.int .u64 (Y : Int), .int .i64 yp]) ∧ w' = w))
    (p1 : (∀ w, Calls Try.prog 8 #[.int .u32 a, .int .u32 b] w fun e w' => e = .returned (.int .u32 (P : Int)) ∧ ∃ m, w' = w.drewN m))
    (q1 : (∀ w, Calls Try.prog 11 #[.int .u32 a, .int .u32 b] w fun e w' => e = .returned (.int .u32 (Q : Int)) ∧ ∃ m, w' = w.drewN m))
    (t1 : (∀ w, Calls Try.prog 12 #[.int .u32 a] w fun e w' => e = .returned (.int .u32 (R : Int)) ∧ ∃ m, w' = w.drewN m))
    (z1 : (∀ w, Calls Try.prog 6 #[] w fun e w' => e = .returned (.bool true) ∧ ∃ m, w' = w.drewN m))
    (ha : bits .and .u32 (a : Int) 2147483647 = (AM : Int)) (hx : bits .xor .u32 (a : Int) (b : Int) = XO) (ho : bits .andNot .u32 XO 2147483647 = XS) (gs : (XS != 0) = SB)
    (b1 : -149 ≤ xp) (b2 : xp ≤ 104) (b3 : -149 ≤ yp) (b4 : yp ≤ 104)
    (fP : (∀ w, Calls Try.prog 5 #[.int .u32 P] w fun e w' => e = .returned (.bool true) ∧ w' = w))
    (hP : bits .and .u32 (P : Int) 2147483647 = (PM : Int))
    (gP : ((PM : Int) != 0) = true)
    (PL PH : Nat) (PA : Int) (PE : Bool)
    (vP : (∀ w, Calls Try.prog 9 #[.int .u32 P] w fun e w' => e = .returned (.tuple #[.int .u64 (PL : Int), .int .u64 (PH : Int), .int .i64 PA, .bool PE]) ∧ w' = w))
    (kP : (∀ w, Calls Try.prog 10 #[.int .u64 ((X : Int) * (Y : Int)), .int .i64 (xp + yp), .int .u64 (PL : Int), .int .u64 (PH : Int), .int .i64 PA, .bool PE] w fun e w' => e = .returned (.bool true) ∧ w' = w))
    (wP : (X : Int) * (Y : Int) < 18446744073709551616) (wP0 : 0 ≤ (X : Int) * (Y : Int)) (sP : ((P : Int) != (PM : Int)) = SB)
    (gY : ((Y : Int) != 0) = true)
    (fQ : (∀ w, Calls Try.prog 5 #[.int .u32 Q] w fun e w' => e = .returned (.bool false) ∧ w' = w))
    (gX : ((X : Int) != 0) = true)
    (gA : ((a : Int) == (AM : Int)) = true)
    (fR : (∀ w, Calls Try.prog 5 #[.int .u32 R] w fun e w' => e = .returned (.bool true) ∧ w' = w))
    (hR : bits .and .u32 (R : Int) 2147483647 = (RM : Int)) (gR : ((R : Int) == 0) = false) (sR : ((R : Int) != (RM : Int)) = false)
    (RL RH : Nat) (RA : Int) (RE : Bool) (rb : -1000 ≤ RA) (rb2 : RA ≤ 1000)
    (vR : (∀ w, Calls Try.prog 9 #[.int .u32 R] w fun e w' => e = .returned (.tuple #[.int .u64 (RL : Int), .int .u64 (RH : Int), .int .i64 RA, .bool RE]) ∧ w' = w))
    (kR : (∀ w, Calls Try.prog 10 #[.int .u64 (X : Int), .int .i64 xp, .int .u64 ((RL : Int) * (RL : Int)), .int .u64 ((RH : Int) * (RH : Int)), .int .i64 (2 * RA), .bool RE] w fun e w' => e = .returned (.bool true) ∧ w' = w))
    (wR : (RL : Int) * (RL : Int) < 18446744073709551616) (wR0 : 0 ≤ (RL : Int) * (RL : Int)) (wR1 : (RH : Int) * (RH : Int) < 18446744073709551616) (wR2 : 0 ≤ (RH : Int) * (RH : Int)) :
    Calls Try.prog 3 #[.int .u32 a, .int .u32 b] w fun e w' => e = .returned (.bool true) ∧ ∃ m, w' = w.drewN m := by
  go_enter Try.func3, Try.ntmps3
  go_wp2_with (first
    | (go_at_call 5; (first | with_reducible refine (f1 _).mono ?_ | with_reducible refine (f2 _).mono ?_ | with_reducible refine (fP _).mono ?_ | with_reducible refine (fQ _).mono ?_ | with_reducible refine (fR _).mono ?_); rintro e wq ⟨rfl, hq⟩; subst wq)
    | (go_at_call 7; (first | with_reducible refine (r1 _).mono ?_ | with_reducible refine (r2 _).mono ?_); rintro e wq ⟨rfl, hq⟩; subst wq)
    | (go_at_call 8; (first | with_reducible refine (p1 _).mono ?_); rintro e wq ⟨rfl, m, hq⟩; subst wq)
    | (go_at_call 11; (first | with_reducible refine (q1 _).mono ?_); rintro e wq ⟨rfl, m, hq⟩; subst wq)
    | (go_at_call 12; (first | with_reducible refine (t1 _).mono ?_); rintro e wq ⟨rfl, m, hq⟩; subst wq)
    | (go_at_call 6; (first | with_reducible refine (z1 _).mono ?_); rintro e wq ⟨rfl, m, hq⟩; subst wq)
    | (go_at_call 9; (first | with_reducible refine (vP _).mono ?_ | with_reducible refine (vR _).mono ?_); rintro e wq ⟨rfl, hq⟩; subst wq)
    | (go_at_call 10; (first | with_reducible refine (kP _).mono ?_ | with_reducible refine (kR _).mono ?_); rintro e wq ⟨rfl, hq⟩; subst wq))
  go_ret
  exact ⟨rfl, _, rfl⟩
set_option maxRecDepth 100000 in
set_option maxHeartbeats 2000000 in
theorem nr_ezs (a b P Q R AM PM QM RM X Y : Nat) (xp yp : Int) (XO XS : Int) (SB : Bool) (w : World)
    (f1 : (∀ w, Calls Try.prog 5 #[.int .u32 a] w fun e w' => e = .returned (.bool true) ∧ w' = w))
    (f2 : (∀ w, Calls Try.prog 5 #[.int .u32 b] w fun e w' => e = .returned (.bool true) ∧ w' = w))
    (r1 : (∀ w, Calls Try.prog 7 #[.int .u32 a] w fun e w' => e = .returned (.tuple #[.int .u64 (X : Int), .int .i64 xp]) ∧ w' = w))
    (r2 : (∀ w, Calls Try.prog 7 #[.int .u32 b] w fun e w' => e = .returned (.tuple #[.int .u64 (Y : Int), .int .i64 yp]) ∧ w' = w))
    (p1 : (∀ w, Calls Try.prog 8 #[.int .u32 a, .int .u32 b] w fun e w' => e = .returned (.int .u32 (P : Int)) ∧ ∃ m, w' = w.drewN m))
    (q1 : (∀ w, Calls Try.prog 11 #[.int .u32 a, .int .u32 b] w fun e w' => e = .returned (.int .u32 (Q : Int)) ∧ ∃ m, w' = w.drewN m))
    (t1 : (∀ w, Calls Try.prog 12 #[.int .u32 a] w fun e w' => e = .returned (.int .u32 (R : Int)) ∧ ∃ m, w' = w.drewN m))
    (z1 : (∀ w, Calls Try.prog 6 #[] w fun e w' => e = .returned (.bool true) ∧ ∃ m, w' = w.drewN m))
    (ha : bits .and .u32 (a : Int) 2147483647 = (AM : Int)) (hx : bits .xor .u32 (a : Int) (b : Int) = XO) (ho : bits .andNot .u32 XO 2147483647 = XS) (gs : (XS != 0) = SB)
    (b1 : -149 ≤ xp) (b2 : xp ≤ 104) (b3 : -149 ≤ yp) (b4 : yp ≤ 104)
    (fP : (∀ w, Calls Try.prog 5 #[.int .u32 P] w fun e w' => e = .returned (.bool true) ∧ w' = w))
    (hP : bits .and .u32 (P : Int) 2147483647 = (PM : Int))
    (gP : ((PM : Int) != 0) = true)
    (PL PH : Nat) (PA : Int) (PE : Bool)
    (vP : (∀ w, Calls Try.prog 9 #[.int .u32 P] w fun e w' => e = .returned (.tuple #[.int .u64 (PL : Int), .int .u64 (PH : Int), .int .i64 PA, .bool PE]) ∧ w' = w))
    (kP : (∀ w, Calls Try.prog 10 #[.int .u64 ((X : Int) * (Y : Int)), .int .i64 (xp + yp), .int .u64 (PL : Int), .int .u64 (PH : Int), .int .i64 PA, .bool PE] w fun e w' => e = .returned (.bool true) ∧ w' = w))
    (wP : (X : Int) * (Y : Int) < 18446744073709551616) (wP0 : 0 ≤ (X : Int) * (Y : Int)) (sP : ((P : Int) != (PM : Int)) = SB)
    (gY : ((Y : Int) != 0) = true)
    (fQ : (∀ w, Calls Try.prog 5 #[.int .u32 Q] w fun e w' => e = .returned (.bool true) ∧ w' = w))
    (hQ : bits .and .u32 (Q : Int) 2147483647 = (QM : Int))
    (gQ : ((QM : Int) != 0) = false)
    (gX : ((X : Int) != 0) = true)
    (gA : ((a : Int) == (AM : Int)) = false) :
    Calls Try.prog 3 #[.int .u32 a, .int .u32 b] w fun e w' => e = .returned (.bool true) ∧ ∃ m, w' = w.drewN m := by
  go_enter Try.func3, Try.ntmps3
  go_wp2_with (first
    | (go_at_call 5; (first | with_reducible refine (f1 _).mono ?_ | with_reducible refine (f2 _).mono ?_ | with_reducible refine (fP _).mono ?_ | with_reducible refine (fQ _).mono ?_); rintro e wq ⟨rfl, hq⟩; subst wq)
    | (go_at_call 7; (first | with_reducible refine (r1 _).mono ?_ | with_reducible refine (r2 _).mono ?_); rintro e wq ⟨rfl, hq⟩; subst wq)
    | (go_at_call 8; (first | with_reducible refine (p1 _).mono ?_); rintro e wq ⟨rfl, m, hq⟩; subst wq)
    | (go_at_call 11; (first | with_reducible refine (q1 _).mono ?_); rintro e wq ⟨rfl, m, hq⟩; subst wq)
    | (go_at_call 12; (first | with_reducible refine (t1 _).mono ?_); rintro e wq ⟨rfl, m, hq⟩; subst wq)
    | (go_at_call 6; (first | with_reducible refine (z1 _).mono ?_); rintro e wq ⟨rfl, m, hq⟩; subst wq)
    | (go_at_call 9; (first | with_reducible refine (vP _).mono ?_); rintro e wq ⟨rfl, hq⟩; subst wq)
    | (go_at_call 10; (first | with_reducible refine (kP _).mono ?_); rintro e wq ⟨rfl, hq⟩; subst wq))
  go_ret
  exact ⟨rfl, _, rfl⟩
set_option maxRecDepth 100000 in
set_option maxHeartbeats 2000000 in
theorem nr_eze (a b P Q R AM PM QM RM X Y : Nat) (xp yp : Int) (XO XS : Int) (SB : Bool) (w : World)
    (f1 : (∀ w, Calls Try.prog 5 #[.int .u32 a] w fun e w' => e = .returned (.bool true) ∧ w' = w))
    (f2 : (∀ w, Calls Try.prog 5 #[.int .u32 b] w fun e w' => e = .returned (.bool true) ∧ w' = w))
    (r1 : (∀ w, Calls Try.prog 7 #[.int .u32 a] w fun e w' => e = .returned (.tuple #[.int .u64 (X : Int), .int .i64 xp]) ∧ w' = w))
    (r2 : (∀ w, Calls Try.prog 7 #[.int .u32 b] w fun e w' => e = .returned (.tuple #[.int .u64 (Y : Int), .int .i64 yp]) ∧ w' = w))
    (p1 : (∀ w, Calls Try.prog 8 #[.int .u32 a, .int .u32 b] w fun e w' => e = .returned (.int .u32 (P : Int)) ∧ ∃ m, w' = w.drewN m))
    (q1 : (∀ w, Calls Try.prog 11 #[.int .u32 a, .int .u32 b] w fun e w' => e = .returned (.int .u32 (Q : Int)) ∧ ∃ m, w' = w.drewN m))
    (t1 : (∀ w, Calls Try.prog 12 #[.int .u32 a] w fun e w' => e = .returned (.int .u32 (R : Int)) ∧ ∃ m, w' = w.drewN m))
    (z1 : (∀ w, Calls Try.prog 6 #[] w fun e w' => e = .returned (.bool true) ∧ ∃ m, w' = w.drewN m))
    (ha : bits .and .u32 (a : Int) 2147483647 = (AM : Int)) (hx : bits .xor .u32 (a : Int) (b : Int) = XO) (ho : bits .andNot .u32 XO 2147483647 = XS) (gs : (XS != 0) = SB)
    (b1 : -149 ≤ xp) (b2 : xp ≤ 104) (b3 : -149 ≤ yp) (b4 : yp ≤ 104)
    (fP : (∀ w, Calls Try.prog 5 #[.int .u32 P] w fun e w' => e = .returned (.bool true) ∧ w' = w))
    (hP : bits .and .u32 (P : Int) 2147483647 = (PM : Int))
    (gP : ((PM : Int) != 0) = true)
    (PL PH : Nat) (PA : Int) (PE : Bool)
    (vP : (∀ w, Calls Try.prog 9 #[.int .u32 P] w fun e w' => e = .returned (.tuple #[.int .u64 (PL : Int), .int .u64 (PH : Int), .int .i64 PA, .bool PE]) ∧ w' = w))
    (kP : (∀ w, Calls Try.prog 10 #[.int .u64 ((X : Int) * (Y : Int)), .int .i64 (xp + yp), .int .u64 (PL : Int), .int .u64 (PH : Int), .int .i64 PA, .bool PE] w fun e w' => e = .returned (.bool true) ∧ w' = w))
    (wP : (X : Int) * (Y : Int) < 18446744073709551616) (wP0 : 0 ≤ (X : Int) * (Y : Int)) (sP : ((P : Int) != (PM : Int)) = SB)
    (gY : ((Y : Int) != 0) = true)
    (fQ : (∀ w, Calls Try.prog 5 #[.int .u32 Q] w fun e w' => e = .returned (.bool true) ∧ w' = w))
    (hQ : bits .and .u32 (Q : Int) 2147483647 = (QM : Int))
    (gQ : ((QM : Int) != 0) = false)
    (gX : ((X : Int) != 0) = true)
    (gA : ((a : Int) == (AM : Int)) = true)
    (fR : (∀ w, Calls Try.prog 5 #[.int .u32 R] w fun e w' => e = .returned (.bool true) ∧ w' = w))
    (hR : bits .and .u32 (R : Int) 2147483647 = (RM : Int)) (gR : ((R : Int) == 0) = false) (sR : ((R : Int) != (RM : Int)) = false)
    (RL RH : Nat) (RA : Int) (RE : Bool) (rb : -1000 ≤ RA) (rb2 : RA ≤ 1000)
    (vR : (∀ w, Calls Try.prog 9 #[.int .u32 R] w fun e w' => e = .returned (.tuple #[.int .u64 (RL : Int), .int .u64 (RH : Int), .int .i64 RA, .bool RE]) ∧ w' = w))
    (kR : (∀ w, Calls Try.prog 10 #[.int .u64 (X : Int), .int .i64 xp, .int .u64 ((RL : Int) * (RL : Int)), .int .u64 ((RH : Int) * (RH : Int)), .int .i64 (2 * RA), .bool RE] w fun e w' => e = .returned (.bool true) ∧ w' = w))
    (wR : (RL : Int) * (RL : Int) < 18446744073709551616) (wR0 : 0 ≤ (RL : Int) * (RL : Int)) (wR1 : (RH : Int) * (RH : Int) < 18446744073709551616) (wR2 : 0 ≤ (RH : Int) * (RH : Int)) :
    Calls Try.prog 3 #[.int .u32 a, .int .u32 b] w fun e w' => e = .returned (.bool true) ∧ ∃ m, w' = w.drewN m := by
  go_enter Try.func3, Try.ntmps3
  go_wp2_with (first
    | (go_at_call 5; (first | with_reducible refine (f1 _).mono ?_ | with_reducible refine (f2 _).mono ?_ | with_reducible refine (fP _).mono ?_ | with_reducible refine (fQ _).mono ?_ | with_reducible refine (fR _).mono ?_); rintro e wq ⟨rfl, hq⟩; subst wq)
    | (go_at_call 7; (first | with_reducible refine (r1 _).mono ?_ | with_reducible refine (r2 _).mono ?_); rintro e wq ⟨rfl, hq⟩; subst wq)
    | (go_at_call 8; (first | with_reducible refine (p1 _).mono ?_); rintro e wq ⟨rfl, m, hq⟩; subst wq)
    | (go_at_call 11; (first | with_reducible refine (q1 _).mono ?_); rintro e wq ⟨rfl, m, hq⟩; subst wq)
    | (go_at_call 12; (first | with_reducible refine (t1 _).mono ?_); rintro e wq ⟨rfl, m, hq⟩; subst wq)
    | (go_at_call 6; (first | with_reducible refine (z1 _).mono ?_); rintro e wq ⟨rfl, m, hq⟩; subst wq)
    | (go_at_call 9; (first | with_reducible refine (vP _).mono ?_ | with_reducible refine (vR _).mono ?_); rintro e wq ⟨rfl, hq⟩; subst wq)
    | (go_at_call 10; (first | with_reducible refine (kP _).mono ?_ | with_reducible refine (kR _).mono ?_); rintro e wq ⟨rfl, hq⟩; subst wq))
  go_ret
  exact ⟨rfl, _, rfl⟩
set_option maxRecDepth 100000 in
set_option maxHeartbeats 2000000 in
theorem nr_ees (a b P Q R AM PM QM RM X Y : Nat) (xp yp : Int) (XO XS : Int) (SB : Bool) (w : World)
    (f1 : (∀ w, Calls Try.prog 5 #[.int .u32 a] w fun e w' => e = .returned (.bool true) ∧ w' = w))
    (f2 : (∀ w, Calls Try.prog 5 #[.int .u32 b] w fun e w' => e = .returned (.bool true) ∧ w' = w))
    (r1 : (∀ w, Calls Try.prog 7 #[.int .u32 a] w fun e w' => e = .returned (.tuple #[.int .u64 (X : Int), .int .i64 xp]) ∧ w' = w))
    (r2 : (∀ w, Calls Try.prog 7 #[.int .u32 b] w fun e w' => e = .returned (.tuple #[.int .u64 (Y : Int), .int .i64 yp]) ∧ w' = w))
    (p1 : (∀ w, Calls Try.prog 8 #[.int .u32 a, .int .u32 b] w fun e w' => e = .returned (.int .u32 (P : Int)) ∧ ∃ m, w' = w.drewN m))
    (q1 : (∀ w, Calls Try.prog 11 #[.int .u32 a, .int .u32 b] w fun e w' => e = .returned (.int .u32 (Q : Int)) ∧ ∃ m, w' = w.drewN m))
    (t1 : (∀ w, Calls Try.prog 12 #[.int .u32 a] w fun e w' => e = .returned (.int .u32 (R : Int)) ∧ ∃ m, w' = w.drewN m))
    (z1 : (∀ w, Calls Try.prog 6 #[] w fun e w' => e = .returned (.bool true) ∧ ∃ m, w' = w.drewN m))
    (ha : bits .and .u32 (a : Int) 2147483647 = (AM : Int)) (hx : bits .xor .u32 (a : Int) (b : Int) = XO) (ho : bits .andNot .u32 XO 2147483647 = XS) (gs : (XS != 0) = SB)
    (b1 : -149 ≤ xp) (b2 : xp ≤ 104) (b3 : -149 ≤ yp) (b4 : yp ≤ 104)
    (fP : (∀ w, Calls Try.prog 5 #[.int .u32 P] w fun e w' => e = .returned (.bool true) ∧ w' = w))
    (hP : bits .and .u32 (P : Int) 2147483647 = (PM : Int))
    (gP : ((PM : Int) != 0) = true)
    (PL PH : Nat) (PA : Int) (PE : Bool)
    (vP : (∀ w, Calls Try.prog 9 #[.int .u32 P] w fun e w' => e = .returned (.tuple #[.int .u64 (PL : Int), .int .u64 (PH : Int), .int .i64 PA, .bool PE]) ∧ w' = w))
    (kP : (∀ w, Calls Try.prog 10 #[.int .u64 ((X : Int) * (Y : Int)), .int .i64 (xp + yp), .int .u64 (PL : Int), .int .u64 (PH : Int), .int .i64 PA, .bool PE] w fun e w' => e = .returned (.bool true) ∧ w' = w))
    (wP : (X : Int) * (Y : Int) < 18446744073709551616) (wP0 : 0 ≤ (X : Int) * (Y : Int)) (sP : ((P : Int) != (PM : Int)) = SB)
    (gY : ((Y : Int) != 0) = true)
    (fQ : (∀ w, Calls Try.prog 5 #[.int .u32 Q] w fun e w' => e = .returned (.bool true) ∧ w' = w))
    (hQ : bits .and .u32 (Q : Int) 2147483647 = (QM : Int))
    (gQ : ((QM : Int) != 0) = true)
    (QL QH : Nat) (QA : Int) (QE : Bool)
    (vQ : (∀ w, Calls Try.prog 9 #[.int .u32 Q] w fun e w' => e = .returned (.tuple #[.int .u64 (QL : Int), .int .u64 (QH : Int), .int .i64 QA, .bool QE]) ∧ w' = w))
    (kQ : (∀ w, Calls Try.prog 10 #[.int .u64 (X : Int), .int .i64 (xp - yp), .int .u64 ((QL : Int) * (Y : Int)), .int .u64 ((QH : Int) * (Y : Int)), .int .i64 QA, .bool QE] w fun e w' => e = .returned (.bool true) ∧ w' = w))
    (wQ : (QL : Int) * (Y : Int) < 18446744073709551616) (wQ0 : 0 ≤ (QL : Int) * (Y : Int)) (wQ1 : (QH : Int) * (Y : Int) < 18446744073709551616) (wQ2 : 0 ≤ (QH : Int) * (Y : Int)) (sQ : ((Q : Int) != (QM : Int)) = SB)
    (gX : ((X : Int) != 0) = true)
    (gA : ((a : Int) == (AM : Int)) = false) :
    Calls Try.prog 3 #[.int .u32 a, .int .u32 b] w fun e w' => e = .returned (.bool true) ∧ ∃ m, w' = w.drewN m := by
  go_enter Try.func3, Try.ntmps3
  go_wp2_with (first
    | (go_at_call 5; (first | with_reducible refine (f1 _).mono ?_ | with_reducible refine (f2 _).mono ?_ | with_reducible refine (fP _).mono ?_ | with_reducible refine (fQ _).mono ?_); rintro e wq ⟨rfl, hq⟩; subst wq)
    | (go_at_call 7; (first | with_reducible refine (r1 _).mono ?_ | with_reducible refine (r2 _).mono ?_); rintro e wq ⟨rfl, hq⟩; subst wq)
    | (go_at_call 8; (first | with_reducible refine (p1 _).mono ?_); rintro e wq ⟨rfl, m, hq⟩; subst wq)
    | (go_at_call 11; (first | with_reducible refine (q1 _).mono ?_); rintro e wq ⟨rfl, m, hq⟩; subst wq)
    | (go_at_call 12; (first | with_reducible refine (t1 _).mono ?_); rintro e wq ⟨rfl, m, hq⟩; subst wq)
    | (go_at_call 6; (first | with_reducible refine (z1 _).mono ?_); rintro e wq ⟨rfl, m, hq⟩; subst wq)
    | (go_at_call 9; (first | with_reducible refine (vP _).mono ?_ | with_reducible refine (vQ _).mono ?_); rintro e wq ⟨rfl, hq⟩; subst wq)
    | (go_at_call 10; (first | with_reducible refine (kP _).mono ?_ | with_reducible refine (kQ _).mono ?_); rintro e wq ⟨rfl, hq⟩; subst wq))
  go_ret
  exact ⟨rfl, _, rfl⟩
set_option maxRecDepth 100000 in
set_option maxHeartbeats 2000000 in
theorem nr_eee (a b P Q R AM PM QM RM X Y : Nat) (xp yp : Int) (XO XS : Int) (SB : Bool) (w : World)
    (f1 : (∀ w, Calls Try.prog 5 #[.int .u32 a] w fun e w' => e = .returned (.bool true) ∧ w' = w))
    (f2 : (∀ w, Calls Try.prog 5 #[.int .u32 b] w fun e w' => e = .returned (.bool true) ∧ w' = w))
    (r1 : (∀ w, Calls Try.prog 7 #[.int .u32 a] w fun e w' => e = .returned (.tuple #[.int .u64 (X : Int), .int .i64 xp]) ∧ w' = w))
    (r2 : (∀ w, Calls Try.prog 7 #[.int .u32 b] w fun e w' => e = .returned (.tuple #[.int .u64 (Y : Int), .int .i64 yp]) ∧ w' = w))
    (p1 : (∀ w, Calls Try.prog 8 #[.int .u32 a, .int .u32 b] w fun e w' => e = .returned (.int .u32 (P : Int)) ∧ ∃ m, w' = w.drewN m))
    (q1 : (∀ w, Calls Try.prog 11 #[.int .u32 a, .int .u32 b] w fun e w' => e = .returned (.int .u32 (Q : Int)) ∧ ∃ m, w' = w.drewN m))
    (t1 : (∀ w, Calls Try.prog 12 #[.int .u32 a] w fun e w' => e = .returned (.int .u32 (R : Int)) ∧ ∃ m, w' = w.drewN m))
    (z1 : (∀ w, Calls Try.prog 6 #[] w fun e w' => e = .returned (.bool true) ∧ ∃ m, w' = w.drewN m))
    (ha : bits .and .u32 (a : Int) 2147483647 = (AM : Int)) (hx : bits .xor .u32 (a : Int) (b : Int) = XO) (ho : bits .andNot .u32 XO 2147483647 = XS) (gs : (XS != 0) = SB)
    (b1 : -149 ≤ xp) (b2 : xp ≤ 104) (b3 : -149 ≤ yp) (b4 : yp ≤ 104)
    (fP : (∀ w, Calls Try.prog 5 #[.int .u32 P] w fun e w' => e = .returned (.bool true) ∧ w' = w))
    (hP : bits .and .u32 (P : Int) 2147483647 = (PM : Int))
    (gP : ((PM : Int) != 0) = true)
    (PL PH : Nat) (PA : Int) (PE : Bool)
    (vP : (∀ w, Calls Try.prog 9 #[.int .u32 P] w fun e w' => e = .returned (.tuple #[.int .u64 (PL : Int), .int .u64 (PH : Int), .int .i64 PA, .bool PE]) ∧ w' = w))
    (kP : (∀ w, Calls Try.prog 10 #[.int .u64 ((X : Int) * (Y : Int)), .int .i64 (xp + yp), .int .u64 (PL : Int), .int .u64 (PH : Int), .int .i64 PA, .bool PE] w fun e w' => e = .returned (.bool true) ∧ w' = w))
    (wP : (X : Int) * (Y : Int) < 18446744073709551616) (wP0 : 0 ≤ (X : Int) * (Y : Int)) (sP : ((P : Int) != (PM : Int)) = SB)
    (gY : ((Y : Int) != 0) = true)
    (fQ : (∀ w, Calls Try.prog 5 #[.int .u32 Q] w fun e w' => e = .returned (.bool true) ∧ w' = w))
    (hQ : bits .and .u32 (Q : Int) 2147483647 = (QM : Int))
    (gQ : ((QM : Int) != 0) = true)
    (QL QH : Nat) (QA : Int) (QE : Bool)
    (vQ : (∀ w, Calls Try.prog 9 #[.int .u32 Q] w fun e w' => e = .returned (.tuple #[.int .u64 (QL : Int), .int .u64 (QH : Int), .int .i64 QA, .bool QE]) ∧ w' = w))
    (kQ : (∀ w, Calls Try.prog 10 #[.int .u64 (X : Int), .int .i64 (xp - yp), .int .u64 ((QL : Int) * (Y : Int)), .int .u64 ((QH : Int) * (Y : Int)), .int .i64 QA, .bool QE] w fun e w' => e = .returned (.bool true) ∧ w' = w))
    (wQ : (QL : Int) * (Y : Int) < 18446744073709551616) (wQ0 : 0 ≤ (QL : Int) * (Y : Int)) (wQ1 : (QH : Int) * (Y : Int) < 18446744073709551616) (wQ2 : 0 ≤ (QH : Int) * (Y : Int)) (sQ : ((Q : Int) != (QM : Int)) = SB)
    (gX : ((X : Int) != 0) = true)
    (gA : ((a : Int) == (AM : Int)) = true)
    (fR : (∀ w, Calls Try.prog 5 #[.int .u32 R] w fun e w' => e = .returned (.bool true) ∧ w' = w))
    (hR : bits .and .u32 (R : Int) 2147483647 = (RM : Int)) (gR : ((R : Int) == 0) = false) (sR : ((R : Int) != (RM : Int)) = false)
    (RL RH : Nat) (RA : Int) (RE : Bool) (rb : -1000 ≤ RA) (rb2 : RA ≤ 1000)
    (vR : (∀ w, Calls Try.prog 9 #[.int .u32 R] w fun e w' => e = .returned (.tuple #[.int .u64 (RL : Int), .int .u64 (RH : Int), .int .i64 RA, .bool RE]) ∧ w' = w))
    (kR : (∀ w, Calls Try.prog 10 #[.int .u64 (X : Int), .int .i64 xp, .int .u64 ((RL : Int) * (RL : Int)), .int .u64 ((RH : Int) * (RH : Int)), .int .i64 (2 * RA), .bool RE] w fun e w' => e = .returned (.bool true) ∧ w' = w))
    (wR : (RL : Int) * (RL : Int) < 18446744073709551616) (wR0 : 0 ≤ (RL : Int) * (RL : Int)) (wR1 : (RH : Int) * (RH : Int) < 18446744073709551616) (wR2 : 0 ≤ (RH : Int) * (RH : Int)) :
    Calls Try.prog 3 #[.int .u32 a, .int .u32 b] w fun e w' => e = .returned (.bool true) ∧ ∃ m, w' = w.drewN m := by
  go_enter Try.func3, Try.ntmps3
  go_wp2_with (first
    | (go_at_call 5; (first | with_reducible refine (f1 _).mono ?_ | with_reducible refine (f2 _).mono ?_ | with_reducible refine (fP _).mono ?_ | with_reducible refine (fQ _).mono ?_ | with_reducible refine (fR _).mono ?_); rintro e wq ⟨rfl, hq⟩; subst wq)
    | (go_at_call 7; (first | with_reducible refine (r1 _).mono ?_ | with_reducible refine (r2 _).mono ?_); rintro e wq ⟨rfl, hq⟩; subst wq)
    | (go_at_call 8; (first | with_reducible refine (p1 _).mono ?_); rintro e wq ⟨rfl, m, hq⟩; subst wq)
    | (go_at_call 11; (first | with_reducible refine (q1 _).mono ?_); rintro e wq ⟨rfl, m, hq⟩; subst wq)
    | (go_at_call 12; (first | with_reducible refine (t1 _).mono ?_); rintro e wq ⟨rfl, m, hq⟩; subst wq)
    | (go_at_call 6; (first | with_reducible refine (z1 _).mono ?_); rintro e wq ⟨rfl, m, hq⟩; subst wq)
    | (go_at_call 9; (first | with_reducible refine (vP _).mono ?_ | with_reducible refine (vQ _).mono ?_ | with_reducible refine (vR _).mono ?_); rintro e wq ⟨rfl, hq⟩; subst wq)
    | (go_at_call 10; (first | with_reducible refine (kP _).mono ?_ | with_reducible refine (kQ _).mono ?_ | with_reducible refine (kR _).mono ?_); rintro e wq ⟨rfl, hq⟩; subst wq))
  go_ret
  exact ⟨rfl, _, rfl⟩
end Go.Proofs.Ytkkflgiepfenpaa
