import Derived.Test.YtigiecodobgenaaSStB
namespace Go.Proofs.Ytigiecodobgenaa
open Go.RowKit

set_option maxRecDepth 100000 in
set_option maxHeartbeats 4000000 in
theorem stZ (sa : Int) (ma : Bool) (na pa : Int) (sb : Int) (mb : Bool) (nb pb : Int) (X Y : Int) (w : World) (ha : (sa == 1) = false) (hb : (sb == 1) = false) (hi1 : ∀ w, Calls Try.prog 53 #[.agg #[.int .u8 sa, .bool ma, .int .u64 na, .int .i64 pa]] w fun e w' => e = .returned (.bool true) ∧ Below w.heap.size w w') (hi2 : ∀ w, Calls Try.prog 53 #[.agg #[.int .u8 sb, .bool mb, .int .u64 nb, .int .i64 pb]] w fun e w' => e = .returned (.bool true) ∧ Below w.heap.size w w') (hs1 : ∀ w, Calls Try.prog 54 #[.agg #[.int .u8 sa, .bool ma, .int .u64 na, .int .i64 pa]] w fun e w' => e = .returned (.int .i64 X) ∧ Below w.heap.size w w') (hs2 : ∀ w, Calls Try.prog 54 #[.agg #[.int .u8 sb, .bool mb, .int .u64 nb, .int .i64 pb]] w fun e w' => e = .returned (.int .i64 Y) ∧ Below w.heap.size w w')   :
    Calls Try.prog 38 #[.agg #[.int .u8 sa, .bool ma, .int .u64 na, .int .i64 pa], .agg #[.int .u8 sb, .bool mb, .int .u64 nb, .int .i64 pb]] w fun e w' => e = .returned (.int .u8 3) ∧ Below w.heap.size w w' := by
  have HI1 : Hid _ := hi1
  have HI2 : Hid _ := hi2
  have HS1 : Hid _ := hs1
  have HS2 : Hid _ := hs2
  have HBK : Hid _ := hs2
  clear hi1 hi2 hs1 hs2 
  have HB : Below ((w.alloc (oV sa ma na pa)).alloc (oV sb mb nb pb)).heap.size ((w.alloc (oV sa ma na pa)).alloc (oV sb mb nb pb)) ((w.alloc (oV sa ma na pa)).alloc (oV sb mb nb pb)) := Below.refl _ _
  have HW : Hid (Below w.heap.size w ((w.alloc (oV sa ma na pa)).alloc (oV sb mb nb pb))) := bel (bel (Below.refl _ _))
  go_enter Try.func38, Try.ntmps38
  go_wp2_with (first
    | (go_at_call 53; with_reducible refine (HI1.out _).mono ?_; rintro e w1 ⟨rfl, hb1⟩; replace HB := bt2 hb1 (show Below ((w.alloc (oV sa ma na pa)).alloc (oV sb mb nb pb)).heap.size ((w.alloc (oV sa ma na pa)).alloc (oV sb mb nb pb)) _ from by (repeat (first | exact HB | exact Below.refl _ _ | with_reducible refine bel ?_ | with_reducible refine Below.drew ?_ | with_reducible refine bt3 ?_))); obtain ⟨c0, c1, c2, c3, c4, c5, c6, c7⟩ := gF HB)
    | (go_at_call 53; with_reducible refine (HI2.out _).mono ?_; rintro e w1 ⟨rfl, hb1⟩; replace HB := bt2 hb1 (show Below ((w.alloc (oV sa ma na pa)).alloc (oV sb mb nb pb)).heap.size ((w.alloc (oV sa ma na pa)).alloc (oV sb mb nb pb)) _ from by (repeat (first | exact HB | exact Below.refl _ _ | with_reducible refine bel ?_ | with_reducible refine Below.drew ?_ | with_reducible refine bt3 ?_))); obtain ⟨c0, c1, c2, c3, c4, c5, c6, c7⟩ := gF HB)
    | (go_at_call 54; with_reducible refine (HS1.out _).mono ?_; rintro e w1 ⟨rfl, hb1⟩; replace HB := bt2 hb1 (show Below ((w.alloc (oV sa ma na pa)).alloc (oV sb mb nb pb)).heap.size ((w.alloc (oV sa ma na pa)).alloc (oV sb mb nb pb)) _ from by (repeat (first | exact HB | exact Below.refl _ _ | with_reducible refine bel ?_ | with_reducible refine Below.drew ?_ | with_reducible refine bt3 ?_))); obtain ⟨c0, c1, c2, c3, c4, c5, c6, c7⟩ := gF HB)
    | (go_at_call 54; with_reducible refine (HS2.out _).mono ?_; rintro e w1 ⟨rfl, hb1⟩; replace HB := bt2 hb1 (show Below ((w.alloc (oV sa ma na pa)).alloc (oV sb mb nb pb)).heap.size ((w.alloc (oV sa ma na pa)).alloc (oV sb mb nb pb)) _ from by (repeat (first | exact HB | exact Below.refl _ _ | with_reducible refine bel ?_ | with_reducible refine Below.drew ?_ | with_reducible refine bt3 ?_))); obtain ⟨c0, c1, c2, c3, c4, c5, c6, c7⟩ := gF HB)
    | (go_at_call 55; with_reducible refine (HBK.out _).mono ?_; rintro e w1 ⟨rfl, hb1⟩; replace HB := bt2 hb1 (show Below ((w.alloc (oV sa ma na pa)).alloc (oV sb mb nb pb)).heap.size ((w.alloc (oV sa ma na pa)).alloc (oV sb mb nb pb)) _ from by (repeat (first | exact HB | exact Below.refl _ _ | with_reducible refine bel ?_ | with_reducible refine Below.drew ?_ | with_reducible refine bt3 ?_))); obtain ⟨c0, c1, c2, c3, c4, c5, c6, c7⟩ := gF HB))
  go_ret
  exact ⟨rfl, HW.out.trans (HB.mono HW.out.size)⟩
set_option maxRecDepth 100000 in
set_option maxHeartbeats 4000000 in
theorem stLa (sa : Int) (ma : Bool) (na pa : Int) (sb : Int) (mb : Bool) (nb pb : Int) (X Y : Int) (z2 : Bool) (w : World) (ha : (sa == 1) = false) (hb : (sb == 1) = false) (hi1 : ∀ w, Calls Try.prog 53 #[.agg #[.int .u8 sa, .bool ma, .int .u64 na, .int .i64 pa]] w fun e w' => e = .returned (.bool false) ∧ Below w.heap.size w w') (hi2 : ∀ w, Calls Try.prog 53 #[.agg #[.int .u8 sb, .bool mb, .int .u64 nb, .int .i64 pb]] w fun e w' => e = .returned (.bool z2) ∧ Below w.heap.size w w') (hs1 : ∀ w, Calls Try.prog 54 #[.agg #[.int .u8 sa, .bool ma, .int .u64 na, .int .i64 pa]] w fun e w' => e = .returned (.int .i64 X) ∧ Below w.heap.size w w') (hs2 : ∀ w, Calls Try.prog 54 #[.agg #[.int .u8 sb, .bool mb, .int .u64 nb, .int .i64 pb]] w fun e w' => e = .returned (.int .i64 Y) ∧ Below w.heap.size w w')  (h : X < Y) :
    Calls Try.prog 38 #[.agg #[.int .u8 sa, .bool ma, .int .u64 na, .int .i64 pa], .agg #[.int .u8 sb, .bool mb, .int .u64 nb, .int .i64 pb]] w fun e w' => e = .returned (.int .u8 2) ∧ Below w.heap.size w w' := by
  have HI1 : Hid _ := hi1
  have HI2 : Hid _ := hi2
  have HS1 : Hid _ := hs1
  have HS2 : Hid _ := hs2
  have HBK : Hid _ := hs2
  clear hi1 hi2 hs1 hs2 
  have hne : (X != Y) = true := by simp; omega
  have HB : Below ((w.alloc (oV sa ma na pa)).alloc (oV sb mb nb pb)).heap.size ((w.alloc (oV sa ma na pa)).alloc (oV sb mb nb pb)) ((w.alloc (oV sa ma na pa)).alloc (oV sb mb nb pb)) := Below.refl _ _
  have HW : Hid (Below w.heap.size w ((w.alloc (oV sa ma na pa)).alloc (oV sb mb nb pb))) := bel (bel (Below.refl _ _))
  go_enter Try.func38, Try.ntmps38
  go_wp2_with (first
    | (go_at_call 53; with_reducible refine (HI1.out _).mono ?_; rintro e w1 ⟨rfl, hb1⟩; replace HB := bt2 hb1 (show Below ((w.alloc (oV sa ma na pa)).alloc (oV sb mb nb pb)).heap.size ((w.alloc (oV sa ma na pa)).alloc (oV sb mb nb pb)) _ from by (repeat (first | exact HB | exact Below.refl _ _ | with_reducible refine bel ?_ | with_reducible refine Below.drew ?_ | with_reducible refine bt3 ?_))); obtain ⟨c0, c1, c2, c3, c4, c5, c6, c7⟩ := gF HB)
    | (go_at_call 53; with_reducible refine (HI2.out _).mono ?_; rintro e w1 ⟨rfl, hb1⟩; replace HB := bt2 hb1 (show Below ((w.alloc (oV sa ma na pa)).alloc (oV sb mb nb pb)).heap.size ((w.alloc (oV sa ma na pa)).alloc (oV sb mb nb pb)) _ from by (repeat (first | exact HB | exact Below.refl _ _ | with_reducible refine bel ?_ | with_reducible refine Below.drew ?_ | with_reducible refine bt3 ?_))); obtain ⟨c0, c1, c2, c3, c4, c5, c6, c7⟩ := gF HB)
    | (go_at_call 54; with_reducible refine (HS1.out _).mono ?_; rintro e w1 ⟨rfl, hb1⟩; replace HB := bt2 hb1 (show Below ((w.alloc (oV sa ma na pa)).alloc (oV sb mb nb pb)).heap.size ((w.alloc (oV sa ma na pa)).alloc (oV sb mb nb pb)) _ from by (repeat (first | exact HB | exact Below.refl _ _ | with_reducible refine bel ?_ | with_reducible refine Below.drew ?_ | with_reducible refine bt3 ?_))); obtain ⟨c0, c1, c2, c3, c4, c5, c6, c7⟩ := gF HB)
    | (go_at_call 54; with_reducible refine (HS2.out _).mono ?_; rintro e w1 ⟨rfl, hb1⟩; replace HB := bt2 hb1 (show Below ((w.alloc (oV sa ma na pa)).alloc (oV sb mb nb pb)).heap.size ((w.alloc (oV sa ma na pa)).alloc (oV sb mb nb pb)) _ from by (repeat (first | exact HB | exact Below.refl _ _ | with_reducible refine bel ?_ | with_reducible refine Below.drew ?_ | with_reducible refine bt3 ?_))); obtain ⟨c0, c1, c2, c3, c4, c5, c6, c7⟩ := gF HB)
    | (go_at_call 55; with_reducible refine (HBK.out _).mono ?_; rintro e w1 ⟨rfl, hb1⟩; replace HB := bt2 hb1 (show Below ((w.alloc (oV sa ma na pa)).alloc (oV sb mb nb pb)).heap.size ((w.alloc (oV sa ma na pa)).alloc (oV sb mb nb pb)) _ from by (repeat (first | exact HB | exact Below.refl _ _ | with_reducible refine bel ?_ | with_reducible refine Below.drew ?_ | with_reducible refine bt3 ?_))); obtain ⟨c0, c1, c2, c3, c4, c5, c6, c7⟩ := gF HB))
  go_ret
  exact ⟨rfl, HW.out.trans (HB.mono HW.out.size)⟩
set_option maxRecDepth 100000 in
set_option maxHeartbeats 4000000 in
theorem stGa (sa : Int) (ma : Bool) (na pa : Int) (sb : Int) (mb : Bool) (nb pb : Int) (X Y : Int) (z2 : Bool) (w : World) (ha : (sa == 1) = false) (hb : (sb == 1) = false) (hi1 : ∀ w, Calls Try.prog 53 #[.agg #[.int .u8 sa, .bool ma, .int .u64 na, .int .i64 pa]] w fun e w' => e = .returned (.bool false) ∧ Below w.heap.size w w') (hi2 : ∀ w, Calls Try.prog 53 #[.agg #[.int .u8 sb, .bool mb, .int .u64 nb, .int .i64 pb]] w fun e w' => e = .returned (.bool z2) ∧ Below w.heap.size w w') (hs1 : ∀ w, Calls Try.prog 54 #[.agg #[.int .u8 sa, .bool ma, .int .u64 na, .int .i64 pa]] w fun e w' => e = .returned (.int .i64 X) ∧ Below w.heap.size w w') (hs2 : ∀ w, Calls Try.prog 54 #[.agg #[.int .u8 sb, .bool mb, .int .u64 nb, .int .i64 pb]] w fun e w' => e = .returned (.int .i64 Y) ∧ Below w.heap.size w w')  (h : Y < X) :
    Calls Try.prog 38 #[.agg #[.int .u8 sa, .bool ma, .int .u64 na, .int .i64 pa], .agg #[.int .u8 sb, .bool mb, .int .u64 nb, .int .i64 pb]] w fun e w' => e = .returned (.int .u8 4) ∧ Below w.heap.size w w' := by
  have HI1 : Hid _ := hi1
  have HI2 : Hid _ := hi2
  have HS1 : Hid _ := hs1
  have HS2 : Hid _ := hs2
  have HBK : Hid _ := hs2
  clear hi1 hi2 hs1 hs2 
  have hne : (X != Y) = true := by simp; omega
  have hlt : decide (X < Y) = false := decide_eq_false (by omega)
  have HB : Below ((w.alloc (oV sa ma na pa)).alloc (oV sb mb nb pb)).heap.size ((w.alloc (oV sa ma na pa)).alloc (oV sb mb nb pb)) ((w.alloc (oV sa ma na pa)).alloc (oV sb mb nb pb)) := Below.refl _ _
  have HW : Hid (Below w.heap.size w ((w.alloc (oV sa ma na pa)).alloc (oV sb mb nb pb))) := bel (bel (Below.refl _ _))
  go_enter Try.func38, Try.ntmps38
  go_wp2_with (first
    | (go_at_call 53; with_reducible refine (HI1.out _).mono ?_; rintro e w1 ⟨rfl, hb1⟩; replace HB := bt2 hb1 (show Below ((w.alloc (oV sa ma na pa)).alloc (oV sb mb nb pb)).heap.size ((w.alloc (oV sa ma na pa)).alloc (oV sb mb nb pb)) _ from by (repeat (first | exact HB | exact Below.refl _ _ | with_reducible refine bel ?_ | with_reducible refine Below.drew ?_ | with_reducible refine bt3 ?_))); obtain ⟨c0, c1, c2, c3, c4, c5, c6, c7⟩ := gF HB)
    | (go_at_call 53; with_reducible refine (HI2.out _).mono ?_; rintro e w1 ⟨rfl, hb1⟩; replace HB := bt2 hb1 (show Below ((w.alloc (oV sa ma na pa)).alloc (oV sb mb nb pb)).heap.size ((w.alloc (oV sa ma na pa)).alloc (oV sb mb nb pb)) _ from by (repeat (first | exact HB | exact Below.refl _ _ | with_reducible refine bel ?_ | with_reducible refine Below.drew ?_ | with_reducible refine bt3 ?_))); obtain ⟨c0, c1, c2, c3, c4, c5, c6, c7⟩ := gF HB)
    | (go_at_call 54; with_reducible refine (HS1.out _).mono ?_; rintro e w1 ⟨rfl, hb1⟩; replace HB := bt2 hb1 (show Below ((w.alloc (oV sa ma na pa)).alloc (oV sb mb nb pb)).heap.size ((w.alloc (oV sa ma na pa)).alloc (oV sb mb nb pb)) _ from by (repeat (first | exact HB | exact Below.refl _ _ | with_reducible refine bel ?_ | with_reducible refine Below.drew ?_ | with_reducible refine bt3 ?_))); obtain ⟨c0, c1, c2, c3, c4, c5, c6, c7⟩ := gF HB)
    | (go_at_call 54; with_reducible refine (HS2.out _).mono ?_; rintro e w1 ⟨rfl, hb1⟩; replace HB := bt2 hb1 (show Below ((w.alloc (oV sa ma na pa)).alloc (oV sb mb nb pb)).heap.size ((w.alloc (oV sa ma na pa)).alloc (oV sb mb nb pb)) _ from by (repeat (first | exact HB | exact Below.refl _ _ | with_reducible refine bel ?_ | with_reducible refine Below.drew ?_ | with_reducible refine bt3 ?_))); obtain ⟨c0, c1, c2, c3, c4, c5, c6, c7⟩ := gF HB)
    | (go_at_call 55; with_reducible refine (HBK.out _).mono ?_; rintro e w1 ⟨rfl, hb1⟩; replace HB := bt2 hb1 (show Below ((w.alloc (oV sa ma na pa)).alloc (oV sb mb nb pb)).heap.size ((w.alloc (oV sa ma na pa)).alloc (oV sb mb nb pb)) _ from by (repeat (first | exact HB | exact Below.refl _ _ | with_reducible refine bel ?_ | with_reducible refine Below.drew ?_ | with_reducible refine bt3 ?_))); obtain ⟨c0, c1, c2, c3, c4, c5, c6, c7⟩ := gF HB))
  go_ret
  exact ⟨rfl, HW.out.trans (HB.mono HW.out.size)⟩
set_option maxRecDepth 100000 in
set_option maxHeartbeats 4000000 in
theorem stLb (sa : Int) (ma : Bool) (na pa : Int) (sb : Int) (mb : Bool) (nb pb : Int) (X Y : Int) (w : World) (ha : (sa == 1) = false) (hb : (sb == 1) = false) (hi1 : ∀ w, Calls Try.prog 53 #[.agg #[.int .u8 sa, .bool ma, .int .u64 na, .int .i64 pa]] w fun e w' => e = .returned (.bool true) ∧ Below w.heap.size w w') (hi2 : ∀ w, Calls Try.prog 53 #[.agg #[.int .u8 sb, .bool mb, .int .u64 nb, .int .i64 pb]] w fun e w' => e = .returned (.bool false) ∧ Below w.heap.size w w') (hs1 : ∀ w, Calls Try.prog 54 #[.agg #[.int .u8 sa, .bool ma, .int .u64 na, .int .i64 pa]] w fun e w' => e = .returned (.int .i64 X) ∧ Below w.heap.size w w') (hs2 : ∀ w, Calls Try.prog 54 #[.agg #[.int .u8 sb, .bool mb, .int .u64 nb, .int .i64 pb]] w fun e w' => e = .returned (.int .i64 Y) ∧ Below w.heap.size w w')  (h : X < Y) :
    Calls Try.prog 38 #[.agg #[.int .u8 sa, .bool ma, .int .u64 na, .int .i64 pa], .agg #[.int .u8 sb, .bool mb, .int .u64 nb, .int .i64 pb]] w fun e w' => e = .returned (.int .u8 2) ∧ Below w.heap.size w w' := by
  have HI1 : Hid _ := hi1
  have HI2 : Hid _ := hi2
  have HS1 : Hid _ := hs1
  have HS2 : Hid _ := hs2
  have HBK : Hid _ := hs2
  clear hi1 hi2 hs1 hs2 
  have hne : (X != Y) = true := by simp; omega
  have HB : Below ((w.alloc (oV sa ma na pa)).alloc (oV sb mb nb pb)).heap.size ((w.alloc (oV sa ma na pa)).alloc (oV sb mb nb pb)) ((w.alloc (oV sa ma na pa)).alloc (oV sb mb nb pb)) := Below.refl _ _
  have HW : Hid (Below w.heap.size w ((w.alloc (oV sa ma na pa)).alloc (oV sb mb nb pb))) := bel (bel (Below.refl _ _))
  go_enter Try.func38, Try.ntmps38
  go_wp2_with (first
    | (go_at_call 53; with_reducible refine (HI1.out _).mono ?_; rintro e w1 ⟨rfl, hb1⟩; replace HB := bt2 hb1 (show Below ((w.alloc (oV sa ma na pa)).alloc (oV sb mb nb pb)).heap.size ((w.alloc (oV sa ma na pa)).alloc (oV sb mb nb pb)) _ from by (repeat (first | exact HB | exact Below.refl _ _ | with_reducible refine bel ?_ | with_reducible refine Below.drew ?_ | with_reducible refine bt3 ?_))); obtain ⟨c0, c1, c2, c3, c4, c5, c6, c7⟩ := gF HB)
    | (go_at_call 53; with_reducible refine (HI2.out _).mono ?_; rintro e w1 ⟨rfl, hb1⟩; replace HB := bt2 hb1 (show Below ((w.alloc (oV sa ma na pa)).alloc (oV sb mb nb pb)).heap.size ((w.alloc (oV sa ma na pa)).alloc (oV sb mb nb pb)) _ from by (repeat (first | exact HB | exact Below.refl _ _ | with_reducible refine bel ?_ | with_reducible refine Below.drew ?_ | with_reducible refine bt3 ?_))); obtain ⟨c0, c1, c2, c3, c4, c5, c6, c7⟩ := gF HB)
    | (go_at_call 54; with_reducible refine (HS1.out _).mono ?_; rintro e w1 ⟨rfl, hb1⟩; replace HB := bt2 hb1 (show Below ((w.alloc (oV sa ma na pa)).alloc (oV sb mb nb pb)).heap.size ((w.alloc (oV sa ma na pa)).alloc (oV sb mb nb pb)) _ from by (repeat (first | exact HB | exact Below.refl _ _ | with_reducible refine bel ?_ | with_reducible refine Below.drew ?_ | with_reducible refine bt3 ?_))); obtain ⟨c0, c1, c2, c3, c4, c5, c6, c7⟩ := gF HB)
    | (go_at_call 54; with_reducible refine (HS2.out _).mono ?_; rintro e w1 ⟨rfl, hb1⟩; replace HB := bt2 hb1 (show Below ((w.alloc (oV sa ma na pa)).alloc (oV sb mb nb pb)).heap.size ((w.alloc (oV sa ma na pa)).alloc (oV sb mb nb pb)) _ from by (repeat (first | exact HB | exact Below.refl _ _ | with_reducible refine bel ?_ | with_reducible refine Below.drew ?_ | with_reducible refine bt3 ?_))); obtain ⟨c0, c1, c2, c3, c4, c5, c6, c7⟩ := gF HB)
    | (go_at_call 55; with_reducible refine (HBK.out _).mono ?_; rintro e w1 ⟨rfl, hb1⟩; replace HB := bt2 hb1 (show Below ((w.alloc (oV sa ma na pa)).alloc (oV sb mb nb pb)).heap.size ((w.alloc (oV sa ma na pa)).alloc (oV sb mb nb pb)) _ from by (repeat (first | exact HB | exact Below.refl _ _ | with_reducible refine bel ?_ | with_reducible refine Below.drew ?_ | with_reducible refine bt3 ?_))); obtain ⟨c0, c1, c2, c3, c4, c5, c6, c7⟩ := gF HB))
  go_ret
  exact ⟨rfl, HW.out.trans (HB.mono HW.out.size)⟩
set_option maxRecDepth 100000 in
set_option maxHeartbeats 4000000 in
theorem stGb (sa : Int) (ma : Bool) (na pa : Int) (sb : Int) (mb : Bool) (nb pb : Int) (X Y : Int) (w : World) (ha : (sa == 1) = false) (hb : (sb == 1) = false) (hi1 : ∀ w, Calls Try.prog 53 #[.agg #[.int .u8 sa, .bool ma, .int .u64 na, .int .i64 pa]] w fun e w' => e = .returned (.bool true) ∧ Below w.heap.size w w') (hi2 : ∀ w, Calls Try.prog 53 #[.agg #[.int .u8 sb, .bool mb, .int .u64 nb, .int .i64 pb]] w fun e w' => e = .returned (.bool false) ∧ Below w.heap.size w w') (hs1 : ∀ w, Calls Try.prog 54 #[.agg #[.int .u8 sa, .bool ma, .int .u64 na, .int .i64 pa]] w fun e w' => e = .returned (.int .i64 X) ∧ Below w.heap.size w w') (hs2 : ∀ w, Calls Try.prog 54 #[.agg #[.int .u8 sb, .bool mb, .int .u64 nb, .int .i64 pb]] w fun e w' => e = .returned (.int .i64 Y) ∧ Below w.heap.size w w')  (h : Y < X) :
    Calls Try.prog 38 #[.agg #[.int .u8 sa, .bool ma, .int .u64 na, .int .i64 pa], .agg #[.int .u8 sb, .bool mb, .int .u64 nb, .int .i64 pb]] w fun e w' => e = .returned (.int .u8 4) ∧ Below w.heap.size w w' := by
  have HI1 : Hid _ := hi1
  have HI2 : Hid _ := hi2
  have HS1 : Hid _ := hs1
  have HS2 : Hid _ := hs2
  have HBK : Hid _ := hs2
  clear hi1 hi2 hs1 hs2 
  have hne : (X != Y) = true := by simp; omega
  have hlt : decide (X < Y) = false := decide_eq_false (by omega)
  have HB : Below ((w.alloc (oV sa ma na pa)).alloc (oV sb mb nb pb)).heap.size ((w.alloc (oV sa ma na pa)).alloc (oV sb mb nb pb)) ((w.alloc (oV sa ma na pa)).alloc (oV sb mb nb pb)) := Below.refl _ _
  have HW : Hid (Below w.heap.size w ((w.alloc (oV sa ma na pa)).alloc (oV sb mb nb pb))) := bel (bel (Below.refl _ _))
  go_enter Try.func38, Try.ntmps38
  go_wp2_with (first
    | (go_at_call 53; with_reducible refine (HI1.out _).mono ?_; rintro e w1 ⟨rfl, hb1⟩; replace HB := bt2 hb1 (show Below ((w.alloc (oV sa ma na pa)).alloc (oV sb mb nb pb)).heap.size ((w.alloc (oV sa ma na pa)).alloc (oV sb mb nb pb)) _ from by (repeat (first | exact HB | exact Below.refl _ _ | with_reducible refine bel ?_ | with_reducible refine Below.drew ?_ | with_reducible refine bt3 ?_))); obtain ⟨c0, c1, c2, c3, c4, c5, c6, c7⟩ := gF HB)
    | (go_at_call 53; with_reducible refine (HI2.out _).mono ?_; rintro e w1 ⟨rfl, hb1⟩; replace HB := bt2 hb1 (show Below ((w.alloc (oV sa ma na pa)).alloc (oV sb mb nb pb)).heap.size ((w.alloc (oV sa ma na pa)).alloc (oV sb mb nb pb)) _ from by (repeat (first | exact HB | exact Below.refl _ _ | with_reducible refine bel ?_ | with_reducible refine Below.drew ?_ | with_reducible refine bt3 ?_))); obtain ⟨c0, c1, c2, c3, c4, c5, c6, c7⟩ := gF HB)
    | (go_at_call 54; with_reducible refine (HS1.out _).mono ?_; rintro e w1 ⟨rfl, hb1⟩; replace HB := bt2 hb1 (show Below ((w.alloc (oV sa ma na pa)).alloc (oV sb mb nb pb)).heap.size ((w.alloc (oV sa ma na pa)).alloc (oV sb mb nb pb)) _ from by (repeat (first | exact HB | exact Below.refl _ _ | with_reducible refine bel ?_ | with_reducible refine Below.drew ?_ | with_reducible refine bt3 ?_))); obtain ⟨c0, c1, c2, c3, c4, c5, c6, c7⟩ := gF HB)
    | (go_at_call 54; with_reducible refine (HS2.out _).mono ?_; rintro e w1 ⟨rfl, hb1⟩; replace HB := bt2 hb1 (show Below ((w.alloc (oV sa ma na pa)).alloc (oV sb mb nb pb)).heap.size ((w.alloc (oV sa ma na pa)).alloc (oV sb mb nb pb)) _ from by (repeat (first | exact HB | exact Below.refl _ _ | with_reducible refine bel ?_ | with_reducible refine Below.drew ?_ | with_reducible refine bt3 ?_))); obtain ⟨c0, c1, c2, c3, c4, c5, c6, c7⟩ := gF HB)
    | (go_at_call 55; with_reducible refine (HBK.out _).mono ?_; rintro e w1 ⟨rfl, hb1⟩; replace HB := bt2 hb1 (show Below ((w.alloc (oV sa ma na pa)).alloc (oV sb mb nb pb)).heap.size ((w.alloc (oV sa ma na pa)).alloc (oV sb mb nb pb)) _ from by (repeat (first | exact HB | exact Below.refl _ _ | with_reducible refine bel ?_ | with_reducible refine Below.drew ?_ | with_reducible refine bt3 ?_))); obtain ⟨c0, c1, c2, c3, c4, c5, c6, c7⟩ := gF HB))
  go_ret
  exact ⟨rfl, HW.out.trans (HB.mono HW.out.size)⟩
end Go.Proofs.Ytigiecodobgenaa
