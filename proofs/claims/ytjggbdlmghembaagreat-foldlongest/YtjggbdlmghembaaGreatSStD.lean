import Derived.Test.YtjggbdlmghembaaGreatCSStA
namespace Go.Proofs.YtjggbdlmghembaaGreat
open Go.RowKit
set_option maxRecDepth 100000

set_option maxRecDepth 100000 in
set_option maxHeartbeats 4000000 in
theorem stEfl (sa : Int) (na pa : Int) (sb : Int) (mb : Bool) (nb pb : Int) (X Y : Int) (Z : Int) (z2 : Bool) (w : World) (ha : (sa == 1) = false) (hb : (sb == 1) = false) (hi1 : ∀ w, Calls Tryz.prog 77 #[.agg #[.int .u8 sa, .bool false, .int .u64 na, .int .i64 pa]] w fun e w' => e = .returned (.bool false) ∧ Below w.heap.size w w') (hi2 : ∀ w, Calls Tryz.prog 77 #[.agg #[.int .u8 sb, .bool mb, .int .u64 nb, .int .i64 pb]] w fun e w' => e = .returned (.bool z2) ∧ Below w.heap.size w w') (hs1 : ∀ w, Calls Tryz.prog 78 #[.agg #[.int .u8 sa, .bool false, .int .u64 na, .int .i64 pa]] w fun e w' => e = .returned (.int .i64 X) ∧ Below w.heap.size w w') (hs2 : ∀ w, Calls Tryz.prog 78 #[.agg #[.int .u8 sb, .bool mb, .int .u64 nb, .int .i64 pb]] w fun e w' => e = .returned (.int .i64 Y) ∧ Below w.heap.size w w') (hbk : ∀ w, Calls Tryz.prog 79 #[.agg #[.int .u8 sa, .bool false, .int .u64 na, .int .i64 pa], .agg #[.int .u8 sb, .bool mb, .int .u64 nb, .int .i64 pb]] w fun e w' => e = .returned (.int .i64 Z) ∧ Below w.heap.size w w') (hxy : X = Y) (hZl : -2 ≤ Z) (hZh : Z ≤ 2) (h : Z < 0) :
    Calls Tryz.prog 55 #[.agg #[.int .u8 sa, .bool false, .int .u64 na, .int .i64 pa], .agg #[.int .u8 sb, .bool mb, .int .u64 nb, .int .i64 pb]] w fun e w' => e = .returned (.int .u8 2) ∧ Below w.heap.size w w' := by
  have HI1 : Hid _ := hi1
  have HI2 : Hid _ := hi2
  have HS1 : Hid _ := hs1
  have HS2 : Hid _ := hs2
  have HBK : Hid _ := hbk
  clear hi1 hi2 hs1 hs2 hbk
  have hne : (X != Y) = false := by simp [hxy]
  have hZ1 : -2 ≤ Z := hZl
  have h' : ¬ 0 < Z := by omega
  have HB : Below ((w.alloc (oV sa false na pa)).alloc (oV sb mb nb pb)).heap.size ((w.alloc (oV sa false na pa)).alloc (oV sb mb nb pb)) ((w.alloc (oV sa false na pa)).alloc (oV sb mb nb pb)) := Below.refl _ _
  have HW : Hid (Below w.heap.size w ((w.alloc (oV sa false na pa)).alloc (oV sb mb nb pb))) := bel (bel (Below.refl _ _))
  go_enter Tryz.func55, Tryz.ntmps55
  go_wp2_with (first
    | (go_at_call 77; with_reducible refine (HI1.out _).mono ?_; rintro e w1 ⟨rfl, hb1⟩; replace HB := bt2 hb1 (show Below ((w.alloc (oV sa false na pa)).alloc (oV sb mb nb pb)).heap.size ((w.alloc (oV sa false na pa)).alloc (oV sb mb nb pb)) _ from by (repeat (first | exact HB | exact Below.refl _ _ | with_reducible refine bel ?_ | with_reducible refine Below.drew ?_ | with_reducible refine bt3 ?_))); obtain ⟨c0, c1, c2, c3, c4, c5, c6, c7⟩ := gF HB)
    | (go_at_call 77; with_reducible refine (HI2.out _).mono ?_; rintro e w1 ⟨rfl, hb1⟩; replace HB := bt2 hb1 (show Below ((w.alloc (oV sa false na pa)).alloc (oV sb mb nb pb)).heap.size ((w.alloc (oV sa false na pa)).alloc (oV sb mb nb pb)) _ from by (repeat (first | exact HB | exact Below.refl _ _ | with_reducible refine bel ?_ | with_reducible refine Below.drew ?_ | with_reducible refine bt3 ?_))); obtain ⟨c0, c1, c2, c3, c4, c5, c6, c7⟩ := gF HB)
    | (go_at_call 78; with_reducible refine (HS1.out _).mono ?_; rintro e w1 ⟨rfl, hb1⟩; replace HB := bt2 hb1 (show Below ((w.alloc (oV sa false na pa)).alloc (oV sb mb nb pb)).heap.size ((w.alloc (oV sa false na pa)).alloc (oV sb mb nb pb)) _ from by (repeat (first | exact HB | exact Below.refl _ _ | with_reducible refine bel ?_ | with_reducible refine Below.drew ?_ | with_reducible refine bt3 ?_))); obtain ⟨c0, c1, c2, c3, c4, c5, c6, c7⟩ := gF HB)
    | (go_at_call 78; with_reducible refine (HS2.out _).mono ?_; rintro e w1 ⟨rfl, hb1⟩; replace HB := bt2 hb1 (show Below ((w.alloc (oV sa false na pa)).alloc (oV sb mb nb pb)).heap.size ((w.alloc (oV sa false na pa)).alloc (oV sb mb nb pb)) _ from by (repeat (first | exact HB | exact Below.refl _ _ | with_reducible refine bel ?_ | with_reducible refine Below.drew ?_ | with_reducible refine bt3 ?_))); obtain ⟨c0, c1, c2, c3, c4, c5, c6, c7⟩ := gF HB)
    | (go_at_call 79; with_reducible refine (HBK.out _).mono ?_; rintro e w1 ⟨rfl, hb1⟩; replace HB := bt2 hb1 (show Below ((w.alloc (oV sa false na pa)).alloc (oV sb mb nb pb)).heap.size ((w.alloc (oV sa false na pa)).alloc (oV sb mb nb pb)) _ from by (repeat (first | exact HB | exact Below.refl _ _ | with_reducible refine bel ?_ | with_reducible refine Below.drew ?_ | with_reducible refine bt3 ?_))); obtain ⟨c0, c1, c2, c3, c4, c5, c6, c7⟩ := gF HB))
  go_ret
  exact ⟨rfl, HW.out.trans (HB.mono HW.out.size)⟩
set_option maxRecDepth 100000 in
set_option maxHeartbeats 4000000 in
theorem stEfz (sa : Int) (na pa : Int) (sb : Int) (mb : Bool) (nb pb : Int) (X Y : Int) (Z : Int) (z2 : Bool) (w : World) (ha : (sa == 1) = false) (hb : (sb == 1) = false) (hi1 : ∀ w, Calls Tryz.prog 77 #[.agg #[.int .u8 sa, .bool false, .int .u64 na, .int .i64 pa]] w fun e w' => e = .returned (.bool false) ∧ Below w.heap.size w w') (hi2 : ∀ w, Calls Tryz.prog 77 #[.agg #[.int .u8 sb, .bool mb, .int .u64 nb, .int .i64 pb]] w fun e w' => e = .returned (.bool z2) ∧ Below w.heap.size w w') (hs1 : ∀ w, Calls Tryz.prog 78 #[.agg #[.int .u8 sa, .bool false, .int .u64 na, .int .i64 pa]] w fun e w' => e = .returned (.int .i64 X) ∧ Below w.heap.size w w') (hs2 : ∀ w, Calls Tryz.prog 78 #[.agg #[.int .u8 sb, .bool mb, .int .u64 nb, .int .i64 pb]] w fun e w' => e = .returned (.int .i64 Y) ∧ Below w.heap.size w w') (hbk : ∀ w, Calls Tryz.prog 79 #[.agg #[.int .u8 sa, .bool false, .int .u64 na, .int .i64 pa], .agg #[.int .u8 sb, .bool mb, .int .u64 nb, .int .i64 pb]] w fun e w' => e = .returned (.int .i64 Z) ∧ Below w.heap.size w w') (hxy : X = Y) (hZl : -2 ≤ Z) (hZh : Z ≤ 2) (h : Z = 0) :
    Calls Tryz.prog 55 #[.agg #[.int .u8 sa, .bool false, .int .u64 na, .int .i64 pa], .agg #[.int .u8 sb, .bool mb, .int .u64 nb, .int .i64 pb]] w fun e w' => e = .returned (.int .u8 3) ∧ Below w.heap.size w w' := by
  have HI1 : Hid _ := hi1
  have HI2 : Hid _ := hi2
  have HS1 : Hid _ := hs1
  have HS2 : Hid _ := hs2
  have HBK : Hid _ := hbk
  clear hi1 hi2 hs1 hs2 hbk
  have hne : (X != Y) = false := by simp [hxy]
  have hZ1 : -2 ≤ Z := hZl
  subst h
  have HB : Below ((w.alloc (oV sa false na pa)).alloc (oV sb mb nb pb)).heap.size ((w.alloc (oV sa false na pa)).alloc (oV sb mb nb pb)) ((w.alloc (oV sa false na pa)).alloc (oV sb mb nb pb)) := Below.refl _ _
  have HW : Hid (Below w.heap.size w ((w.alloc (oV sa false na pa)).alloc (oV sb mb nb pb))) := bel (bel (Below.refl _ _))
  go_enter Tryz.func55, Tryz.ntmps55
  go_wp2_with (first
    | (go_at_call 77; with_reducible refine (HI1.out _).mono ?_; rintro e w1 ⟨rfl, hb1⟩; replace HB := bt2 hb1 (show Below ((w.alloc (oV sa false na pa)).alloc (oV sb mb nb pb)).heap.size ((w.alloc (oV sa false na pa)).alloc (oV sb mb nb pb)) _ from by (repeat (first | exact HB | exact Below.refl _ _ | with_reducible refine bel ?_ | with_reducible refine Below.drew ?_ | with_reducible refine bt3 ?_))); obtain ⟨c0, c1, c2, c3, c4, c5, c6, c7⟩ := gF HB)
    | (go_at_call 77; with_reducible refine (HI2.out _).mono ?_; rintro e w1 ⟨rfl, hb1⟩; replace HB := bt2 hb1 (show Below ((w.alloc (oV sa false na pa)).alloc (oV sb mb nb pb)).heap.size ((w.alloc (oV sa false na pa)).alloc (oV sb mb nb pb)) _ from by (repeat (first | exact HB | exact Below.refl _ _ | with_reducible refine bel ?_ | with_reducible refine Below.drew ?_ | with_reducible refine bt3 ?_))); obtain ⟨c0, c1, c2, c3, c4, c5, c6, c7⟩ := gF HB)
    | (go_at_call 78; with_reducible refine (HS1.out _).mono ?_; rintro e w1 ⟨rfl, hb1⟩; replace HB := bt2 hb1 (show Below ((w.alloc (oV sa false na pa)).alloc (oV sb mb nb pb)).heap.size ((w.alloc (oV sa false na pa)).alloc (oV sb mb nb pb)) _ from by (repeat (first | exact HB | exact Below.refl _ _ | with_reducible refine bel ?_ | with_reducible refine Below.drew ?_ | with_reducible refine bt3 ?_))); obtain ⟨c0, c1, c2, c3, c4, c5, c6, c7⟩ := gF HB)
    | (go_at_call 78; with_reducible refine (HS2.out _).mono ?_; rintro e w1 ⟨rfl, hb1⟩; replace HB := bt2 hb1 (show Below ((w.alloc (oV sa false na pa)).alloc (oV sb mb nb pb)).heap.size ((w.alloc (oV sa false na pa)).alloc (oV sb mb nb pb)) _ from by (repeat (first | exact HB | exact Below.refl _ _ | with_reducible refine bel ?_ | with_reducible refine Below.drew ?_ | with_reducible refine bt3 ?_))); obtain ⟨c0, c1, c2, c3, c4, c5, c6, c7⟩ := gF HB)
    | (go_at_call 79; with_reducible refine (HBK.out _).mono ?_; rintro e w1 ⟨rfl, hb1⟩; replace HB := bt2 hb1 (show Below ((w.alloc (oV sa false na pa)).alloc (oV sb mb nb pb)).heap.size ((w.alloc (oV sa false na pa)).alloc (oV sb mb nb pb)) _ from by (repeat (first | exact HB | exact Below.refl _ _ | with_reducible refine bel ?_ | with_reducible refine Below.drew ?_ | with_reducible refine bt3 ?_))); obtain ⟨c0, c1, c2, c3, c4, c5, c6, c7⟩ := gF HB))
  go_ret
  exact ⟨rfl, HW.out.trans (HB.mono HW.out.size)⟩
set_option maxRecDepth 100000 in
set_option maxHeartbeats 4000000 in
theorem stEfg (sa : Int) (na pa : Int) (sb : Int) (mb : Bool) (nb pb : Int) (X Y : Int) (Z : Int) (z2 : Bool) (w : World) (ha : (sa == 1) = false) (hb : (sb == 1) = false) (hi1 : ∀ w, Calls Tryz.prog 77 #[.agg #[.int .u8 sa, .bool false, .int .u64 na, .int .i64 pa]] w fun e w' => e = .returned (.bool false) ∧ Below w.heap.size w w') (hi2 : ∀ w, Calls Tryz.prog 77 #[.agg #[.int .u8 sb, .bool mb, .int .u64 nb, .int .i64 pb]] w fun e w' => e = .returned (.bool z2) ∧ Below w.heap.size w w') (hs1 : ∀ w, Calls Tryz.prog 78 #[.agg #[.int .u8 sa, .bool false, .int .u64 na, .int .i64 pa]] w fun e w' => e = .returned (.int .i64 X) ∧ Below w.heap.size w w') (hs2 : ∀ w, Calls Tryz.prog 78 #[.agg #[.int .u8 sb, .bool mb, .int .u64 nb, .int .i64 pb]] w fun e w' => e = .returned (.int .i64 Y) ∧ Below w.heap.size w w') (hbk : ∀ w, Calls Tryz.prog 79 #[.agg #[.int .u8 sa, .bool false, .int .u64 na, .int .i64 pa], .agg #[.int .u8 sb, .bool mb, .int .u64 nb, .int .i64 pb]] w fun e w' => e = .returned (.int .i64 Z) ∧ Below w.heap.size w w') (hxy : X = Y) (hZl : -2 ≤ Z) (hZh : Z ≤ 2) (h : 0 < Z) :
    Calls Tryz.prog 55 #[.agg #[.int .u8 sa, .bool false, .int .u64 na, .int .i64 pa], .agg #[.int .u8 sb, .bool mb, .int .u64 nb, .int .i64 pb]] w fun e w' => e = .returned (.int .u8 4) ∧ Below w.heap.size w w' := by
  have HI1 : Hid _ := hi1
  have HI2 : Hid _ := hi2
  have HS1 : Hid _ := hs1
  have HS2 : Hid _ := hs2
  have HBK : Hid _ := hbk
  clear hi1 hi2 hs1 hs2 hbk
  have hne : (X != Y) = false := by simp [hxy]
  have hZ1 : -2 ≤ Z := hZl
  have h' : ¬ Z < 0 := by omega
  have HB : Below ((w.alloc (oV sa false na pa)).alloc (oV sb mb nb pb)).heap.size ((w.alloc (oV sa false na pa)).alloc (oV sb mb nb pb)) ((w.alloc (oV sa false na pa)).alloc (oV sb mb nb pb)) := Below.refl _ _
  have HW : Hid (Below w.heap.size w ((w.alloc (oV sa false na pa)).alloc (oV sb mb nb pb))) := bel (bel (Below.refl _ _))
  go_enter Tryz.func55, Tryz.ntmps55
  go_wp2_with (first
    | (go_at_call 77; with_reducible refine (HI1.out _).mono ?_; rintro e w1 ⟨rfl, hb1⟩; replace HB := bt2 hb1 (show Below ((w.alloc (oV sa false na pa)).alloc (oV sb mb nb pb)).heap.size ((w.alloc (oV sa false na pa)).alloc (oV sb mb nb pb)) _ from by (repeat (first | exact HB | exact Below.refl _ _ | with_reducible refine bel ?_ | with_reducible refine Below.drew ?_ | with_reducible refine bt3 ?_))); obtain ⟨c0, c1, c2, c3, c4, c5, c6, c7⟩ := gF HB)
    | (go_at_call 77; with_reducible refine (HI2.out _).mono ?_; rintro e w1 ⟨rfl, hb1⟩; replace HB := bt2 hb1 (show Below ((w.alloc (oV sa false na pa)).alloc (oV sb mb nb pb)).heap.size ((w.alloc (oV sa false na pa)).alloc (oV sb mb nb pb)) _ from by (repeat (first | exact HB | exact Below.refl _ _ | with_reducible refine bel ?_ | with_reducible refine Below.drew ?_ | with_reducible refine bt3 ?_))); obtain ⟨c0, c1, c2, c3, c4, c5, c6, c7⟩ := gF HB)
    | (go_at_call 78; with_reducible refine (HS1.out _).mono ?_; rintro e w1 ⟨rfl, hb1⟩; replace HB := bt2 hb1 (show Below ((w.alloc (oV sa false na pa)).alloc (oV sb mb nb pb)).heap.size ((w.alloc (oV sa false na pa)).alloc (oV sb mb nb pb)) _ from by (repeat (first | exact HB | exact Below.refl _ _ | with_reducible refine bel ?_ | with_reducible refine Below.drew ?_ | with_reducible refine bt3 ?_))); obtain ⟨c0, c1, c2, c3, c4, c5, c6, c7⟩ := gF HB)
    | (go_at_call 78; with_reducible refine (HS2.out _).mono ?_; rintro e w1 ⟨rfl, hb1⟩; replace HB := bt2 hb1 (show Below ((w.alloc (oV sa false na pa)).alloc (oV sb mb nb pb)).heap.size ((w.alloc (oV sa false na pa)).alloc (oV sb mb nb pb)) _ from by (repeat (first | exact HB | exact Below.refl _ _ | with_reducible refine bel ?_ | with_reducible refine Below.drew ?_ | with_reducible refine bt3 ?_))); obtain ⟨c0, c1, c2, c3, c4, c5, c6, c7⟩ := gF HB)
    | (go_at_call 79; with_reducible refine (HBK.out _).mono ?_; rintro e w1 ⟨rfl, hb1⟩; replace HB := bt2 hb1 (show Below ((w.alloc (oV sa false na pa)).alloc (oV sb mb nb pb)).heap.size ((w.alloc (oV sa false na pa)).alloc (oV sb mb nb pb)) _ from by (repeat (first | exact HB | exact Below.refl _ _ | with_reducible refine bel ?_ | with_reducible refine Below.drew ?_ | with_reducible refine bt3 ?_))); obtain ⟨c0, c1, c2, c3, c4, c5, c6, c7⟩ := gF HB))
  go_ret
  exact ⟨rfl, HW.out.trans (HB.mono HW.out.size)⟩
set_option maxRecDepth 100000 in
set_option maxHeartbeats 4000000 in
theorem stEtl (sa : Int) (na pa : Int) (sb : Int) (mb : Bool) (nb pb : Int) (X Y : Int) (Z : Int) (z2 : Bool) (w : World) (ha : (sa == 1) = false) (hb : (sb == 1) = false) (hi1 : ∀ w, Calls Tryz.prog 77 #[.agg #[.int .u8 sa, .bool true, .int .u64 na, .int .i64 pa]] w fun e w' => e = .returned (.bool false) ∧ Below w.heap.size w w') (hi2 : ∀ w, Calls Tryz.prog 77 #[.agg #[.int .u8 sb, .bool mb, .int .u64 nb, .int .i64 pb]] w fun e w' => e = .returned (.bool z2) ∧ Below w.heap.size w w') (hs1 : ∀ w, Calls Tryz.prog 78 #[.agg #[.int .u8 sa, .bool true, .int .u64 na, .int .i64 pa]] w fun e w' => e = .returned (.int .i64 X) ∧ Below w.heap.size w w') (hs2 : ∀ w, Calls Tryz.prog 78 #[.agg #[.int .u8 sb, .bool mb, .int .u64 nb, .int .i64 pb]] w fun e w' => e = .returned (.int .i64 Y) ∧ Below w.heap.size w w') (hbk : ∀ w, Calls Tryz.prog 79 #[.agg #[.int .u8 sa, .bool true, .int .u64 na, .int .i64 pa], .agg #[.int .u8 sb, .bool mb, .int .u64 nb, .int .i64 pb]] w fun e w' => e = .returned (.int .i64 Z) ∧ Below w.heap.size w w') (hxy : X = Y) (hZl : -2 ≤ Z) (hZh : Z ≤ 2) (h : Z < 0) :
    Calls Tryz.prog 55 #[.agg #[.int .u8 sa, .bool true, .int .u64 na, .int .i64 pa], .agg #[.int .u8 sb, .bool mb, .int .u64 nb, .int .i64 pb]] w fun e w' => e = .returned (.int .u8 4) ∧ Below w.heap.size w w' := by
  have HI1 : Hid _ := hi1
  have HI2 : Hid _ := hi2
  have HS1 : Hid _ := hs1
  have HS2 : Hid _ := hs2
  have HBK : Hid _ := hbk
  clear hi1 hi2 hs1 hs2 hbk
  have hne : (X != Y) = false := by simp [hxy]
  have hZ1 : -2 ≤ Z := hZl
  have h' : ¬ 0 < Z := by omega
  have HB : Below ((w.alloc (oV sa true na pa)).alloc (oV sb mb nb pb)).heap.size ((w.alloc (oV sa true na pa)).alloc (oV sb mb nb pb)) ((w.alloc (oV sa true na pa)).alloc (oV sb mb nb pb)) := Below.refl _ _
  have HW : Hid (Below w.heap.size w ((w.alloc (oV sa true na pa)).alloc (oV sb mb nb pb))) := bel (bel (Below.refl _ _))
  go_enter Tryz.func55, Tryz.ntmps55
  go_wp2_with (first
    | (go_at_call 77; with_reducible refine (HI1.out _).mono ?_; rintro e w1 ⟨rfl, hb1⟩; replace HB := bt2 hb1 (show Below ((w.alloc (oV sa true na pa)).alloc (oV sb mb nb pb)).heap.size ((w.alloc (oV sa true na pa)).alloc (oV sb mb nb pb)) _ from by (repeat (first | exact HB | exact Below.refl _ _ | with_reducible refine bel ?_ | with_reducible refine Below.drew ?_ | with_reducible refine bt3 ?_))); obtain ⟨c0, c1, c2, c3, c4, c5, c6, c7⟩ := gF HB)
    | (go_at_call 77; with_reducible refine (HI2.out _).mono ?_; rintro e w1 ⟨rfl, hb1⟩; replace HB := bt2 hb1 (show Below ((w.alloc (oV sa true na pa)).alloc (oV sb mb nb pb)).heap.size ((w.alloc (oV sa true na pa)).alloc (oV sb mb nb pb)) _ from by (repeat (first | exact HB | exact Below.refl _ _ | with_reducible refine bel ?_ | with_reducible refine Below.drew ?_ | with_reducible refine bt3 ?_))); obtain ⟨c0, c1, c2, c3, c4, c5, c6, c7⟩ := gF HB)
    | (go_at_call 78; with_reducible refine (HS1.out _).mono ?_; rintro e w1 ⟨rfl, hb1⟩; replace HB := bt2 hb1 (show Below ((w.alloc (oV sa true na pa)).alloc (oV sb mb nb pb)).heap.size ((w.alloc (oV sa true na pa)).alloc (oV sb mb nb pb)) _ from by (repeat (first | exact HB | exact Below.refl _ _ | with_reducible refine bel ?_ | with_reducible refine Below.drew ?_ | with_reducible refine bt3 ?_))); obtain ⟨c0, c1, c2, c3, c4, c5, c6, c7⟩ := gF HB)
    | (go_at_call 78; with_reducible refine (HS2.out _).mono ?_; rintro e w1 ⟨rfl, hb1⟩; replace HB := bt2 hb1 (show Below ((w.alloc (oV sa true na pa)).alloc (oV sb mb nb pb)).heap.size ((w.alloc (oV sa true na pa)).alloc (oV sb mb nb pb)) _ from by (repeat (first | exact HB | exact Below.refl _ _ | with_reducible refine bel ?_ | with_reducible refine Below.drew ?_ | with_reducible refine bt3 ?_))); obtain ⟨c0, c1, c2, c3, c4, c5, c6, c7⟩ := gF HB)
    | (go_at_call 79; with_reducible refine (HBK.out _).mono ?_; rintro e w1 ⟨rfl, hb1⟩; replace HB := bt2 hb1 (show Below ((w.alloc (oV sa true na pa)).alloc (oV sb mb nb pb)).heap.size ((w.alloc (oV sa true na pa)).alloc (oV sb mb nb pb)) _ from by (repeat (first | exact HB | exact Below.refl _ _ | with_reducible refine bel ?_ | with_reducible refine Below.drew ?_ | with_reducible refine bt3 ?_))); obtain ⟨c0, c1, c2, c3, c4, c5, c6, c7⟩ := gF HB))
  go_ret
  exact ⟨rfl, HW.out.trans (HB.mono HW.out.size)⟩
set_option maxRecDepth 100000 in
set_option maxHeartbeats 4000000 in
theorem stEtz (sa : Int) (na pa : Int) (sb : Int) (mb : Bool) (nb pb : Int) (X Y : Int) (Z : Int) (z2 : Bool) (w : World) (ha : (sa == 1) = false) (hb : (sb == 1) = false) (hi1 : ∀ w, Calls Tryz.prog 77 #[.agg #[.int .u8 sa, .bool true, .int .u64 na, .int .i64 pa]] w fun e w' => e = .returned (.bool false) ∧ Below w.heap.size w w') (hi2 : ∀ w, Calls Tryz.prog 77 #[.agg #[.int .u8 sb, .bool mb, .int .u64 nb, .int .i64 pb]] w fun e w' => e = .returned (.bool z2) ∧ Below w.heap.size w w') (hs1 : ∀ w, Calls Tryz.prog 78 #[.agg #[.int .u8 sa, .bool true, .int .u64 na, .int .i64 pa]] w fun e w' => e = .returned (.int .i64 X) ∧ Below w.heap.size w w') (hs2 : ∀ w, Calls Tryz.prog 78 #[.agg #[.int .u8 sb, .bool mb, .int .u64 nb, .int .i64 pb]] w fun e w' => e = .returned (.int .i64 Y) ∧ Below w.heap.size w w') (hbk : ∀ w, Calls Tryz.prog 79 #[.agg #[.int .u8 sa, .bool true, .int .u64 na, .int .i64 pa], .agg #[.int .u8 sb, .bool mb, .int .u64 nb, .int .i64 pb]] w fun e w' => e = .returned (.int .i64 Z) ∧ Below w.heap.size w w') (hxy : X = Y) (hZl : -2 ≤ Z) (hZh : Z ≤ 2) (h : Z = 0) :
    Calls Tryz.prog 55 #[.agg #[.int .u8 sa, .bool true, .int .u64 na, .int .i64 pa], .agg #[.int .u8 sb, .bool mb, .int .u64 nb, .int .i64 pb]] w fun e w' => e = .returned (.int .u8 3) ∧ Below w.heap.size w w' := by
  have HI1 : Hid _ := hi1
  have HI2 : Hid _ := hi2
  have HS1 : Hid _ := hs1
  have HS2 : Hid _ := hs2
  have HBK : Hid _ := hbk
  clear hi1 hi2 hs1 hs2 hbk
  have hne : (X != Y) = false := by simp [hxy]
  have hZ1 : -2 ≤ Z := hZl
  subst h
  have HB : Below ((w.alloc (oV sa true na pa)).alloc (oV sb mb nb pb)).heap.size ((w.alloc (oV sa true na pa)).alloc (oV sb mb nb pb)) ((w.alloc (oV sa true na pa)).alloc (oV sb mb nb pb)) := Below.refl _ _
  have HW : Hid (Below w.heap.size w ((w.alloc (oV sa true na pa)).alloc (oV sb mb nb pb))) := bel (bel (Below.refl _ _))
  go_enter Tryz.func55, Tryz.ntmps55
  go_wp2_with (first
    | (go_at_call 77; with_reducible refine (HI1.out _).mono ?_; rintro e w1 ⟨rfl, hb1⟩; replace HB := bt2 hb1 (show Below ((w.alloc (oV sa true na pa)).alloc (oV sb mb nb pb)).heap.size ((w.alloc (oV sa true na pa)).alloc (oV sb mb nb pb)) _ from by (repeat (first | exact HB | exact Below.refl _ _ | with_reducible refine bel ?_ | with_reducible refine Below.drew ?_ | with_reducible refine bt3 ?_))); obtain ⟨c0, c1, c2, c3, c4, c5, c6, c7⟩ := gF HB)
    | (go_at_call 77; with_reducible refine (HI2.out _).mono ?_; rintro e w1 ⟨rfl, hb1⟩; replace HB := bt2 hb1 (show Below ((w.alloc (oV sa true na pa)).alloc (oV sb mb nb pb)).heap.size ((w.alloc (oV sa true na pa)).alloc (oV sb mb nb pb)) _ from by (repeat (first | exact HB | exact Below.refl _ _ | with_reducible refine bel ?_ | with_reducible refine Below.drew ?_ | with_reducible refine bt3 ?_))); obtain ⟨c0, c1, c2, c3, c4, c5, c6, c7⟩ := gF HB)
    | (go_at_call 78; with_reducible refine (HS1.out _).mono ?_; rintro e w1 ⟨rfl, hb1⟩; replace HB := bt2 hb1 (show Below ((w.alloc (oV sa true na pa)).alloc (oV sb mb nb pb)).heap.size ((w.alloc (oV sa true na pa)).alloc (oV sb mb nb pb)) _ from by (repeat (first | exact HB | exact Below.refl _ _ | with_reducible refine bel ?_ | with_reducible refine Below.drew ?_ | with_reducible refine bt3 ?_))); obtain ⟨c0, c1, c2, c3, c4, c5, c6, c7⟩ := gF HB)
    | (go_at_call 78; with_reducible refine (HS2.out _).mono ?_; rintro e w1 ⟨rfl, hb1⟩; replace HB := bt2 hb1 (show Below ((w.alloc (oV sa true na pa)).alloc (oV sb mb nb pb)).heap.size ((w.alloc (oV sa true na pa)).alloc (oV sb mb nb pb)) _ from by (repeat (first | exact HB | exact Below.refl _ _ | with_reducible refine bel ?_ | with_reducible refine Below.drew ?_ | with_reducible refine bt3 ?_))); obtain ⟨c0, c1, c2, c3, c4, c5, c6, c7⟩ := gF HB)
    | (go_at_call 79; with_reducible refine (HBK.out _).mono ?_; rintro e w1 ⟨rfl, hb1⟩; replace HB := bt2 hb1 (show Below ((w.alloc (oV sa true na pa)).alloc (oV sb mb nb pb)).heap.size ((w.alloc (oV sa true na pa)).alloc (oV sb mb nb pb)) _ from by (repeat (first | exact HB | exact Below.refl _ _ | with_reducible refine bel ?_ | with_reducible refine Below.drew ?_ | with_reducible refine bt3 ?_))); obtain ⟨c0, c1, c2, c3, c4, c5, c6, c7⟩ := gF HB))
  go_ret
  exact ⟨rfl, HW.out.trans (HB.mono HW.out.size)⟩
set_option maxRecDepth 100000 in
set_option maxHeartbeats 4000000 in
theorem stEtg (sa : Int) (na pa : Int) (sb : Int) (mb : Bool) (nb pb : Int) (X Y : Int) (Z : Int) (z2 : Bool) (w : World) (ha : (sa == 1) = false) (hb : (sb == 1) = false) (hi1 : ∀ w, Calls Tryz.prog 77 #[.agg #[.int .u8 sa, .bool true, .int .u64 na, .int .i64 pa]] w fun e w' => e = .returned (.bool false) ∧ Below w.heap.size w w') (hi2 : ∀ w, Calls Tryz.prog 77 #[.agg #[.int .u8 sb, .bool mb, .int .u64 nb, .int .i64 pb]] w fun e w' => e = .returned (.bool z2) ∧ Below w.heap.size w w') (hs1 : ∀ w, Calls Tryz.prog 78 #[.agg #[.int .u8 sa, .bool true, .int .u64 na, .int .i64 pa]] w fun e w' => e = .returned (.int .i64 X) ∧ Below w.heap.size w w') (hs2 : ∀ w, Calls Tryz.prog 78 #[.agg #[.int .u8 sb, .bool mb, .int .u64 nb, .int .i64 pb]] w fun e w' => e = .returned (.int .i64 Y) ∧ Below w.heap.size w w') (hbk : ∀ w, Calls Tryz.prog 79 #[.agg #[.int .u8 sa, .bool true, .int .u64 na, .int .i64 pa], .agg #[.int .u8 sb, .bool mb, .int .u64 nb, .int .i64 pb]] w fun e w' => e = .returned (.int .i64 Z) ∧ Below w.heap.size w w') (hxy : X = Y) (hZl : -2 ≤ Z) (hZh : Z ≤ 2) (h : 0 < Z) :
    Calls Tryz.prog 55 #[.agg #[.int .u8 sa, .bool true, .int .u64 na, .int .i64 pa], .agg #[.int .u8 sb, .bool mb, .int .u64 nb, .int .i64 pb]] w fun e w' => e = .returned (.int .u8 2) ∧ Below w.heap.size w w' := by
  have HI1 : Hid _ := hi1
  have HI2 : Hid _ := hi2
  have HS1 : Hid _ := hs1
  have HS2 : Hid _ := hs2
  have HBK : Hid _ := hbk
  clear hi1 hi2 hs1 hs2 hbk
  have hne : (X != Y) = false := by simp [hxy]
  have hZ1 : -2 ≤ Z := hZl
  have h' : ¬ Z < 0 := by omega
  have HB : Below ((w.alloc (oV sa true na pa)).alloc (oV sb mb nb pb)).heap.size ((w.alloc (oV sa true na pa)).alloc (oV sb mb nb pb)) ((w.alloc (oV sa true na pa)).alloc (oV sb mb nb pb)) := Below.refl _ _
  have HW : Hid (Below w.heap.size w ((w.alloc (oV sa true na pa)).alloc (oV sb mb nb pb))) := bel (bel (Below.refl _ _))
  go_enter Tryz.func55, Tryz.ntmps55
  go_wp2_with (first
    | (go_at_call 77; with_reducible refine (HI1.out _).mono ?_; rintro e w1 ⟨rfl, hb1⟩; replace HB := bt2 hb1 (show Below ((w.alloc (oV sa true na pa)).alloc (oV sb mb nb pb)).heap.size ((w.alloc (oV sa true na pa)).alloc (oV sb mb nb pb)) _ from by (repeat (first | exact HB | exact Below.refl _ _ | with_reducible refine bel ?_ | with_reducible refine Below.drew ?_ | with_reducible refine bt3 ?_))); obtain ⟨c0, c1, c2, c3, c4, c5, c6, c7⟩ := gF HB)
    | (go_at_call 77; with_reducible refine (HI2.out _).mono ?_; rintro e w1 ⟨rfl, hb1⟩; replace HB := bt2 hb1 (show Below ((w.alloc (oV sa true na pa)).alloc (oV sb mb nb pb)).heap.size ((w.alloc (oV sa true na pa)).alloc (oV sb mb nb pb)) _ from by (repeat (first | exact HB | exact Below.refl _ _ | with_reducible refine bel ?_ | with_reducible refine Below.drew ?_ | with_reducible refine bt3 ?_))); obtain ⟨c0, c1, c2, c3, c4, c5, c6, c7⟩ := gF HB)
    | (go_at_call 78; with_reducible refine (HS1.out _).mono ?_; rintro e w1 ⟨rfl, hb1⟩; replace HB := bt2 hb1 (show Below ((w.alloc (oV sa true na pa)).alloc (oV sb mb nb pb)).heap.size ((w.alloc (oV sa true na pa)).alloc (oV sb mb nb pb)) _ from by (repeat (first | exact HB | exact Below.refl _ _ | with_reducible refine bel ?_ | with_reducible refine Below.drew ?_ | with_reducible refine bt3 ?_))); obtain ⟨c0, c1, c2, c3, c4, c5, c6, c7⟩ := gF HB)
    | (go_at_call 78; with_reducible refine (HS2.out _).mono ?_; rintro e w1 ⟨rfl, hb1⟩; replace HB := bt2 hb1 (show Below ((w.alloc (oV sa true na pa)).alloc (oV sb mb nb pb)).heap.size ((w.alloc (oV sa true na pa)).alloc (oV sb mb nb pb)) _ from by (repeat (first | exact HB | exact Below.refl _ _ | with_reducible refine bel ?_ | with_reducible refine Below.drew ?_ | with_reducible refine bt3 ?_))); obtain ⟨c0, c1, c2, c3, c4, c5, c6, c7⟩ := gF HB)
    | (go_at_call 79; with_reducible refine (HBK.out _).mono ?_; rintro e w1 ⟨rfl, hb1⟩; replace HB := bt2 hb1 (show Below ((w.alloc (oV sa true na pa)).alloc (oV sb mb nb pb)).heap.size ((w.alloc (oV sa true na pa)).alloc (oV sb mb nb pb)) _ from by (repeat (first | exact HB | exact Below.refl _ _ | with_reducible refine bel ?_ | with_reducible refine Below.drew ?_ | with_reducible refine bt3 ?_))); obtain ⟨c0, c1, c2, c3, c4, c5, c6, c7⟩ := gF HB))
  go_ret
  exact ⟨rfl, HW.out.trans (HB.mono HW.out.size)⟩
end Go.Proofs.YtjggbdlmghembaaGreat
