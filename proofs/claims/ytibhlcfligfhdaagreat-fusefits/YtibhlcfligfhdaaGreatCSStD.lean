import Derived.Test.YtibhlcfligfhdaaGreatCSStA
import Derived.Test.YtibhlcfligfhdaaGreatCABRc
import Derived.Test.YtibhlcfligfhdaaGreatCIInf
import Derived.Test.YtibhlcfligfhdaaGreatCAHoB
import Derived.Laws.AppendOwnNone
import Derived.Test.YtibhlcfligfhdaaGreatRows
import Derived.WalkKit
import Derived.Laws.BitsAllLaws
import Derived.Deep.QuietTactic
import Derived.BigQuiet
import Derived.WalkSmall
namespace Go.Proofs.YtibhlcfligfhdaaGreat
open Go.RowKit
set_option maxRecDepth 100000
set_option maxRecDepth 100000 in
set_option maxHeartbeats 40000000 in
theorem stEfA :
   (∀ (sa : Int) (na pa : Int) (sb : Int) (mb : Bool) (nb pb : Int) (X Y : Int) (Z : Int) (z2 : Bool) (w : World), ((sa == 1) = false) → ((sb == 1) = false) → (∀ w, Calls Tryz.prog 114 #[.agg #[.int .u8 sa, .bool false, .int .u64 na, .int .i64 pa]] w fun e w' => e = .returned (.bool false) ∧ Below w.heap.size w w') → (∀ w, Calls Tryz.prog 114 #[.agg #[.int .u8 sb, .bool mb, .int .u64 nb, .int .i64 pb]] w fun e w' => e = .returned (.bool z2) ∧ Below w.heap.size w w') → (∀ w, Calls Tryz.prog 115 #[.agg #[.int .u8 sa, .bool false, .int .u64 na, .int .i64 pa]] w fun e w' => e = .returned (.int .i64 X) ∧ Below w.heap.size w w') → (∀ w, Calls Tryz.prog 115 #[.agg #[.int .u8 sb, .bool mb, .int .u64 nb, .int .i64 pb]] w fun e w' => e = .returned (.int .i64 Y) ∧ Below w.heap.size w w') → (∀ w, Calls Tryz.prog 116 #[.agg #[.int .u8 sa, .bool false, .int .u64 na, .int .i64 pa], .agg #[.int .u8 sb, .bool mb, .int .u64 nb, .int .i64 pb]] w fun e w' => e = .returned (.int .i64 Z) ∧ Below w.heap.size w w') → (X = Y) → (-2 ≤ Z) → (Z ≤ 2) → (Z < 0) → Calls Tryz.prog 99 #[.agg #[.int .u8 sa, .bool false, .int .u64 na, .int .i64 pa], .agg #[.int .u8 sb, .bool mb, .int .u64 nb, .int .i64 pb]] w fun e w' => e = .returned (.int .u8 2) ∧ Below w.heap.size w w') ∧
   (∀ (sa : Int) (na pa : Int) (sb : Int) (mb : Bool) (nb pb : Int) (X Y : Int) (Z : Int) (z2 : Bool) (w : World), ((sa == 1) = false) → ((sb == 1) = false) → (∀ w, Calls Tryz.prog 114 #[.agg #[.int .u8 sa, .bool false, .int .u64 na, .int .i64 pa]] w fun e w' => e = .returned (.bool false) ∧ Below w.heap.size w w') → (∀ w, Calls Tryz.prog 114 #[.agg #[.int .u8 sb, .bool mb, .int .u64 nb, .int .i64 pb]] w fun e w' => e = .returned (.bool z2) ∧ Below w.heap.size w w') → (∀ w, Calls Tryz.prog 115 #[.agg #[.int .u8 sa, .bool false, .int .u64 na, .int .i64 pa]] w fun e w' => e = .returned (.int .i64 X) ∧ Below w.heap.size w w') → (∀ w, Calls Tryz.prog 115 #[.agg #[.int .u8 sb, .bool mb, .int .u64 nb, .int .i64 pb]] w fun e w' => e = .returned (.int .i64 Y) ∧ Below w.heap.size w w') → (∀ w, Calls Tryz.prog 116 #[.agg #[.int .u8 sa, .bool false, .int .u64 na, .int .i64 pa], .agg #[.int .u8 sb, .bool mb, .int .u64 nb, .int .i64 pb]] w fun e w' => e = .returned (.int .i64 Z) ∧ Below w.heap.size w w') → (X = Y) → (-2 ≤ Z) → (Z ≤ 2) → (Z = 0) → Calls Tryz.prog 99 #[.agg #[.int .u8 sa, .bool false, .int .u64 na, .int .i64 pa], .agg #[.int .u8 sb, .bool mb, .int .u64 nb, .int .i64 pb]] w fun e w' => e = .returned (.int .u8 3) ∧ Below w.heap.size w w') ∧
   (∀ (sa : Int) (na pa : Int) (sb : Int) (mb : Bool) (nb pb : Int) (X Y : Int) (Z : Int) (z2 : Bool) (w : World), ((sa == 1) = false) → ((sb == 1) = false) → (∀ w, Calls Tryz.prog 114 #[.agg #[.int .u8 sa, .bool false, .int .u64 na, .int .i64 pa]] w fun e w' => e = .returned (.bool false) ∧ Below w.heap.size w w') → (∀ w, Calls Tryz.prog 114 #[.agg #[.int .u8 sb, .bool mb, .int .u64 nb, .int .i64 pb]] w fun e w' => e = .returned (.bool z2) ∧ Below w.heap.size w w') → (∀ w, Calls Tryz.prog 115 #[.agg #[.int .u8 sa, .bool false, .int .u64 na, .int .i64 pa]] w fun e w' => e = .returned (.int .i64 X) ∧ Below w.heap.size w w') → (∀ w, Calls Tryz.prog 115 #[.agg #[.int .u8 sb, .bool mb, .int .u64 nb, .int .i64 pb]] w fun e w' => e = .returned (.int .i64 Y) ∧ Below w.heap.size w w') → (∀ w, Calls Tryz.prog 116 #[.agg #[.int .u8 sa, .bool false, .int .u64 na, .int .i64 pa], .agg #[.int .u8 sb, .bool mb, .int .u64 nb, .int .i64 pb]] w fun e w' => e = .returned (.int .i64 Z) ∧ Below w.heap.size w w') → (X = Y) → (-2 ≤ Z) → (Z ≤ 2) → (0 < Z) → Calls Tryz.prog 99 #[.agg #[.int .u8 sa, .bool false, .int .u64 na, .int .i64 pa], .agg #[.int .u8 sb, .bool mb, .int .u64 nb, .int .i64 pb]] w fun e w' => e = .returned (.int .u8 4) ∧ Below w.heap.size w w') := by
 refine ⟨?_, ?_, ?_⟩
 all_goals intro sa na pa sb mb nb pb X Y Z z2 w ha hb hi1 hi2 hs1 hs2 hbk hxy hZl hZh h
 all_goals (have HI1 : Hid _ := hi1)
 all_goals (have HI2 : Hid _ := hi2)
 all_goals (have HS1 : Hid _ := hs1)
 all_goals (have HS2 : Hid _ := hs2)
 all_goals (have HBK : Hid _ := hbk)
 all_goals (clear hi1 hi2 hs1 hs2 hbk)
 all_goals (have hne : (X != Y) = false := by simp [hxy])
 all_goals (have hZ1 : -2 ≤ Z := hZl)
 have h' : ¬ 0 < Z := by omega
 rotate_left
 subst h
 rotate_left
 have h' : ¬ Z < 0 := by omega
 rotate_left
 all_goals (have HB : Below ((w.alloc (oV sa false na pa)).alloc (oV sb mb nb pb)).heap.size ((w.alloc (oV sa false na pa)).alloc (oV sb mb nb pb)) ((w.alloc (oV sa false na pa)).alloc (oV sb mb nb pb)) := Below.refl _ _)
 all_goals (have HW : Hid (Below w.heap.size w ((w.alloc (oV sa false na pa)).alloc (oV sb mb nb pb))) := bel (bel (Below.refl _ _)))
 all_goals (go_enter Tryz.func99, Tryz.ntmps99)
 all_goals (
   go_wp2_with (first
     | (go_at_call 114; with_reducible refine (HI1.out _).mono ?_; rintro e w1 ⟨rfl, hb1⟩; replace HB := bt2 hb1 (show Below ((w.alloc (oV sa false na pa)).alloc (oV sb mb nb pb)).heap.size ((w.alloc (oV sa false na pa)).alloc (oV sb mb nb pb)) _ from by (repeat (first | exact HB | exact Below.refl _ _ | with_reducible first | refine bel ?_ | refine Below.drew ?_ | refine bt3 ?_))); obtain ⟨c0, c1, c2, c3, c4, c5, c6, c7⟩ := gF HB)
     | (go_at_call 114; with_reducible refine (HI2.out _).mono ?_; rintro e w1 ⟨rfl, hb1⟩; replace HB := bt2 hb1 (show Below ((w.alloc (oV sa false na pa)).alloc (oV sb mb nb pb)).heap.size ((w.alloc (oV sa false na pa)).alloc (oV sb mb nb pb)) _ from by (repeat (first | exact HB | exact Below.refl _ _ | with_reducible first | refine bel ?_ | refine Below.drew ?_ | refine bt3 ?_))); obtain ⟨c0, c1, c2, c3, c4, c5, c6, c7⟩ := gF HB)
     | (go_at_call 115; with_reducible refine (HS1.out _).mono ?_; rintro e w1 ⟨rfl, hb1⟩; replace HB := bt2 hb1 (show Below ((w.alloc (oV sa false na pa)).alloc (oV sb mb nb pb)).heap.size ((w.alloc (oV sa false na pa)).alloc (oV sb mb nb pb)) _ from by (repeat (first | exact HB | exact Below.refl _ _ | with_reducible first | refine bel ?_ | refine Below.drew ?_ | refine bt3 ?_))); obtain ⟨c0, c1, c2, c3, c4, c5, c6, c7⟩ := gF HB)
     | (go_at_call 115; with_reducible refine (HS2.out _).mono ?_; rintro e w1 ⟨rfl, hb1⟩; replace HB := bt2 hb1 (show Below ((w.alloc (oV sa false na pa)).alloc (oV sb mb nb pb)).heap.size ((w.alloc (oV sa false na pa)).alloc (oV sb mb nb pb)) _ from by (repeat (first | exact HB | exact Below.refl _ _ | with_reducible first | refine bel ?_ | refine Below.drew ?_ | refine bt3 ?_))); obtain ⟨c0, c1, c2, c3, c4, c5, c6, c7⟩ := gF HB)
     | (go_at_call 116; with_reducible refine (HBK.out _).mono ?_; rintro e w1 ⟨rfl, hb1⟩; replace HB := bt2 hb1 (show Below ((w.alloc (oV sa false na pa)).alloc (oV sb mb nb pb)).heap.size ((w.alloc (oV sa false na pa)).alloc (oV sb mb nb pb)) _ from by (repeat (first | exact HB | exact Below.refl _ _ | with_reducible first | refine bel ?_ | refine Below.drew ?_ | refine bt3 ?_))); obtain ⟨c0, c1, c2, c3, c4, c5, c6, c7⟩ := gF HB)))
 all_goals (go_ret)
 all_goals (exact ⟨rfl, HW.out.trans (HB.mono HW.out.size)⟩)
abbrev stEfl := stEfA.1
abbrev stEfz := stEfA.2.1
abbrev stEfg := stEfA.2.2
set_option maxRecDepth 100000 in
set_option maxHeartbeats 40000000 in
theorem stEtA :
   (∀ (sa : Int) (na pa : Int) (sb : Int) (mb : Bool) (nb pb : Int) (X Y : Int) (Z : Int) (z2 : Bool) (w : World), ((sa == 1) = false) → ((sb == 1) = false) → (∀ w, Calls Tryz.prog 114 #[.agg #[.int .u8 sa, .bool true, .int .u64 na, .int .i64 pa]] w fun e w' => e = .returned (.bool false) ∧ Below w.heap.size w w') → (∀ w, Calls Tryz.prog 114 #[.agg #[.int .u8 sb, .bool mb, .int .u64 nb, .int .i64 pb]] w fun e w' => e = .returned (.bool z2) ∧ Below w.heap.size w w') → (∀ w, Calls Tryz.prog 115 #[.agg #[.int .u8 sa, .bool true, .int .u64 na, .int .i64 pa]] w fun e w' => e = .returned (.int .i64 X) ∧ Below w.heap.size w w') → (∀ w, Calls Tryz.prog 115 #[.agg #[.int .u8 sb, .bool mb, .int .u64 nb, .int .i64 pb]] w fun e w' => e = .returned (.int .i64 Y) ∧ Below w.heap.size w w') → (∀ w, Calls Tryz.prog 116 #[.agg #[.int .u8 sa, .bool true, .int .u64 na, .int .i64 pa], .agg #[.int .u8 sb, .bool mb, .int .u64 nb, .int .i64 pb]] w fun e w' => e = .returned (.int .i64 Z) ∧ Below w.heap.size w w') → (X = Y) → (-2 ≤ Z) → (Z ≤ 2) → (Z < 0) → Calls Tryz.prog 99 #[.agg #[.int .u8 sa, .bool true, .int .u64 na, .int .i64 pa], .agg #[.int .u8 sb, .bool mb, .int .u64 nb, .int .i64 pb]] w fun e w' => e = .returned (.int .u8 4) ∧ Below w.heap.size w w') ∧
   (∀ (sa : Int) (na pa : Int) (sb : Int) (mb : Bool) (nb pb : Int) (X Y : Int) (Z : Int) (z2 : Bool) (w : World), ((sa == 1) = false) → ((sb == 1) = false) → (∀ w, Calls Tryz.prog 114 #[.agg #[.int .u8 sa, .bool true, .int .u64 na, .int .i64 pa]] w fun e w' => e = .returned (.bool false) ∧ Below w.heap.size w w') → (∀ w, Calls Tryz.prog 114 #[.agg #[.int .u8 sb, .bool mb, .int .u64 nb, .int .i64 pb]] w fun e w' => e = .returned (.bool z2) ∧ Below w.heap.size w w') → (∀ w, Calls Tryz.prog 115 #[.agg #[.int .u8 sa, .bool true, .int .u64 na, .int .i64 pa]] w fun e w' => e = .returned (.int .i64 X) ∧ Below w.heap.size w w') → (∀ w, Calls Tryz.prog 115 #[.agg #[.int .u8 sb, .bool mb, .int .u64 nb, .int .i64 pb]] w fun e w' => e = .returned (.int .i64 Y) ∧ Below w.heap.size w w') → (∀ w, Calls Tryz.prog 116 #[.agg #[.int .u8 sa, .bool true, .int .u64 na, .int .i64 pa], .agg #[.int .u8 sb, .bool mb, .int .u64 nb, .int .i64 pb]] w fun e w' => e = .returned (.int .i64 Z) ∧ Below w.heap.size w w') → (X = Y) → (-2 ≤ Z) → (Z ≤ 2) → (Z = 0) → Calls Tryz.prog 99 #[.agg #[.int .u8 sa, .bool true, .int .u64 na, .int .i64 pa], .agg #[.int .u8 sb, .bool mb, .int .u64 nb, .int .i64 pb]] w fun e w' => e = .returned (.int .u8 3) ∧ Below w.heap.size w w') ∧
   (∀ (sa : Int) (na pa : Int) (sb : Int) (mb : Bool) (nb pb : Int) (X Y : Int) (Z : Int) (z2 : Bool) (w : World), ((sa == 1) = false) → ((sb == 1) = false) → (∀ w, Calls Tryz.prog 114 #[.agg #[.int .u8 sa, .bool true, .int .u64 na, .int .i64 pa]] w fun e w' => e = .returned (.bool false) ∧ Below w.heap.size w w') → (∀ w, Calls Tryz.prog 114 #[.agg #[.int .u8 sb, .bool mb, .int .u64 nb, .int .i64 pb]] w fun e w' => e = .returned (.bool z2) ∧ Below w.heap.size w w') → (∀ w, Calls Tryz.prog 115 #[.agg #[.int .u8 sa, .bool true, .int .u64 na, .int .i64 pa]] w fun e w' => e = .returned (.int .i64 X) ∧ Below w.heap.size w w') → (∀ w, Calls Tryz.prog 115 #[.agg #[.int .u8 sb, .bool mb, .int .u64 nb, .int .i64 pb]] w fun e w' => e = .returned (.int .i64 Y) ∧ Below w.heap.size w w') → (∀ w, Calls Tryz.prog 116 #[.agg #[.int .u8 sa, .bool true, .int .u64 na, .int .i64 pa], .agg #[.int .u8 sb, .bool mb, .int .u64 nb, .int .i64 pb]] w fun e w' => e = .returned (.int .i64 Z) ∧ Below w.heap.size w w') → (X = Y) → (-2 ≤ Z) → (Z ≤ 2) → (0 < Z) → Calls Tryz.prog 99 #[.agg #[.int .u8 sa, .bool true, .int .u64 na, .int .i64 pa], .agg #[.int .u8 sb, .bool mb, .int .u64 nb, .int .i64 pb]] w fun e w' => e = .returned (.int .u8 2) ∧ Below w.heap.size w w') := by
 refine ⟨?_, ?_, ?_⟩
 all_goals intro sa na pa sb mb nb pb X Y Z z2 w ha hb hi1 hi2 hs1 hs2 hbk hxy hZl hZh h
 all_goals (have HI1 : Hid _ := hi1)
 all_goals (have HI2 : Hid _ := hi2)
 all_goals (have HS1 : Hid _ := hs1)
 all_goals (have HS2 : Hid _ := hs2)
 all_goals (have HBK : Hid _ := hbk)
 all_goals (clear hi1 hi2 hs1 hs2 hbk)
 all_goals (have hne : (X != Y) = false := by simp [hxy])
 all_goals (have hZ1 : -2 ≤ Z := hZl)
 have h' : ¬ 0 < Z := by omega
 rotate_left
 subst h
 rotate_left
 have h' : ¬ Z < 0 := by omega
 rotate_left
 all_goals (have HB : Below ((w.alloc (oV sa true na pa)).alloc (oV sb mb nb pb)).heap.size ((w.alloc (oV sa true na pa)).alloc (oV sb mb nb pb)) ((w.alloc (oV sa true na pa)).alloc (oV sb mb nb pb)) := Below.refl _ _)
 all_goals (have HW : Hid (Below w.heap.size w ((w.alloc (oV sa true na pa)).alloc (oV sb mb nb pb))) := bel (bel (Below.refl _ _)))
 all_goals (go_enter Tryz.func99, Tryz.ntmps99)
 all_goals (
   go_wp2_with (first
     | (go_at_call 114; with_reducible refine (HI1.out _).mono ?_; rintro e w1 ⟨rfl, hb1⟩; replace HB := bt2 hb1 (show Below ((w.alloc (oV sa true na pa)).alloc (oV sb mb nb pb)).heap.size ((w.alloc (oV sa true na pa)).alloc (oV sb mb nb pb)) _ from by (repeat (first | exact HB | exact Below.refl _ _ | with_reducible first | refine bel ?_ | refine Below.drew ?_ | refine bt3 ?_))); obtain ⟨c0, c1, c2, c3, c4, c5, c6, c7⟩ := gF HB)
     | (go_at_call 114; with_reducible refine (HI2.out _).mono ?_; rintro e w1 ⟨rfl, hb1⟩; replace HB := bt2 hb1 (show Below ((w.alloc (oV sa true na pa)).alloc (oV sb mb nb pb)).heap.size ((w.alloc (oV sa true na pa)).alloc (oV sb mb nb pb)) _ from by (repeat (first | exact HB | exact Below.refl _ _ | with_reducible first | refine bel ?_ | refine Below.drew ?_ | refine bt3 ?_))); obtain ⟨c0, c1, c2, c3, c4, c5, c6, c7⟩ := gF HB)
     | (go_at_call 115; with_reducible refine (HS1.out _).mono ?_; rintro e w1 ⟨rfl, hb1⟩; replace HB := bt2 hb1 (show Below ((w.alloc (oV sa true na pa)).alloc (oV sb mb nb pb)).heap.size ((w.alloc (oV sa true na pa)).alloc (oV sb mb nb pb)) _ from by (repeat (first | exact HB | exact Below.refl _ _ | with_reducible first | refine bel ?_ | refine Below.drew ?_ | refine bt3 ?_))); obtain ⟨c0, c1, c2, c3, c4, c5, c6, c7⟩ := gF HB)
     | (go_at_call 115; with_reducible refine (HS2.out _).mono ?_; rintro e w1 ⟨rfl, hb1⟩; replace HB := bt2 hb1 (show Below ((w.alloc (oV sa true na pa)).alloc (oV sb mb nb pb)).heap.size ((w.alloc (oV sa true na pa)).alloc (oV sb mb nb pb)) _ from by (repeat (first | exact HB | exact Below.refl _ _ | with_reducible first | refine bel ?_ | refine Below.drew ?_ | refine bt3 ?_))); obtain ⟨c0, c1, c2, c3, c4, c5, c6, c7⟩ := gF HB)
     | (go_at_call 116; with_reducible refine (HBK.out _).mono ?_; rintro e w1 ⟨rfl, hb1⟩; replace HB := bt2 hb1 (show Below ((w.alloc (oV sa true na pa)).alloc (oV sb mb nb pb)).heap.size ((w.alloc (oV sa true na pa)).alloc (oV sb mb nb pb)) _ from by (repeat (first | exact HB | exact Below.refl _ _ | with_reducible first | refine bel ?_ | refine Below.drew ?_ | refine bt3 ?_))); obtain ⟨c0, c1, c2, c3, c4, c5, c6, c7⟩ := gF HB)))
 all_goals (go_ret)
 all_goals (exact ⟨rfl, HW.out.trans (HB.mono HW.out.size)⟩)
abbrev stEtl := stEtA.1
abbrev stEtz := stEtA.2.1
abbrev stEtg := stEtA.2.2
end Go.Proofs.YtibhlcfligfhdaaGreat
namespace Go.Proofs.YtibhlcfligfhdaaGreat
open Go.RowKit
set_option maxRecDepth 100000
set_option maxRecDepth 100000 in
set_option maxHeartbeats 1000000 in
theorem st_n1 (sb : Int) (mb : Bool) (nb pb : Int) (w : World) :
   Calls Tryz.prog 99 #[.agg #[.int .u8 1, .bool false, .int .u64 0, .int .i64 0], .agg #[.int .u8 sb, .bool mb, .int .u64 nb, .int .i64 pb]] w fun e w' => e = .returned (.int .u8 1) ∧ Below w.heap.size w w' := by
 go_enter Tryz.func99, Tryz.ntmps99
 go_wp2
 go_ret
 exact ⟨rfl, bel (bel (Below.refl _ _))⟩
set_option maxRecDepth 100000 in
set_option maxHeartbeats 1000000 in
theorem st_n2 (sa : Int) (ma : Bool) (na pa : Int) (w : World) (h : (sa == 1) = false) :
   Calls Tryz.prog 99 #[.agg #[.int .u8 sa, .bool ma, .int .u64 na, .int .i64 pa], .agg #[.int .u8 1, .bool false, .int .u64 0, .int .i64 0]] w fun e w' => e = .returned (.int .u8 1) ∧ Below w.heap.size w w' := by
 go_enter Tryz.func99, Tryz.ntmps99
 go_wp2
 go_ret
 exact ⟨rfl, bel (bel (Below.refl _ _))⟩
set_option maxRecDepth 100000 in
set_option maxHeartbeats 1000000 in
theorem bulkE (ma mb : Bool) (w : World) :
   Calls Tryz.prog 116 #[.agg #[.int .u8 2, .bool ma, .int .u64 0, .int .i64 0], .agg #[.int .u8 2, .bool mb, .int .u64 0, .int .i64 0]] w fun e w' => e = .returned (.int .i64 0) ∧ Below w.heap.size w w' := by
 go_enter Tryz.func116, Tryz.ntmps116
 go_wp2
 go_ret
 exact ⟨rfl, bel (bel (Below.refl _ _))⟩
def ps (a : Nat) : Int := if a % 2147483648 = 2139095040 then 2 else 3
def pn (a : Nat) : Nat := if a % 2147483648 = 2139095040 then 0 else rdm a
def pp (a : Nat) : Int := if a % 2147483648 = 2139095040 then 0 else -149 + (rdk a : Int)
theorem tv_ok {a : Nat} (h : ok a = true) : tv a = .agg #[.int .u8 (ps a), .bool (sg a), .int .u64 (pn a), .int .i64 (pp a)] := by
 unfold tv ps pn pp
 rw [if_neg (by simp [h])]
 split <;> rfl
def lv (a : Nat) : Int := if a % 2147483648 = 0 then 0 else (if sg a then -1 else 1) * (if a % 2147483648 = 2139095040 then 2 else 1)
theorem lv_cases (a : Nat) (hz : a % 2147483648 ≠ 0) : (sg a = false ∧ a % 2147483648 = 2139095040 ∧ lv a = 2) ∨ (sg a = false ∧ a % 2147483648 ≠ 2139095040 ∧ lv a = 1) ∨ (sg a = true ∧ a % 2147483648 = 2139095040 ∧ lv a = -2) ∨ (sg a = true ∧ a % 2147483648 ≠ 2139095040 ∧ lv a = -1) := by
 unfold lv
 rw [if_neg hz]
 by_cases hi : a % 2147483648 = 2139095040
 · rw [if_pos hi]
   cases sg a
   · exact Or.inl ⟨rfl, hi, rfl⟩
   · exact Or.inr (Or.inr (Or.inl ⟨rfl, hi, rfl⟩))
 · rw [if_neg hi]
   cases sg a
   · exact Or.inr (Or.inl ⟨rfl, hi, rfl⟩)
   · exact Or.inr (Or.inr (Or.inr ⟨rfl, hi, rfl⟩))
theorem rdm_zero (a : Nat) : rdm a = 0 ↔ a % 2147483648 = 0 := by
 unfold rdm; split <;> omega
theorem isn_any (a : Nat) (_ : ok a = true) (w : World) :
   Calls Tryz.prog 114 #[.agg #[.int .u8 (ps a), .bool (sg a), .int .u64 (pn a), .int .i64 (pp a)]] w fun e w' => e = .returned (.bool (decide (a % 2147483648 = 0))) ∧ Below w.heap.size w w' := by
 unfold ps pn pp
 by_cases hi : a % 2147483648 = 2139095040
 · rw [if_pos hi, if_pos hi, if_pos hi, decide_eq_false (by omega)]; exact isn2 _ w
 · rw [if_neg hi, if_neg hi, if_neg hi]
   by_cases hz : a % 2147483648 = 0
   · rw [decide_eq_true hz, (rdm_zero a).2 hz]; exact isn3z _ _ w
   · rw [decide_eq_false hz]
     exact isn3 _ _ _ w (by rw [beq_eq_false_iff_ne]; have := mt (rdm_zero a).1 hz; omega)
theorem sgn_any (a : Nat) (_ : ok a = true) (w : World) :
   Calls Tryz.prog 115 #[.agg #[.int .u8 (ps a), .bool (sg a), .int .u64 (pn a), .int .i64 (pp a)]] w fun e w' => e = .returned (.int .i64 (lv a)) ∧ Below w.heap.size w w' := by
 unfold ps pn pp lv
 by_cases hi : a % 2147483648 = 2139095040
 · rw [if_pos hi, if_pos hi, if_pos hi, if_pos hi, if_neg (by omega)]
   cases sg a
   · exact sg2f w
   · exact sg2t w
 · rw [if_neg hi, if_neg hi, if_neg hi, if_neg hi]
   by_cases hz : a % 2147483648 = 0
   · rw [if_pos hz, (rdm_zero a).2 hz]; exact sg3z _ _ w
   · have hn : ((rdm a : Int) == 0) = false := by rw [beq_eq_false_iff_ne]; have := mt (rdm_zero a).1 hz; omega
     rw [if_neg hz]
     cases sg a
     · exact sg3f _ _ hn w
     · exact sg3t _ _ hn w
theorem rd_val (a : Nat) : rdm a * 2 ^ rdk a = val (a % 2147483648) := by
 unfold rdm rdk val
 split
 · simp
 · rw [show a % 2147483648 % 8388608 = a % 8388608 by omega]
theorem bulk_fin (a b : Nat) (fa : a % 2147483648 < 2139095040) (fb : b % 2147483648 < 2139095040) (w : World) :
   Calls Tryz.prog 116 #[.agg #[.int .u8 (ps a), .bool (sg a), .int .u64 (pn a), .int .i64 (pp a)], .agg #[.int .u8 (ps b), .bool (sg b), .int .u64 (pn b), .int .i64 (pp b)]] w fun e w' => e = .returned (.int .i64 (ag (a % 2147483648) (b % 2147483648))) ∧ Below w.heap.size w w' := by
 unfold ps pn pp
 rw [if_neg (by omega), if_neg (by omega), if_neg (by omega), if_neg (by omega), if_neg (by omega), if_neg (by omega)]
 obtain ⟨ka, na⟩ := rd_k fa
 obtain ⟨kb, nb⟩ := rd_k fb
 have hag : ∀ X Y q : Nat, rdk a = X + q → rdk b = Y + q → ag (rdm a * 2 ^ X) (rdm b * 2 ^ Y) = ag (a % 2147483648) (b % 2147483648) := by
   intro X Y q h1 h2
   have e1 : rdm a * 2 ^ X * 2 ^ q = val (a % 2147483648) := by rw [Nat.mul_assoc, ← Nat.pow_add, ← h1]; exact rd_val a
   have e2 : rdm b * 2 ^ Y * 2 ^ q = val (b % 2147483648) := by rw [Nat.mul_assoc, ← Nat.pow_add, ← h2]; exact rd_val b
   have hp := Nat.two_pow_pos q
   have l1 : rdm a * 2 ^ X < rdm b * 2 ^ Y ↔ a % 2147483648 < b % 2147483648 := by
     rw [← val_lt_iff (a % 2147483648) (b % 2147483648), ← e1, ← e2]; exact (Nat.mul_lt_mul_right hp).symm
   have l2 : rdm b * 2 ^ Y < rdm a * 2 ^ X ↔ b % 2147483648 < a % 2147483648 := by
     rw [← val_lt_iff (b % 2147483648) (a % 2147483648), ← e1, ← e2]; exact (Nat.mul_lt_mul_right hp).symm
   unfold ag
   split <;> split <;> (try split) <;> first | rfl | omega
 by_cases ho : (-149 + (rdk b : Int)) < -149 + (rdk a : Int)
 · rw [← hag (rdk a - rdk b) 0 (rdk b) (by omega) (by omega)]
   exact bulkL _ _ _ _ _ _ _ _ w na nb (by omega) (by omega) (by omega) (by omega) ho (by omega) rfl
 · rw [← hag 0 (rdk b - rdk a) (rdk a) (by omega) (by omega)]
   exact bulkG _ _ _ _ _ _ _ _ w na nb (by omega) (by omega) (by omega) (by omega) ho rfl (by omega)
theorem key_sg (a : Nat) (h : a < 4294967296) : key a = if sg a then -((a % 2147483648 : Nat) : Int) else ((a % 2147483648 : Nat) : Int) := by
 unfold key sg
 by_cases h' : 2147483648 ≤ a
 · rw [if_neg (by omega), decide_eq_true h']; rfl
 · rw [if_pos (by omega), decide_eq_false h']; simp; omega
set_option maxHeartbeats 1000000 in
theorem standv_any (a b : Nat) (w : World) (ha : a < 4294967296) (hb : b < 4294967296) :
   Calls Tryz.prog 99 #[tv a, tv b] w fun e w' => e = .returned (.int .u8 (fstand a b)) ∧ Below w.heap.size w w' := by
 cases oa : ok a with
 | false =>
   have e1 : fstand a b = 1 := by exact fstand_nan (Or.inl oa)
   rw [e1, tv_none oa]
   cases ob : ok b with
   | false => rw [tv_none ob]; exact st_n1 _ _ _ _ w
   | true => rw [tv_ok ob]; exact st_n1 _ _ _ _ w
 | true =>
 cases ob : ok b with
 | false =>
   have e1 : fstand a b = 1 := by exact fstand_nan (Or.inr ob)
   rw [e1, tv_none ob, tv_ok oa]
   exact st_n2 _ _ _ _ w (by rw [beq_eq_false_iff_ne]; unfold ps; split <;> omega)
 | true =>
 have hsa : (ps a == 1) = false := by rw [beq_eq_false_iff_ne]; unfold ps; split <;> omega
 have hsb : (ps b == 1) = false := by rw [beq_eq_false_iff_ne]; unfold ps; split <;> omega
 have ma := ok_mod oa
 have mb := ok_mod ob
 rw [fstand_key a b ha hb oa ob, tv_ok oa, tv_ok ob]
 have k1 := key_sg a ha
 have k2 := key_sg b hb
 have i1 := isn_any a oa
 have i2 := isn_any b ob
 have s1 := sgn_any a oa
 have s2 := sgn_any b ob
 have lva : lv a = if a % 2147483648 = 0 then 0 else (if sg a then -1 else 1) * (if a % 2147483648 = 2139095040 then 2 else 1) := rfl
 have lvb : lv b = if b % 2147483648 = 0 then 0 else (if sg b then -1 else 1) * (if b % 2147483648 = 2139095040 then 2 else 1) := rfl
 by_cases za : a % 2147483648 = 0
 · rw [decide_eq_true za] at i1
   by_cases zb : b % 2147483648 = 0
   · rw [decide_eq_true zb] at i2
     have e : key a = 0 ∧ key b = 0 := by rw [k1, k2, za, zb]; exact ⟨by split <;> rfl, by split <;> rfl⟩
     rw [if_neg (by omega), if_pos (by omega)]
     exact stZ _ _ _ _ _ _ _ _ _ _ w hsa hsb i1 i2 s1 s2
   · rw [decide_eq_false zb] at i2
     rw [if_pos za] at lva
     rw [if_neg zb] at lvb
     have hka : key a = 0 := by rw [k1, za]; split <;> rfl
     by_cases hs : sg b = true
     · rw [hs] at k2 lvb
       simp only [if_true] at k2 lvb
       have hl : lv b < lv a := by rw [lva, lvb]; split <;> omega
       rw [if_neg (by omega), if_neg (by omega)]
       exact stGb _ _ _ _ _ _ _ _ _ _ w hsa hsb i1 i2 s1 s2 hl
     · have hs' : sg b = false := by simpa using hs
       rw [hs'] at k2 lvb
       simp only [Bool.false_eq_true, if_false] at k2 lvb
       have hl : lv a < lv b := by rw [lva, lvb]; split <;> omega
       rw [if_pos (by omega)]
       exact stLb _ _ _ _ _ _ _ _ _ _ w hsa hsb i1 i2 s1 s2 hl
 · rw [decide_eq_false za] at i1
   rw [if_neg za] at lva
   rcases Int.lt_trichotomy (lv a) (lv b) with hl | hl | hl
   · have hk : key a < key b := by
       rw [k1, k2]
       rw [lva, lvb] at hl
       revert hl
       cases sg a <;> cases sg b <;> simp only [Bool.false_eq_true, if_false, if_true] <;> (repeat' split) <;> omega
     rw [if_pos hk]
     exact stLa _ _ _ _ _ _ _ _ _ _ _ w hsa hsb i1 i2 s1 s2 hl
   · have zb : b % 2147483648 ≠ 0 := by
       intro zb
       rcases lv_cases a za with ⟨_, _, e⟩ | ⟨_, _, e⟩ | ⟨_, _, e⟩ | ⟨_, _, e⟩ <;> rw [e, lvb, if_pos zb] at hl <;> omega
     have hsg : sg a = sg b ∧ (a % 2147483648 = 2139095040 ↔ b % 2147483648 = 2139095040) := by
       rcases lv_cases a za with ⟨x1, x2, x3⟩ | ⟨x1, x2, x3⟩ | ⟨x1, x2, x3⟩ | ⟨x1, x2, x3⟩ <;> rcases lv_cases b zb with ⟨y1, y2, y3⟩ | ⟨y1, y2, y3⟩ | ⟨y1, y2, y3⟩ | ⟨y1, y2, y3⟩ <;> first | exact ⟨x1.trans y1.symm, ⟨fun h => by omega, fun h => by omega⟩⟩ | omega
     obtain ⟨hsg, hinf⟩ := hsg
     by_cases hi : a % 2147483648 = 2139095040
     · have hj := hinf.1 hi
       have e : key a = key b := by rw [k1, k2, hsg, hi, hj]
       rw [if_neg (by omega), if_pos e]
       have hbk : ∀ w, Calls Tryz.prog 116 #[.agg #[.int .u8 (ps a), .bool (sg a), .int .u64 (pn a), .int .i64 (pp a)], .agg #[.int .u8 (ps b), .bool (sg b), .int .u64 (pn b), .int .i64 (pp b)]] w fun e w' => e = .returned (.int .i64 0) ∧ Below w.heap.size w w' := by
         intro w
         unfold ps pn pp
         rw [if_pos hi, if_pos hi, if_pos hi, if_pos hj, if_pos hj, if_pos hj]
         exact bulkE _ _ w
       cases hm : sg a with
       | false => rw [hm] at i1 s1 hbk; exact stEfz _ _ _ _ _ _ _ _ _ 0 _ w hsa hsb i1 i2 s1 s2 hbk hl (by omega) (by omega) rfl
       | true => rw [hm] at i1 s1 hbk; exact stEtz _ _ _ _ _ _ _ _ _ 0 _ w hsa hsb i1 i2 s1 s2 hbk hl (by omega) (by omega) rfl
     · have hbk := bulk_fin a b (by omega) (by omega)
       rcases Nat.lt_trichotomy (a % 2147483648) (b % 2147483648) with hc | hc | hc
       · rw [ag_lt hc] at hbk
         cases hm : sg a with
         | false =>
           rw [hm] at i1 s1 hbk k1 hsg
           rw [← hsg] at k2
           simp only [Bool.false_eq_true, if_false] at k1 k2
           rw [if_pos (by omega)]
           exact stEfl _ _ _ _ _ _ _ _ _ (-1) _ w hsa hsb i1 i2 s1 s2 hbk hl (by omega) (by omega) (by omega)
         | true =>
           rw [hm] at i1 s1 hbk k1 hsg
           rw [← hsg] at k2
           simp only [if_true] at k1 k2
           rw [if_neg (by omega), if_neg (by omega)]
           exact stEtl _ _ _ _ _ _ _ _ _ (-1) _ w hsa hsb i1 i2 s1 s2 hbk hl (by omega) (by omega) (by omega)
       · rw [hc, ag_eq] at hbk
         have e : key a = key b := by rw [k1, k2, hsg, hc]
         rw [if_neg (by omega), if_pos e]
         cases hm : sg a with
         | false => rw [hm] at i1 s1 hbk; exact stEfz _ _ _ _ _ _ _ _ _ 0 _ w hsa hsb i1 i2 s1 s2 hbk hl (by omega) (by omega) rfl
         | true => rw [hm] at i1 s1 hbk; exact stEtz _ _ _ _ _ _ _ _ _ 0 _ w hsa hsb i1 i2 s1 s2 hbk hl (by omega) (by omega) rfl
       · rw [ag_gt hc] at hbk
         cases hm : sg a with
         | false =>
           rw [hm] at i1 s1 hbk k1 hsg
           rw [← hsg] at k2
           simp only [Bool.false_eq_true, if_false] at k1 k2
           rw [if_neg (by omega), if_neg (by omega)]
           exact stEfg _ _ _ _ _ _ _ _ _ 1 _ w hsa hsb i1 i2 s1 s2 hbk hl (by omega) (by omega) (by omega)
         | true =>
           rw [hm] at i1 s1 hbk k1 hsg
           rw [← hsg] at k2
           simp only [if_true] at k1 k2
           rw [if_pos (by omega)]
           exact stEtg _ _ _ _ _ _ _ _ _ 1 _ w hsa hsb i1 i2 s1 s2 hbk hl (by omega) (by omega) (by omega)
   · have hk : key b < key a := by
       rw [k1, k2]
       rw [lva, lvb] at hl
       revert hl
       cases sg a <;> cases sg b <;> simp only [Bool.false_eq_true, if_false, if_true] <;> (repeat' split) <;> omega
     rw [if_neg (by omega), if_neg (by omega)]
     exact stGa _ _ _ _ _ _ _ _ _ _ _ w hsa hsb i1 i2 s1 s2 hl
set_option maxRecDepth 100000 in
set_option maxHeartbeats 1000000 in
theorem stands_any (a b : Nat) (w : World) (ha : a < 4294967296) (hb : b < 4294967296) :
   Calls Tryz.prog 82 #[.int .u32 a, .int .u32 b] w fun e w' => e = .returned (.int .u8 (fstand a b)) ∧ Below w.heap.size w w' := by
 have HB : Below w.heap.size w w := Below.refl _ _
 go_enter Tryz.func82, Tryz.ntmps82
 go_wp2_with (first
   | (go_at_call 100; with_reducible refine (take_any a _ ha).mono ?_; rintro e w1 ⟨rfl, h1⟩; replace HB : Below w.heap.size w w1 := bt2 h1 (by apply_rules [HB, Below.refl, bel, Below.drew, bt3]))
   | (go_at_call 100; with_reducible refine (take_any b _ hb).mono ?_; rintro e w1 ⟨rfl, h1⟩; replace HB : Below w.heap.size w w1 := bt2 h1 (by apply_rules [HB, Below.refl, bel, Below.drew, bt3]))
   | (go_at_call 99; with_reducible refine (standv_any a b _ ha hb).mono ?_; rintro e w1 ⟨rfl, h1⟩; replace HB : Below w.heap.size w w1 := bt2 h1 (by apply_rules [HB, Below.refl, bel, Below.drew, bt3])))
 go_ret
 exact ⟨rfl, HB⟩
end Go.Proofs.YtibhlcfligfhdaaGreat
namespace Go.Proofs.YtibhlcfligfhdaaGreat
open Go.RowKit
set_option maxRecDepth 100000
theorem btwH {a W w1 : World} (h : Below W.heap.size W w1) (h' : Below a.heap.size a W) : Below a.heap.size a w1 := h'.trans (h.mono h'.size)
set_option maxRecDepth 100000 in
set_option maxHeartbeats 40000000 in
theorem rhA :
   (∀ (a b : Nat) (x y : Int) (w : World), (∀ w, Calls Tryz.prog 80 #[.int .u32 a] w fun e w' => e = .returned (.int .i64 x) ∧ w' = w) → (∀ w, Calls Tryz.prog 80 #[.int .u32 b] w fun e w' => e = .returned (.int .i64 y) ∧ w' = w) → Calls Tryz.prog 71 #[.int .u8 13, .int .u32 a, .int .u32 b] w fun e w' => e = .returned (.tuple #[.bool (decide (a = b)), .int .i64 0]) ∧ w' = w) ∧
   (∀ (a b : Nat) (x y : Int) (w : World), (∀ w, Calls Tryz.prog 80 #[.int .u32 a] w fun e w' => e = .returned (.int .i64 x) ∧ w' = w) → (∀ w, Calls Tryz.prog 80 #[.int .u32 b] w fun e w' => e = .returned (.int .i64 y) ∧ w' = w) → Calls Tryz.prog 71 #[.int .u8 14, .int .u32 a, .int .u32 b] w fun e w' => e = .returned (.tuple #[.bool (decide (a ≠ b)), .int .i64 0]) ∧ w' = w) ∧
   (∀ (a b : Nat) (x y : Int) (w : World), (∀ w, Calls Tryz.prog 80 #[.int .u32 a] w fun e w' => e = .returned (.int .i64 x) ∧ w' = w) → (∀ w, Calls Tryz.prog 80 #[.int .u32 b] w fun e w' => e = .returned (.int .i64 y) ∧ w' = w) → Calls Tryz.prog 71 #[.int .u8 15, .int .u32 a, .int .u32 b] w fun e w' => e = .returned (.tuple #[.bool (decide (x < y)), .int .i64 0]) ∧ w' = w) ∧
   (∀ (a b : Nat) (x y : Int) (w : World), (∀ w, Calls Tryz.prog 80 #[.int .u32 a] w fun e w' => e = .returned (.int .i64 x) ∧ w' = w) → (∀ w, Calls Tryz.prog 80 #[.int .u32 b] w fun e w' => e = .returned (.int .i64 y) ∧ w' = w) → Calls Tryz.prog 71 #[.int .u8 16, .int .u32 a, .int .u32 b] w fun e w' => e = .returned (.tuple #[.bool (decide (x ≤ y)), .int .i64 0]) ∧ w' = w) ∧
   (∀ (a b : Nat) (x y : Int) (w : World), (∀ w, Calls Tryz.prog 80 #[.int .u32 a] w fun e w' => e = .returned (.int .i64 x) ∧ w' = w) → (∀ w, Calls Tryz.prog 80 #[.int .u32 b] w fun e w' => e = .returned (.int .i64 y) ∧ w' = w) → Calls Tryz.prog 71 #[.int .u8 17, .int .u32 a, .int .u32 b] w fun e w' => e = .returned (.tuple #[.bool (decide (y < x)), .int .i64 0]) ∧ w' = w) ∧
   (∀ (a b : Nat) (x y : Int) (w : World), (∀ w, Calls Tryz.prog 80 #[.int .u32 a] w fun e w' => e = .returned (.int .i64 x) ∧ w' = w) → (∀ w, Calls Tryz.prog 80 #[.int .u32 b] w fun e w' => e = .returned (.int .i64 y) ∧ w' = w) → Calls Tryz.prog 71 #[.int .u8 18, .int .u32 a, .int .u32 b] w fun e w' => e = .returned (.tuple #[.bool (decide (y ≤ x)), .int .i64 0]) ∧ w' = w) ∧
   (∀ (a b : Nat) (x y : Int) (w : World), (∀ w, Calls Tryz.prog 80 #[.int .u32 a] w fun e w' => e = .returned (.int .i64 x) ∧ w' = w) → (∀ w, Calls Tryz.prog 80 #[.int .u32 b] w fun e w' => e = .returned (.int .i64 y) ∧ w' = w) → Calls Tryz.prog 71 #[.int .u8 19, .int .u32 a, .int .u32 b] w fun e w' => e = .returned (.tuple #[.bool (decide (a < b)), .int .i64 0]) ∧ w' = w) ∧
   (∀ (a b : Nat) (x y : Int) (w : World), (∀ w, Calls Tryz.prog 80 #[.int .u32 a] w fun e w' => e = .returned (.int .i64 x) ∧ w' = w) → (∀ w, Calls Tryz.prog 80 #[.int .u32 b] w fun e w' => e = .returned (.int .i64 y) ∧ w' = w) → Calls Tryz.prog 71 #[.int .u8 20, .int .u32 a, .int .u32 b] w fun e w' => e = .returned (.tuple #[.bool (decide (a ≤ b)), .int .i64 0]) ∧ w' = w) ∧
   (∀ (a b : Nat) (x y : Int) (w : World), (∀ w, Calls Tryz.prog 80 #[.int .u32 a] w fun e w' => e = .returned (.int .i64 x) ∧ w' = w) → (∀ w, Calls Tryz.prog 80 #[.int .u32 b] w fun e w' => e = .returned (.int .i64 y) ∧ w' = w) → Calls Tryz.prog 71 #[.int .u8 21, .int .u32 a, .int .u32 b] w fun e w' => e = .returned (.tuple #[.bool (decide (b < a)), .int .i64 0]) ∧ w' = w) ∧
   (∀ (a b : Nat) (x y : Int) (w : World), (∀ w, Calls Tryz.prog 80 #[.int .u32 a] w fun e w' => e = .returned (.int .i64 x) ∧ w' = w) → (∀ w, Calls Tryz.prog 80 #[.int .u32 b] w fun e w' => e = .returned (.int .i64 y) ∧ w' = w) → Calls Tryz.prog 71 #[.int .u8 22, .int .u32 a, .int .u32 b] w fun e w' => e = .returned (.tuple #[.bool (decide (b ≤ a)), .int .i64 0]) ∧ w' = w) := by
 refine ⟨?_, ?_, ?_, ?_, ?_, ?_, ?_, ?_, ?_, ?_⟩
 all_goals intro a b x y w s0 s1
 all_goals (go_enter Tryz.func71, Tryz.ntmps71)
 all_goals (
   go_wp2_with (first
     | (go_at_call 80; with_reducible refine (s0 _).mono ?_; rintro e wq ⟨rfl, hq⟩; subst wq)
     | (go_at_call 80; with_reducible refine (s1 _).mono ?_; rintro e wq ⟨rfl, hq⟩; subst wq)))
 all_goals (simp [bodyPost, results, Tryz.results71])
 exact beq_cast a b
 rw [bne, beq_cast]
abbrev rh_eq := rhA.1
abbrev rh_ne := rhA.2.1
abbrev rh_lti := rhA.2.2.1
abbrev rh_lei := rhA.2.2.2.1
abbrev rh_gti := rhA.2.2.2.2.1
abbrev rh_gei := rhA.2.2.2.2.2.1
abbrev rh_ltu := rhA.2.2.2.2.2.2.1
abbrev rh_leu := rhA.2.2.2.2.2.2.2.1
abbrev rh_gtu := rhA.2.2.2.2.2.2.2.2.1
abbrev rh_geu := rhA.2.2.2.2.2.2.2.2.2
set_option maxRecDepth 100000 in
set_option maxHeartbeats 40000000 in
theorem rhB :
   (∀ (s : Nat) (w : World), (s = 1 ∨ s = 2 ∨ s = 3 ∨ s = 4) → Calls Tryz.prog 81 #[.int .u8 23, .int .u8 s] w fun e w' => e = .returned (.tuple #[.bool (decide (s = 3)), .int .i64 0]) ∧ w' = w) ∧
   (∀ (s : Nat) (w : World), (s = 1 ∨ s = 2 ∨ s = 3 ∨ s = 4) → Calls Tryz.prog 81 #[.int .u8 24, .int .u8 s] w fun e w' => e = .returned (.tuple #[.bool (!decide (s = 3)), .int .i64 0]) ∧ w' = w) ∧
   (∀ (s : Nat) (w : World), (s = 1 ∨ s = 2 ∨ s = 3 ∨ s = 4) → Calls Tryz.prog 81 #[.int .u8 25, .int .u8 s] w fun e w' => e = .returned (.tuple #[.bool (decide (s = 2)), .int .i64 0]) ∧ w' = w) ∧
   (∀ (s : Nat) (w : World), (s = 1 ∨ s = 2 ∨ s = 3 ∨ s = 4) → Calls Tryz.prog 81 #[.int .u8 26, .int .u8 s] w fun e w' => e = .returned (.tuple #[.bool ((decide (s = 2) || decide (s = 3))), .int .i64 0]) ∧ w' = w) ∧
   (∀ (s : Nat) (w : World), (s = 1 ∨ s = 2 ∨ s = 3 ∨ s = 4) → Calls Tryz.prog 81 #[.int .u8 27, .int .u8 s] w fun e w' => e = .returned (.tuple #[.bool (decide (s = 4)), .int .i64 0]) ∧ w' = w) ∧
   (∀ (s : Nat) (w : World), (s = 1 ∨ s = 2 ∨ s = 3 ∨ s = 4) → Calls Tryz.prog 81 #[.int .u8 28, .int .u8 s] w fun e w' => e = .returned (.tuple #[.bool ((decide (s = 4) || decide (s = 3))), .int .i64 0]) ∧ w' = w) := by
 refine ⟨?_, ?_, ?_, ?_, ?_, ?_⟩
 all_goals intro s w hs
 all_goals (rcases hs with rfl | rfl | rfl | rfl)
 all_goals (all_goals (go_enter Tryz.func81, Tryz.ntmps81))
 all_goals (all_goals go_wp2)
 all_goals (all_goals simp [bodyPost, results, Tryz.results81])
abbrev rhs_eqf := rhB.1
abbrev rhs_nef := rhB.2.1
abbrev rhs_ltf := rhB.2.2.1
abbrev rhs_lef := rhB.2.2.2.1
abbrev rhs_gtf := rhB.2.2.2.2.1
abbrev rhs_gef := rhB.2.2.2.2.2
theorem rhs_none (op : Nat) (s : Nat) (w : World) (h23 : ¬ (op : Int) = 23) (h24 : ¬ (op : Int) = 24) (h25 : ¬ (op : Int) = 25) (h26 : ¬ (op : Int) = 26) (h27 : ¬ (op : Int) = 27) (h28 : ¬ (op : Int) = 28) :
   Calls Tryz.prog 81 #[.int .u8 op, .int .u8 s] w fun e w' => e = .returned (.tuple #[.bool false, .int .i64 61]) ∧ w' = w := by
 go_enter Tryz.func81, Tryz.ntmps81
 go_wp2
 simp [bodyPost, results, Tryz.results81]
theorem rh_float (op a b s : Nat) (x y : Int) (X : Bool) (E : Int) (w : World) (h13 : ¬ (op : Int) = 13) (h14 : ¬ (op : Int) = 14) (h15 : ¬ (op : Int) = 15) (h16 : ¬ (op : Int) = 16) (h17 : ¬ (op : Int) = 17) (h18 : ¬ (op : Int) = 18) (h19 : ¬ (op : Int) = 19) (h20 : ¬ (op : Int) = 20) (h21 : ¬ (op : Int) = 21) (h22 : ¬ (op : Int) = 22) (s0 : ∀ w, Calls Tryz.prog 80 #[.int .u32 a] w fun e w' => e = .returned (.int .i64 x) ∧ w' = w) (s1 : ∀ w, Calls Tryz.prog 80 #[.int .u32 b] w fun e w' => e = .returned (.int .i64 y) ∧ w' = w)
   (s2 : ∀ w, Calls Tryz.prog 82 #[.int .u32 a, .int .u32 b] w fun e w' => e = .returned (.int .u8 s) ∧ Below w.heap.size w w')
   (s3 : ∀ w, Calls Tryz.prog 81 #[.int .u8 op, .int .u8 s] w fun e w' => e = .returned (.tuple #[.bool X, .int .i64 E]) ∧ w' = w) :
   Calls Tryz.prog 71 #[.int .u8 op, .int .u32 a, .int .u32 b] w fun e w' => e = .returned (.tuple #[.bool X, .int .i64 E]) ∧ Below w.heap.size w w' := by
 have HB : Below w.heap.size w w := Below.refl _ _
 go_enter Tryz.func71, Tryz.ntmps71
 go_wp2_with (first
   | (go_at_call 80; with_reducible refine (s0 _).mono ?_; rintro e wq ⟨rfl, hq⟩; subst wq)
   | (go_at_call 80; with_reducible refine (s1 _).mono ?_; rintro e wq ⟨rfl, hq⟩; subst wq)
   | (go_at_call 82; with_reducible refine (s2 _).mono ?_; rintro e wq ⟨rfl, hq⟩; replace HB : Below w.heap.size w wq := btwH hq HB)
   | (go_at_call 81; with_reducible refine (s3 _).mono ?_; rintro e wq ⟨rfl, hq⟩; subst wq))
 simp [bodyPost, results, Tryz.results71]
 exact HB
theorem fstand_cases (a b : Nat) : (fstand a b = 1 ∨ fstand a b = 2 ∨ fstand a b = 3 ∨ fstand a b = 4) := by
 unfold fstand
 cases Ieee.single.order a b with
 | none => exact Or.inl rfl
 | some c => cases c <;> simp
theorem rh_any (op a b : Nat) (w : World) (ha : a < 4294967296) (hb : b < 4294967296) :
   Calls Tryz.prog 71 #[.int .u8 op, .int .u32 a, .int .u32 b] w fun e w' => e = .returned (.tuple #[.bool (hoV op a b), .int .i64 (hoE op)]) ∧ Below w.heap.size w w' := by
 have s0 := fun w => rsig_any a w ha
 have s1 := fun w => rsig_any b w hb
 have s2 := fun w => stands_any a b w ha hb
 by_cases h13 : op = 13
 · subst h13
   rw [hoV_13, show hoE 13 = 0 from rfl]
   exact (rh_eq a b _ _ w s0 s1).mono fun e w' ⟨h1, h2⟩ => ⟨h1, h2 ▸ Below.refl _ _⟩
 by_cases h14 : op = 14
 · subst h14
   rw [hoV_14, show hoE 14 = 0 from rfl]
   exact (rh_ne a b _ _ w s0 s1).mono fun e w' ⟨h1, h2⟩ => ⟨h1, h2 ▸ Below.refl _ _⟩
 by_cases h15 : op = 15
 · subst h15
   rw [hoV_15, show hoE 15 = 0 from rfl]
   exact (rh_lti a b _ _ w s0 s1).mono fun e w' ⟨h1, h2⟩ => ⟨h1, h2 ▸ Below.refl _ _⟩
 by_cases h16 : op = 16
 · subst h16
   rw [hoV_16, show hoE 16 = 0 from rfl]
   exact (rh_lei a b _ _ w s0 s1).mono fun e w' ⟨h1, h2⟩ => ⟨h1, h2 ▸ Below.refl _ _⟩
 by_cases h17 : op = 17
 · subst h17
   rw [hoV_17, show hoE 17 = 0 from rfl]
   exact (rh_gti a b _ _ w s0 s1).mono fun e w' ⟨h1, h2⟩ => ⟨h1, h2 ▸ Below.refl _ _⟩
 by_cases h18 : op = 18
 · subst h18
   rw [hoV_18, show hoE 18 = 0 from rfl]
   exact (rh_gei a b _ _ w s0 s1).mono fun e w' ⟨h1, h2⟩ => ⟨h1, h2 ▸ Below.refl _ _⟩
 by_cases h19 : op = 19
 · subst h19
   rw [hoV_19, show hoE 19 = 0 from rfl]
   exact (rh_ltu a b _ _ w s0 s1).mono fun e w' ⟨h1, h2⟩ => ⟨h1, h2 ▸ Below.refl _ _⟩
 by_cases h20 : op = 20
 · subst h20
   rw [hoV_20, show hoE 20 = 0 from rfl]
   exact (rh_leu a b _ _ w s0 s1).mono fun e w' ⟨h1, h2⟩ => ⟨h1, h2 ▸ Below.refl _ _⟩
 by_cases h21 : op = 21
 · subst h21
   rw [hoV_21, show hoE 21 = 0 from rfl]
   exact (rh_gtu a b _ _ w s0 s1).mono fun e w' ⟨h1, h2⟩ => ⟨h1, h2 ▸ Below.refl _ _⟩
 by_cases h22 : op = 22
 · subst h22
   rw [hoV_22, show hoE 22 = 0 from rfl]
   exact (rh_geu a b _ _ w s0 s1).mono fun e w' ⟨h1, h2⟩ => ⟨h1, h2 ▸ Below.refl _ _⟩
 by_cases h23 : op = 23
 · subst h23
   rw [hoV_23, show hoE 23 = 0 from rfl]
   exact rh_float 23 a b _ _ _ _ _ w (by omega) (by omega) (by omega) (by omega) (by omega) (by omega) (by omega) (by omega) (by omega) (by omega) s0 s1 s2 (fun w => rhs_eqf _ w (fstand_cases a b))
 by_cases h24 : op = 24
 · subst h24
   rw [hoV_24, show hoE 24 = 0 from rfl]
   exact rh_float 24 a b _ _ _ _ _ w (by omega) (by omega) (by omega) (by omega) (by omega) (by omega) (by omega) (by omega) (by omega) (by omega) s0 s1 s2 (fun w => rhs_nef _ w (fstand_cases a b))
 by_cases h25 : op = 25
 · subst h25
   rw [hoV_25, show hoE 25 = 0 from rfl]
   exact rh_float 25 a b _ _ _ _ _ w (by omega) (by omega) (by omega) (by omega) (by omega) (by omega) (by omega) (by omega) (by omega) (by omega) s0 s1 s2 (fun w => rhs_ltf _ w (fstand_cases a b))
 by_cases h26 : op = 26
 · subst h26
   rw [hoV_26, show hoE 26 = 0 from rfl]
   exact rh_float 26 a b _ _ _ _ _ w (by omega) (by omega) (by omega) (by omega) (by omega) (by omega) (by omega) (by omega) (by omega) (by omega) s0 s1 s2 (fun w => rhs_lef _ w (fstand_cases a b))
 by_cases h27 : op = 27
 · subst h27
   rw [hoV_27, show hoE 27 = 0 from rfl]
   exact rh_float 27 a b _ _ _ _ _ w (by omega) (by omega) (by omega) (by omega) (by omega) (by omega) (by omega) (by omega) (by omega) (by omega) s0 s1 s2 (fun w => rhs_gtf _ w (fstand_cases a b))
 by_cases h28 : op = 28
 · subst h28
   rw [hoV_28, show hoE 28 = 0 from rfl]
   exact rh_float 28 a b _ _ _ _ _ w (by omega) (by omega) (by omega) (by omega) (by omega) (by omega) (by omega) (by omega) (by omega) (by omega) s0 s1 s2 (fun w => rhs_gef _ w (fstand_cases a b))
 have h0 : hoV op a b = false := by unfold hoV; simp only [if_neg h13, if_neg h14, if_neg h15, if_neg h16, if_neg h17, if_neg h18, if_neg h19, if_neg h20, if_neg h21, if_neg h22, if_neg h23, if_neg h24, if_neg h25, if_neg h26, if_neg h27, if_neg h28]
 have h1 : hoE op = 61 := by unfold hoE; rw [if_neg (by omega)]
 rw [h0, h1]
 exact rh_float op a b _ _ _ _ _ w (by omega) (by omega) (by omega) (by omega) (by omega) (by omega) (by omega) (by omega) (by omega) (by omega) s0 s1 s2 (fun w => rhs_none op _ w (by omega) (by omega) (by omega) (by omega) (by omega) (by omega))
end Go.Proofs.YtibhlcfligfhdaaGreat
namespace Go.Proofs.YtibhlcfligfhdaaGreat
open Go.RowKit Go.WideShapes
set_option maxRecDepth 100000
theorem dec_nought (e : Int) : (e == 0) = decide (e = 0) := by
 by_cases h : e = 0
 · subst h; rfl
 · rw [decide_eq_false h, beq_eq_false_iff_ne]; exact h
theorem isun_any (op : Nat) (w : World) :
   Calls Tryz.prog 68 #[.int .u8 (op : Int)] w fun e w' => e = .returned (.bool (decide (unE op = 0))) ∧ Below w.heap.size w w' := by
 have H := dhid (fun w' => ru_any op 0 w' (by decide))
 rw [← dec_nought]
 generalize unE op = er at *
 go_enter Tryz.func68, Tryz.ntmps68
 go_wp2_with (go_at_call 78; refine (H.out _).mono ?_; rintro e w1 ⟨rfl, hb1⟩)
 go_ret
 exact ⟨rfl, hb1⟩
theorem isbin_any (op : Nat) (w : World) :
   Calls Tryz.prog 69 #[.int .u8 (op : Int)] w fun e w' => e = .returned (.bool (decide (binE op 1 = 0))) ∧ Below w.heap.size w w' := by
 have H := dhid (fun w' => rb_any op 1 1 w' (by decide) (by decide))
 rw [← dec_nought]
 generalize binE op 1 = er at *
 go_enter Tryz.func69, Tryz.ntmps69
 go_wp2_with (go_at_call 79; refine (H.out _).mono ?_; rintro e w1 ⟨rfl, hb1⟩)
 go_ret
 exact ⟨rfl, hb1⟩
theorem hoE_kind : ∀ op, op < 256 → decide (hoE op = 0) = decide (opKi op = 2) := by decide +kernel
theorem iscmp_any (op : Nat) (w : World) (hop : op < 256) :
   Calls Tryz.prog 70 #[.int .u8 (op : Int)] w fun e w' => e = .returned (.bool (decide (opKi op = 2))) ∧ Below w.heap.size w w' := by
 have H := dhid (fun w' => rh_any op 0 0 w' (by decide) (by decide))
 rw [← hoE_kind op hop, ← dec_nought]
 generalize hoE op = er at *
 go_enter Tryz.func70, Tryz.ntmps70
 go_wp2_with (go_at_call 71; refine (H.out _).mono ?_; rintro e w1 ⟨rfl, hb1⟩)
 go_ret
 exact ⟨rfl, hb1⟩
def WoR (w : World) (ao : Option Addr) (ws : List Nat) (B : Nat) : Prop :=
 0 < ws.length → ∃ b off, ao = some ⟨b, off, none⟩ ∧ b < B ∧ ∀ j, j < ws.length → w.cell? ⟨b, off + j, none⟩ = some (.int .u32 ((ws.getD j 0 : Nat) : Int))
theorem WoR.below {w w' : World} {ao : Option Addr} {ws : List Nat} {B : Nat} (h : WoR w ao ws B) (hb : Below B w w') : WoR w' ao ws B := by
 intro hl
 obtain ⟨b, off, e, hlt, hc⟩ := h hl
 exact ⟨b, off, e, hlt, fun j hj => (hb.cell (p := ⟨b, off + j, none⟩) hlt).trans (hc j hj)⟩
theorem WoR.mono {w : World} {ao : Option Addr} {ws : List Nat} {B C : Nat} (h : WoR w ao ws B) (hb : B ≤ C) : WoR w ao ws C := by
 intro hl
 obtain ⟨b, off, e, hlt, hc⟩ := h hl
 exact ⟨b, off, e, Nat.lt_of_lt_of_le hlt hb, hc⟩
def wvD (ws : List Nat) : List Value := ws.map fun (z : Nat) => Value.int .u32 (z : Int)
theorem own_wor {w : World} {B : Nat} {v : Value} {ws : List Nat} (h : w.ownsRow B 23 1 v ws.length (wvD ws)) : ∃ ao cap, v = .slice ao ws.length cap ∧ ws.length ≤ cap ∧ WoR w ao ws w.heap.size := by
 rcases h.2 with ⟨rfl, h0⟩ | ⟨g, cap, cur, rfl, hh⟩
 · exact ⟨none, 0, by rw [h0], by omega, fun hp => absurd hp (by omega)⟩
 · refine ⟨some ⟨g, 0, none⟩, cap, rfl, hh.2.2.1, fun _ => ⟨g, 0, rfl, (h.lt g rfl).2, fun j hj => ?_⟩⟩
   have c0 : (wvD ws)[j]? = some (.int .u32 ((ws.getD j 0 : Nat) : Int)) := by
     simp [wvD, List.getD, List.getElem?_eq_getElem hj]
   have a0 := h.cells (g := g) rfl _ _ c0
   rw [Go.WideShapes.add_plain] at a0
   exact a0
end Go.Proofs.YtibhlcfligfhdaaGreat
namespace Go.Proofs.YtibhlcfligfhdaaGreat
open Go.RowKit
set_option maxRecDepth 100000
def Reads (w : World) (ao : Option Addr) (zs : List Int) (B : Nat) : Prop :=
 0 < zs.length → ∃ b off, ao = some ⟨b, off, none⟩ ∧ b < B ∧ ∀ j, j < zs.length → w.cell? ⟨b, off + j, none⟩ = some (.int .u8 (zs.getD j 0))
theorem Reads.below {w w' : World} {ao : Option Addr} {zs : List Int} {B : Nat} (h : Reads w ao zs B) (hb : Below B w w') : Reads w' ao zs B := by
 intro hl
 obtain ⟨b, off, e, hlt, hc⟩ := h hl
 exact ⟨b, off, e, hlt, fun j hj => (hb.cell (p := ⟨b, off + j, none⟩) hlt).trans (hc j hj)⟩
theorem Reads.mono {w : World} {ao : Option Addr} {zs : List Int} {B C : Nat} (h : Reads w ao zs B) (hb : B ≤ C) : Reads w ao zs C := by
 intro hl
 obtain ⟨b, off, e, hlt, hc⟩ := h hl
 exact ⟨b, off, e, Nat.lt_of_lt_of_le hlt hb, hc⟩
theorem Reads.nil (w : World) (ao : Option Addr) (B : Nat) : Reads w ao [] B := fun h => by simp at h
theorem grown_below {B e sz : Nat} {a w w' : World} {xs : List Value} {v : Value} {n : Nat} {o : Obj} (h : Below B a w) (hB : B ≤ w.heap.size) (hown : w.ownsRow B e sz v n xs) (hg : (w.alloc o).grownBy w' v.ownBlock) : Below B a w' :=
 (h.alloc hB o).grown hg (by simp; omega) (fun k e => (hown.lt k e).1)
theorem below_drewN {B : Nat} {a w : World} (h : Below B a w) (n : Nat) : Below B a (w.drewN n) := h.trans ⟨rfl, rfl, rfl, Nat.le_refl _, fun _ _ => rfl⟩
end Go.Proofs.YtibhlcfligfhdaaGreat
