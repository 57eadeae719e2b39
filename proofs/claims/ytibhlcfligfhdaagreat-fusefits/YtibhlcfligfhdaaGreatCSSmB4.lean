import Derived.Test.YtibhlcfligfhdaaGreatCSRnD3
import Derived.Test.YtibhlcfligfhdaaGreatCSFin
import Derived.Test.YtibhlcfligfhdaaGreatCPKp
namespace Go.Proofs.YtibhlcfligfhdaaGreat
open Go.RowKit
set_option maxRecDepth 100000
set_option maxRecDepth 100000 in
set_option maxHeartbeats 40000000 in
theorem smBl :
   (∀ (ma : Bool) (mb : Bool), ((ma == mb) = false) → ∀ (na nb X Y : Nat) (pa pb : Int) (w : World), (na < 16777216) → (nb < 16777216) → (-149 ≤ pa) → (pa ≤ 104) → (-149 ≤ pb) → (pb ≤ 104) → (pb < pa) → (pa - pb = X) → (0 = Y) → (na * 2 ^ X < nb * 2 ^ Y) → Calls Tryz.prog 138 #[.agg #[.int .i64 24, .int .i64 (-149), .int .i64 104], .agg #[.int .u8 3, .bool ma, .int .u64 na, .int .i64 pa], .agg #[.int .u8 3, .bool mb, .int .u64 nb, .int .i64 pb]] w fun e w' => (∃ n q, e = .returned (hdV mb n q) ∧ Fits n q (rg Ieee.single (nb * 2 ^ Y - na * 2 ^ X) pb)) ∧ Below w.heap.size w w') ∧
   (∀ (ma : Bool) (mb : Bool), ((ma == mb) = false) → ∀ (na nb X Y : Nat) (pa pb : Int) (w : World), (na < 16777216) → (nb < 16777216) → (-149 ≤ pa) → (pa ≤ 104) → (-149 ≤ pb) → (pb ≤ 104) → (¬ pb < pa) → (0 = X) → (pb - pa = Y) → (na * 2 ^ X < nb * 2 ^ Y) → Calls Tryz.prog 138 #[.agg #[.int .i64 24, .int .i64 (-149), .int .i64 104], .agg #[.int .u8 3, .bool ma, .int .u64 na, .int .i64 pa], .agg #[.int .u8 3, .bool mb, .int .u64 nb, .int .i64 pb]] w fun e w' => (∃ n q, e = .returned (hdV mb n q) ∧ Fits n q (rg Ieee.single (nb * 2 ^ Y - na * 2 ^ X) pa)) ∧ Below w.heap.size w w') ∧
   (∀ (ma : Bool) (mb : Bool), ((ma == mb) = false) → ∀ (na nb X Y : Nat) (pa pb : Int) (w : World), (na < 16777216) → (nb < 16777216) → (-149 ≤ pa) → (pa ≤ 104) → (-149 ≤ pb) → (pb ≤ 104) → (pb < pa) → (pa - pb = X) → (0 = Y) → (nb * 2 ^ Y < na * 2 ^ X) → Calls Tryz.prog 138 #[.agg #[.int .i64 24, .int .i64 (-149), .int .i64 104], .agg #[.int .u8 3, .bool ma, .int .u64 na, .int .i64 pa], .agg #[.int .u8 3, .bool mb, .int .u64 nb, .int .i64 pb]] w fun e w' => (∃ n q, e = .returned (hdV ma n q) ∧ Fits n q (rg Ieee.single (na * 2 ^ X - nb * 2 ^ Y) pb)) ∧ Below w.heap.size w w') ∧
   (∀ (ma : Bool) (mb : Bool), ((ma == mb) = false) → ∀ (na nb X Y : Nat) (pa pb : Int) (w : World), (na < 16777216) → (nb < 16777216) → (-149 ≤ pa) → (pa ≤ 104) → (-149 ≤ pb) → (pb ≤ 104) → (¬ pb < pa) → (0 = X) → (pb - pa = Y) → (nb * 2 ^ Y < na * 2 ^ X) → Calls Tryz.prog 138 #[.agg #[.int .i64 24, .int .i64 (-149), .int .i64 104], .agg #[.int .u8 3, .bool ma, .int .u64 na, .int .i64 pa], .agg #[.int .u8 3, .bool mb, .int .u64 nb, .int .i64 pb]] w fun e w' => (∃ n q, e = .returned (hdV ma n q) ∧ Fits n q (rg Ieee.single (na * 2 ^ X - nb * 2 ^ Y) pa)) ∧ Below w.heap.size w w') := by
 refine ⟨?_, ?_, ?_, ?_⟩
 all_goals intro ma mb hmm na nb X Y pa pb w hna hnb h1 h2 h3 h4 ho hX hY hc
 all_goals (have hXl : X ≤ 600 := by omega)
 all_goals (have hYl : Y ≤ 600 := by omega)
 all_goals (have HXw : Hid (IntKind.i64.wrap (X : Int) = X) := by rw [Hid, IntKind.wrap_i64]; omega)
 all_goals (have HYw : Hid (IntKind.i64.wrap (Y : Int) = Y) := by rw [Hid, IntKind.wrap_i64]; omega)
 all_goals (have HPx := up_pow na X 20 hna (by omega))
 all_goals (have HPy := up_pow nb Y 20 hnb (by omega))
 all_goals (have HB : Below ((((w.alloc ob).alloc (oV 3 ma na pa)).alloc (oV 3 mb nb pb)).alloc oz).heap.size ((((w.alloc ob).alloc (oV 3 ma na pa)).alloc (oV 3 mb nb pb)).alloc oz) ((((w.alloc ob).alloc (oV 3 ma na pa)).alloc (oV 3 mb nb pb)).alloc oz) := Below.refl _ _)
 have HZw : Hid (IntKind.i64.wrap 0 = (Y : Int)) := by rw [Hid, ← hY]; rfl
 have HAG : Hid (ag (na * 2 ^ X) (nb * 2 ^ Y) = -1) := by rw [Hid]; exact ag_lt hc
 have HC : Hid (na * 2 ^ X < nb * 2 ^ Y) := hc
 rotate_left
 have HZw : Hid (IntKind.i64.wrap 0 = (X : Int)) := by rw [Hid, ← hX]; rfl
 have HAG : Hid (ag (na * 2 ^ X) (nb * 2 ^ Y) = -1) := by rw [Hid]; exact ag_lt hc
 have HC : Hid (na * 2 ^ X < nb * 2 ^ Y) := hc
 rotate_left
 have HZw : Hid (IntKind.i64.wrap 0 = (Y : Int)) := by rw [Hid, ← hY]; rfl
 have HAG : Hid (ag (na * 2 ^ X) (nb * 2 ^ Y) = 1) := by rw [Hid]; exact ag_gt hc
 have HC : Hid (nb * 2 ^ Y < na * 2 ^ X) := hc
 rotate_left
 have HZw : Hid (IntKind.i64.wrap 0 = (X : Int)) := by rw [Hid, ← hX]; rfl
 have HAG : Hid (ag (na * 2 ^ X) (nb * 2 ^ Y) = 1) := by rw [Hid]; exact ag_gt hc
 have HC : Hid (nb * 2 ^ Y < na * 2 ^ X) := hc
 rotate_left
 all_goals (clear hc)
 clear hY
 rotate_left
 clear hX
 rotate_left
 clear hY
 rotate_left
 clear hX
 rotate_left
 all_goals (go_enter Tryz.func138, Tryz.ntmps138)
 all_goals (go_wp2)
 all_goals (
   go_region_held3 (fun w' => w'.cell? ⟨w.heap.size, 0, none⟩ = some (.int .i64 24) ∧ w'.cell? ⟨w.heap.size, 1, none⟩ = some (.int .i64 (-149)) ∧ w'.cell? ⟨w.heap.size, 2, none⟩ = some (.int .i64 104) ∧ w'.cell? ⟨w.heap.size + 1, 0, none⟩ = some (.int .u8 3) ∧ w'.cell? ⟨w.heap.size + 1, 1, none⟩ = some (.bool ma) ∧ w'.cell? ⟨w.heap.size + 1, 2, none⟩ = some (.int .u64 (na : Nat)) ∧ w'.cell? ⟨w.heap.size + 1, 3, none⟩ = some (.int .i64 pa) ∧ w'.cell? ⟨w.heap.size + 1 + 1, 0, none⟩ = some (.int .u8 3) ∧ w'.cell? ⟨w.heap.size + 1 + 1, 1, none⟩ = some (.bool mb) ∧ w'.cell? ⟨w.heap.size + 1 + 1, 2, none⟩ = some (.int .u64 (nb : Nat)) ∧ w'.cell? ⟨w.heap.size + 1 + 1, 3, none⟩ = some (.int .i64 pb)) ((first | ((try dsimp only); with_reducible refine jS ?_; (repeat (first | exact HB | exact Below.refl _ _ | with_reducible first | refine bel ?_ | refine Below.drew ?_ | refine bt3 ?_)); done) | (refine jF ?_; (repeat (first | exact HB | exact Below.refl _ _ | with_reducible first | refine bel ?_ | refine Below.drew ?_ | refine bt3 ?_)); done))) (first
     | (go_at_call 107; with_reducible refine (nat_any na _ (by omega)).mono ?_; rintro e w1 ⟨⟨v1, rfl, hv1⟩, hb1⟩; obtain ⟨ao1, cap1, zs1, rfl, hc1, hn1, hval1, hN1, hW1, hr1⟩ := hv1.dest; replace HB : Below ((((w.alloc ob).alloc (oV 3 ma na pa)).alloc (oV 3 mb nb pb)).alloc oz).heap.size ((((w.alloc ob).alloc (oV 3 ma na pa)).alloc (oV 3 mb nb pb)).alloc oz) w1 := bt2 hb1 (by apply_rules [HB, Below.refl, bel, Below.drew, bt3]); clear hb1 hv1)
     | (go_at_call 130; (first | rw [HXw.out] | rw [HZw.out]); with_reducible refine (up_any ao1 cap1 zs1 X _ (by have := small_len hN1 hval1 (by omega); omega) (by omega) (RU hr1 (by apply_rules [Below.refl, bel, Below.drew, bt3])) hW1).mono ?_; rintro e w2 ⟨⟨v2, rfl, hv2⟩, hb2⟩; obtain ⟨ao2, cap2, zs2, rfl, hc2, hn2, hval2, hN2, hW2, hr2⟩ := hv2.dest; replace HB : Below ((((w.alloc ob).alloc (oV 3 ma na pa)).alloc (oV 3 mb nb pb)).alloc oz).heap.size ((((w.alloc ob).alloc (oV 3 ma na pa)).alloc (oV 3 mb nb pb)).alloc oz) w2 := bt2 hb2 (by apply_rules [HB, Below.refl, bel, Below.drew, bt3]); clear hb2 hv2; rw [hval1] at hval2)))
 all_goals (have HBx : Below w2.heap.size w2 w2 := Below.refl _ _)
 all_goals (obtain ⟨x0, x1, x2, x3, x4, x5, x6, x7, x8, x9, x10⟩ := jF HB)
 all_goals (go_wp2)
 all_goals (
   go_region_held3 (fun w' => w'.cell? ⟨w.heap.size, 0, none⟩ = some (.int .i64 24) ∧ w'.cell? ⟨w.heap.size, 1, none⟩ = some (.int .i64 (-149)) ∧ w'.cell? ⟨w.heap.size, 2, none⟩ = some (.int .i64 104) ∧ w'.cell? ⟨w.heap.size + 1, 0, none⟩ = some (.int .u8 3) ∧ w'.cell? ⟨w.heap.size + 1, 1, none⟩ = some (.bool ma) ∧ w'.cell? ⟨w.heap.size + 1, 2, none⟩ = some (.int .u64 (na : Nat)) ∧ w'.cell? ⟨w.heap.size + 1, 3, none⟩ = some (.int .i64 pa) ∧ w'.cell? ⟨w.heap.size + 1 + 1, 0, none⟩ = some (.int .u8 3) ∧ w'.cell? ⟨w.heap.size + 1 + 1, 1, none⟩ = some (.bool mb) ∧ w'.cell? ⟨w.heap.size + 1 + 1, 2, none⟩ = some (.int .u64 (nb : Nat)) ∧ w'.cell? ⟨w.heap.size + 1 + 1, 3, none⟩ = some (.int .i64 pb)) ((first | ((try dsimp only); with_reducible refine jS ?_; (repeat (first | exact HB | exact Below.refl _ _ | with_reducible first | refine bel ?_ | refine Below.drew ?_ | refine bt3 ?_)); done) | (refine jF ?_; (repeat (first | exact HB | exact Below.refl _ _ | with_reducible first | refine bel ?_ | refine Below.drew ?_ | refine bt3 ?_)); done))) (first
     | (go_at_call 107; with_reducible refine (nat_any nb _ (by omega)).mono ?_; rintro e w3 ⟨⟨v3, rfl, hv3⟩, hb3⟩; obtain ⟨ao3, cap3, zs3, rfl, hc3, hn3, hval3, hN3, hW3, hr3⟩ := hv3.dest; replace HB : Below ((((w.alloc ob).alloc (oV 3 ma na pa)).alloc (oV 3 mb nb pb)).alloc oz).heap.size ((((w.alloc ob).alloc (oV 3 ma na pa)).alloc (oV 3 mb nb pb)).alloc oz) w3 := bt2 hb3 (by apply_rules [HB, Below.refl, bel, Below.drew, bt3]); replace HBx : Below w2.heap.size w2 w3 := bt2 hb3 (by apply_rules [HBx, Below.refl, bel, Below.drew, bt3]); clear hb3 hv3)
     | (go_at_call 130; (first | rw [HYw.out] | rw [HZw.out]); with_reducible refine (up_any ao3 cap3 zs3 Y _ (by have := small_len hN3 hval3 (by omega); omega) (by omega) (RU hr3 (by apply_rules [Below.refl, bel, Below.drew, bt3])) hW3).mono ?_; rintro e w5 ⟨⟨v5, rfl, hv5⟩, hb5⟩; obtain ⟨ao5, cap5, zs5, rfl, hc5, hn5, hval5, hN5, hW5, hr5⟩ := hv5.dest; replace HB : Below ((((w.alloc ob).alloc (oV 3 ma na pa)).alloc (oV 3 mb nb pb)).alloc oz).heap.size ((((w.alloc ob).alloc (oV 3 ma na pa)).alloc (oV 3 mb nb pb)).alloc oz) w5 := bt2 hb5 (by apply_rules [HB, Below.refl, bel, Below.drew, bt3]); replace HBx : Below w2.heap.size w2 w5 := bt2 hb5 (by apply_rules [HBx, Below.refl, bel, Below.drew, bt3]); clear hb5 hv5; rw [hval3] at hval5)))
 all_goals (have hl2 : zs2.length ≤ 20 := len_pow hN2 hval2 20 HPx)
 all_goals (have hl5 : zs5.length ≤ 20 := len_pow hN5 hval5 20 HPy)
 all_goals (clear x0 x1 x2 x3 x4 x5 x6 x7 x8 x9 x10)
 all_goals (obtain ⟨x0, x1, x2, x3, x4, x5, x6, x7, x8, x9, x10⟩ := jF HB)
 have hle : nv zs2 ≤ nv zs5 := by rw [hval5, hval2]; exact Nat.le_of_lt HC.out
 have hll : zs2.length ≤ zs5.length := norm_len hN2 _ (Nat.lt_of_le_of_lt hle (nv_lt hW5))
 have HPz : Hid (nb * 2 ^ Y - na * 2 ^ X < 2 ^ (32 * 20)) := Nat.lt_of_le_of_lt (Nat.sub_le _ _) HPy
 rotate_left
 have hle : nv zs2 ≤ nv zs5 := by rw [hval5, hval2]; exact Nat.le_of_lt HC.out
 have hll : zs2.length ≤ zs5.length := norm_len hN2 _ (Nat.lt_of_le_of_lt hle (nv_lt hW5))
 have HPz : Hid (nb * 2 ^ Y - na * 2 ^ X < 2 ^ (32 * 20)) := Nat.lt_of_le_of_lt (Nat.sub_le _ _) HPy
 rotate_left
 have hle : nv zs5 ≤ nv zs2 := by rw [hval2, hval5]; exact Nat.le_of_lt HC.out
 have hll : zs5.length ≤ zs2.length := norm_len hN5 _ (Nat.lt_of_le_of_lt hle (nv_lt hW2))
 have HPz : Hid (na * 2 ^ X - nb * 2 ^ Y < 2 ^ (32 * 20)) := Nat.lt_of_le_of_lt (Nat.sub_le _ _) HPx
 rotate_left
 have hle : nv zs5 ≤ nv zs2 := by rw [hval2, hval5]; exact Nat.le_of_lt HC.out
 have hll : zs5.length ≤ zs2.length := norm_len hN5 _ (Nat.lt_of_le_of_lt hle (nv_lt hW2))
 have HPz : Hid (na * 2 ^ X - nb * 2 ^ Y < 2 ^ (32 * 20)) := Nat.lt_of_le_of_lt (Nat.sub_le _ _) HPx
 rotate_left
 all_goals (go_wp2_with (go_at_call 135; with_reducible refine (against_any ao2 ao5 cap2 cap5 zs2 zs5 _ (by omega) (by omega) (RU hr2 (by apply_rules [HBx, Below.refl, bel, Below.drew, bt3])) (RU hr5 (by apply_rules [Below.refl, bel, Below.drew, bt3])) hW2 hW5 hN2 hN5).mono ?_; rintro e wq ⟨rfl, kq, hq⟩; subst wq; rw [hval2, hval5, HAG.out]))
 focus
   go_region_held3 (fun w' => w'.cell? ⟨w.heap.size, 0, none⟩ = some (.int .i64 24) ∧ w'.cell? ⟨w.heap.size, 1, none⟩ = some (.int .i64 (-149)) ∧ w'.cell? ⟨w.heap.size, 2, none⟩ = some (.int .i64 104) ∧ w'.cell? ⟨w.heap.size + 1, 0, none⟩ = some (.int .u8 3) ∧ w'.cell? ⟨w.heap.size + 1, 1, none⟩ = some (.bool ma) ∧ w'.cell? ⟨w.heap.size + 1, 2, none⟩ = some (.int .u64 (na : Nat)) ∧ w'.cell? ⟨w.heap.size + 1, 3, none⟩ = some (.int .i64 pa) ∧ w'.cell? ⟨w.heap.size + 1 + 1, 0, none⟩ = some (.int .u8 3) ∧ w'.cell? ⟨w.heap.size + 1 + 1, 1, none⟩ = some (.bool mb) ∧ w'.cell? ⟨w.heap.size + 1 + 1, 2, none⟩ = some (.int .u64 (nb : Nat)) ∧ w'.cell? ⟨w.heap.size + 1 + 1, 3, none⟩ = some (.int .i64 pb)) ((first | ((try dsimp only); with_reducible refine jS ?_; (repeat (first | exact HB | exact Below.refl _ _ | with_reducible first | refine bel ?_ | refine Below.drew ?_ | refine bt3 ?_)); done) | (refine jF ?_; (repeat (first | exact HB | exact Below.refl _ _ | with_reducible first | refine bel ?_ | refine Below.drew ?_ | refine bt3 ?_)); done))) (first
     | (go_at_call 134; with_reducible refine (less_any ao5 ao2 cap5 cap2 zs5 zs2 _ (by omega) hll hle (RU hr5 (by apply_rules [Below.refl, bel, Below.drew, bt3])) (RU hr2 (by apply_rules [HBx, Below.refl, bel, Below.drew, bt3])) hW5 hW2).mono ?_; rintro e w8 ⟨⟨v8, rfl, hv8⟩, hb8⟩; obtain ⟨ao8, cap8, zs8, rfl, hc8, hn8, hval8, hN8, hW8, hr8⟩ := hv8.dest; replace HB : Below ((((w.alloc ob).alloc (oV 3 ma na pa)).alloc (oV 3 mb nb pb)).alloc oz).heap.size ((((w.alloc ob).alloc (oV 3 ma na pa)).alloc (oV 3 mb nb pb)).alloc oz) w8 := bt2 hb8 (by apply_rules [HB, Below.refl, bel, Below.drew, bt3]); clear hb8 hv8; rw [hval5, hval2] at hval8)
     | (go_at_call 105; with_reducible refine (rnd_any mb ao8 cap8 zs8 pb _ (by have := len_pow hN8 hval8 20 HPz.out; omega) (RU hr8 (by apply_rules [Below.refl, bel, Below.drew, bt3])) hW8 hN8 (by omega) (by omega)).mono ?_; rintro e w9 ⟨⟨n9, p9, rfl, hf9⟩, hb9⟩; rw [hdV_agg]; replace HB : Below ((((w.alloc ob).alloc (oV 3 ma na pa)).alloc (oV 3 mb nb pb)).alloc oz).heap.size ((((w.alloc ob).alloc (oV 3 ma na pa)).alloc (oV 3 mb nb pb)).alloc oz) w9 := bt2 hb9 (by apply_rules [HB, Below.refl, bel, Below.drew, bt3]); obtain ⟨r0, r1, r2, r3, q0, q1, q2, q3⟩ := jA HB; rw [hval8] at hf9))
 rotate_left
 focus
   go_region_held3 (fun w' => w'.cell? ⟨w.heap.size, 0, none⟩ = some (.int .i64 24) ∧ w'.cell? ⟨w.heap.size, 1, none⟩ = some (.int .i64 (-149)) ∧ w'.cell? ⟨w.heap.size, 2, none⟩ = some (.int .i64 104) ∧ w'.cell? ⟨w.heap.size + 1, 0, none⟩ = some (.int .u8 3) ∧ w'.cell? ⟨w.heap.size + 1, 1, none⟩ = some (.bool ma) ∧ w'.cell? ⟨w.heap.size + 1, 2, none⟩ = some (.int .u64 (na : Nat)) ∧ w'.cell? ⟨w.heap.size + 1, 3, none⟩ = some (.int .i64 pa) ∧ w'.cell? ⟨w.heap.size + 1 + 1, 0, none⟩ = some (.int .u8 3) ∧ w'.cell? ⟨w.heap.size + 1 + 1, 1, none⟩ = some (.bool mb) ∧ w'.cell? ⟨w.heap.size + 1 + 1, 2, none⟩ = some (.int .u64 (nb : Nat)) ∧ w'.cell? ⟨w.heap.size + 1 + 1, 3, none⟩ = some (.int .i64 pb)) ((first | ((try dsimp only); with_reducible refine jS ?_; (repeat (first | exact HB | exact Below.refl _ _ | with_reducible first | refine bel ?_ | refine Below.drew ?_ | refine bt3 ?_)); done) | (refine jF ?_; (repeat (first | exact HB | exact Below.refl _ _ | with_reducible first | refine bel ?_ | refine Below.drew ?_ | refine bt3 ?_)); done))) (first
     | (go_at_call 134; with_reducible refine (less_any ao5 ao2 cap5 cap2 zs5 zs2 _ (by omega) hll hle (RU hr5 (by apply_rules [Below.refl, bel, Below.drew, bt3])) (RU hr2 (by apply_rules [HBx, Below.refl, bel, Below.drew, bt3])) hW5 hW2).mono ?_; rintro e w8 ⟨⟨v8, rfl, hv8⟩, hb8⟩; obtain ⟨ao8, cap8, zs8, rfl, hc8, hn8, hval8, hN8, hW8, hr8⟩ := hv8.dest; replace HB : Below ((((w.alloc ob).alloc (oV 3 ma na pa)).alloc (oV 3 mb nb pb)).alloc oz).heap.size ((((w.alloc ob).alloc (oV 3 ma na pa)).alloc (oV 3 mb nb pb)).alloc oz) w8 := bt2 hb8 (by apply_rules [HB, Below.refl, bel, Below.drew, bt3]); clear hb8 hv8; rw [hval5, hval2] at hval8)
     | (go_at_call 105; with_reducible refine (rnd_any mb ao8 cap8 zs8 pa _ (by have := len_pow hN8 hval8 20 HPz.out; omega) (RU hr8 (by apply_rules [Below.refl, bel, Below.drew, bt3])) hW8 hN8 (by omega) (by omega)).mono ?_; rintro e w9 ⟨⟨n9, p9, rfl, hf9⟩, hb9⟩; rw [hdV_agg]; replace HB : Below ((((w.alloc ob).alloc (oV 3 ma na pa)).alloc (oV 3 mb nb pb)).alloc oz).heap.size ((((w.alloc ob).alloc (oV 3 ma na pa)).alloc (oV 3 mb nb pb)).alloc oz) w9 := bt2 hb9 (by apply_rules [HB, Below.refl, bel, Below.drew, bt3]); obtain ⟨r0, r1, r2, r3, q0, q1, q2, q3⟩ := jA HB; rw [hval8] at hf9))
 rotate_left
 focus
   go_region_held3 (fun w' => w'.cell? ⟨w.heap.size, 0, none⟩ = some (.int .i64 24) ∧ w'.cell? ⟨w.heap.size, 1, none⟩ = some (.int .i64 (-149)) ∧ w'.cell? ⟨w.heap.size, 2, none⟩ = some (.int .i64 104) ∧ w'.cell? ⟨w.heap.size + 1, 0, none⟩ = some (.int .u8 3) ∧ w'.cell? ⟨w.heap.size + 1, 1, none⟩ = some (.bool ma) ∧ w'.cell? ⟨w.heap.size + 1, 2, none⟩ = some (.int .u64 (na : Nat)) ∧ w'.cell? ⟨w.heap.size + 1, 3, none⟩ = some (.int .i64 pa) ∧ w'.cell? ⟨w.heap.size + 1 + 1, 0, none⟩ = some (.int .u8 3) ∧ w'.cell? ⟨w.heap.size + 1 + 1, 1, none⟩ = some (.bool mb) ∧ w'.cell? ⟨w.heap.size + 1 + 1, 2, none⟩ = some (.int .u64 (nb : Nat)) ∧ w'.cell? ⟨w.heap.size + 1 + 1, 3, none⟩ = some (.int .i64 pb)) ((first | ((try dsimp only); with_reducible refine jS ?_; (repeat (first | exact HB | exact Below.refl _ _ | with_reducible first | refine bel ?_ | refine Below.drew ?_ | refine bt3 ?_)); done) | (refine jF ?_; (repeat (first | exact HB | exact Below.refl _ _ | with_reducible first | refine bel ?_ | refine Below.drew ?_ | refine bt3 ?_)); done))) (first
     | (go_at_call 134; with_reducible refine (less_any ao2 ao5 cap2 cap5 zs2 zs5 _ (by omega) hll hle (RU hr2 (by apply_rules [HBx, Below.refl, bel, Below.drew, bt3])) (RU hr5 (by apply_rules [Below.refl, bel, Below.drew, bt3])) hW2 hW5).mono ?_; rintro e w8 ⟨⟨v8, rfl, hv8⟩, hb8⟩; obtain ⟨ao8, cap8, zs8, rfl, hc8, hn8, hval8, hN8, hW8, hr8⟩ := hv8.dest; replace HB : Below ((((w.alloc ob).alloc (oV 3 ma na pa)).alloc (oV 3 mb nb pb)).alloc oz).heap.size ((((w.alloc ob).alloc (oV 3 ma na pa)).alloc (oV 3 mb nb pb)).alloc oz) w8 := bt2 hb8 (by apply_rules [HB, Below.refl, bel, Below.drew, bt3]); clear hb8 hv8; rw [hval2, hval5] at hval8)
     | (go_at_call 105; with_reducible refine (rnd_any ma ao8 cap8 zs8 pb _ (by have := len_pow hN8 hval8 20 HPz.out; omega) (RU hr8 (by apply_rules [Below.refl, bel, Below.drew, bt3])) hW8 hN8 (by omega) (by omega)).mono ?_; rintro e w9 ⟨⟨n9, p9, rfl, hf9⟩, hb9⟩; rw [hdV_agg]; replace HB : Below ((((w.alloc ob).alloc (oV 3 ma na pa)).alloc (oV 3 mb nb pb)).alloc oz).heap.size ((((w.alloc ob).alloc (oV 3 ma na pa)).alloc (oV 3 mb nb pb)).alloc oz) w9 := bt2 hb9 (by apply_rules [HB, Below.refl, bel, Below.drew, bt3]); obtain ⟨r0, r1, r2, r3, q0, q1, q2, q3⟩ := jA HB; rw [hval8] at hf9))
 rotate_left
 focus
   go_region_held3 (fun w' => w'.cell? ⟨w.heap.size, 0, none⟩ = some (.int .i64 24) ∧ w'.cell? ⟨w.heap.size, 1, none⟩ = some (.int .i64 (-149)) ∧ w'.cell? ⟨w.heap.size, 2, none⟩ = some (.int .i64 104) ∧ w'.cell? ⟨w.heap.size + 1, 0, none⟩ = some (.int .u8 3) ∧ w'.cell? ⟨w.heap.size + 1, 1, none⟩ = some (.bool ma) ∧ w'.cell? ⟨w.heap.size + 1, 2, none⟩ = some (.int .u64 (na : Nat)) ∧ w'.cell? ⟨w.heap.size + 1, 3, none⟩ = some (.int .i64 pa) ∧ w'.cell? ⟨w.heap.size + 1 + 1, 0, none⟩ = some (.int .u8 3) ∧ w'.cell? ⟨w.heap.size + 1 + 1, 1, none⟩ = some (.bool mb) ∧ w'.cell? ⟨w.heap.size + 1 + 1, 2, none⟩ = some (.int .u64 (nb : Nat)) ∧ w'.cell? ⟨w.heap.size + 1 + 1, 3, none⟩ = some (.int .i64 pb)) ((first | ((try dsimp only); with_reducible refine jS ?_; (repeat (first | exact HB | exact Below.refl _ _ | with_reducible first | refine bel ?_ | refine Below.drew ?_ | refine bt3 ?_)); done) | (refine jF ?_; (repeat (first | exact HB | exact Below.refl _ _ | with_reducible first | refine bel ?_ | refine Below.drew ?_ | refine bt3 ?_)); done))) (first
     | (go_at_call 134; with_reducible refine (less_any ao2 ao5 cap2 cap5 zs2 zs5 _ (by omega) hll hle (RU hr2 (by apply_rules [HBx, Below.refl, bel, Below.drew, bt3])) (RU hr5 (by apply_rules [Below.refl, bel, Below.drew, bt3])) hW2 hW5).mono ?_; rintro e w8 ⟨⟨v8, rfl, hv8⟩, hb8⟩; obtain ⟨ao8, cap8, zs8, rfl, hc8, hn8, hval8, hN8, hW8, hr8⟩ := hv8.dest; replace HB : Below ((((w.alloc ob).alloc (oV 3 ma na pa)).alloc (oV 3 mb nb pb)).alloc oz).heap.size ((((w.alloc ob).alloc (oV 3 ma na pa)).alloc (oV 3 mb nb pb)).alloc oz) w8 := bt2 hb8 (by apply_rules [HB, Below.refl, bel, Below.drew, bt3]); clear hb8 hv8; rw [hval2, hval5] at hval8)
     | (go_at_call 105; with_reducible refine (rnd_any ma ao8 cap8 zs8 pa _ (by have := len_pow hN8 hval8 20 HPz.out; omega) (RU hr8 (by apply_rules [Below.refl, bel, Below.drew, bt3])) hW8 hN8 (by omega) (by omega)).mono ?_; rintro e w9 ⟨⟨n9, p9, rfl, hf9⟩, hb9⟩; rw [hdV_agg]; replace HB : Below ((((w.alloc ob).alloc (oV 3 ma na pa)).alloc (oV 3 mb nb pb)).alloc oz).heap.size ((((w.alloc ob).alloc (oV 3 ma na pa)).alloc (oV 3 mb nb pb)).alloc oz) w9 := bt2 hb9 (by apply_rules [HB, Below.refl, bel, Below.drew, bt3]); obtain ⟨r0, r1, r2, r3, q0, q1, q2, q3⟩ := jA HB; rw [hval8] at hf9))
 rotate_left
 all_goals (go_wp2)
 refine bodyPost_ret (v := .agg #[.int .u8 (vS p9), .bool mb, .int .u64 (vM n9 p9), .int .i64 (vP p9)]) (by simp [results, Tryz.f138, go_sem, r0, r1, r2, r3]) rfl ?_
 rotate_left
 refine bodyPost_ret (v := .agg #[.int .u8 (vS p9), .bool mb, .int .u64 (vM n9 p9), .int .i64 (vP p9)]) (by simp [results, Tryz.f138, go_sem, r0, r1, r2, r3]) rfl ?_
 rotate_left
 refine bodyPost_ret (v := .agg #[.int .u8 (vS p9), .bool ma, .int .u64 (vM n9 p9), .int .i64 (vP p9)]) (by simp [results, Tryz.f138, go_sem, r0, r1, r2, r3]) rfl ?_
 rotate_left
 refine bodyPost_ret (v := .agg #[.int .u8 (vS p9), .bool ma, .int .u64 (vM n9 p9), .int .i64 (vP p9)]) (by simp [results, Tryz.f138, go_sem, r0, r1, r2, r3]) rfl ?_
 rotate_left
 all_goals (exact ⟨⟨n9, p9, by rw [hdV_agg], hf9⟩, jB HB⟩)
abbrev sumLl := smBl.1
abbrev sumGl := smBl.2.1
abbrev sumLg := smBl.2.2.1
abbrev sumGg := smBl.2.2.2
end Go.Proofs.YtibhlcfligfhdaaGreat
namespace Go.Proofs.YtibhlcfligfhdaaGreat
end Go.Proofs.YtibhlcfligfhdaaGreat
namespace Go.Proofs.YtibhlcfligfhdaaGreat
end Go.Proofs.YtibhlcfligfhdaaGreat
namespace Go.Proofs.YtibhlcfligfhdaaGreat
end Go.Proofs.YtibhlcfligfhdaaGreat
namespace Go.Proofs.YtibhlcfligfhdaaGreat
open Go.RowKit
set_option maxRecDepth 100000
abbrev vN : Value := .agg #[.int .u8 1, .bool false, .int .u64 0, .int .i64 0]
abbrev vE (m : Bool) : Value := .agg #[.int .u8 2, .bool m, .int .u64 0, .int .i64 0]
abbrev vF (m : Bool) (n p : Int) : Value := .agg #[.int .u8 3, .bool m, .int .u64 n, .int .i64 p]
set_option maxRecDepth 100000 in
set_option maxHeartbeats 4000000 in
theorem sm_n1 (sb : Int) (mb : Bool) (nb pb : Int) (w : World) :
   Calls Tryz.prog 138 #[.agg #[.int .i64 24, .int .i64 (-149), .int .i64 104], .agg #[.int .u8 1, .bool false, .int .u64 0, .int .i64 0], .agg #[.int .u8 sb, .bool mb, .int .u64 nb, .int .i64 pb]] w fun e w' => e = .returned vN ∧ Below w.heap.size w w' := by
 go_enter Tryz.func138, Tryz.ntmps138
 go_wp2_with (go_at_call 144; refine (vnone_any _).mono ?_; rintro e wq ⟨rfl, hq⟩; subst wq)
 refine bodyPost_ret (v := vN) (by simp [results, Tryz.f138, go_sem]) rfl ?_
 exact ⟨rfl, by repeat (first | exact Below.refl _ _ | refine bel ?_ | refine Below.drew ?_)⟩
set_option maxRecDepth 100000 in
set_option maxHeartbeats 4000000 in
theorem sm_n2 (sa : Int) (ma : Bool) (na pa : Int) (w : World) (h : (sa == 1) = false) :
   Calls Tryz.prog 138 #[.agg #[.int .i64 24, .int .i64 (-149), .int .i64 104], .agg #[.int .u8 sa, .bool ma, .int .u64 na, .int .i64 pa], .agg #[.int .u8 1, .bool false, .int .u64 0, .int .i64 0]] w fun e w' => e = .returned vN ∧ Below w.heap.size w w' := by
 go_enter Tryz.func138, Tryz.ntmps138
 go_wp2_with (go_at_call 144; refine (vnone_any _).mono ?_; rintro e wq ⟨rfl, hq⟩; subst wq)
 refine bodyPost_ret (v := vN) (by simp [results, Tryz.f138, go_sem]) rfl ?_
 exact ⟨rfl, by repeat (first | exact Below.refl _ _ | refine bel ?_ | refine Below.drew ?_)⟩
set_option maxRecDepth 100000 in
set_option maxHeartbeats 4000000 in
theorem sm_ef (ma mb : Bool) (nb pb : Int) (w : World) :
   Calls Tryz.prog 138 #[.agg #[.int .i64 24, .int .i64 (-149), .int .i64 104], .agg #[.int .u8 2, .bool ma, .int .u64 0, .int .i64 0], .agg #[.int .u8 3, .bool mb, .int .u64 nb, .int .i64 pb]] w fun e w' => e = .returned (vE ma) ∧ Below w.heap.size w w' := by
 go_enter Tryz.func138, Tryz.ntmps138
 go_wp2
 refine bodyPost_ret (v := vE ma) (by simp [results, Tryz.f138, go_sem]) rfl ?_
 exact ⟨rfl, by repeat (first | exact Below.refl _ _ | refine bel ?_ | refine Below.drew ?_)⟩
set_option maxRecDepth 100000 in
set_option maxHeartbeats 4000000 in
theorem sm_fe (ma mb : Bool) (na pa : Int) (w : World) :
   Calls Tryz.prog 138 #[.agg #[.int .i64 24, .int .i64 (-149), .int .i64 104], .agg #[.int .u8 3, .bool ma, .int .u64 na, .int .i64 pa], .agg #[.int .u8 2, .bool mb, .int .u64 0, .int .i64 0]] w fun e w' => e = .returned (vE mb) ∧ Below w.heap.size w w' := by
 go_enter Tryz.func138, Tryz.ntmps138
 go_wp2
 refine bodyPost_ret (v := vE mb) (by simp [results, Tryz.f138, go_sem]) rfl ?_
 exact ⟨rfl, by repeat (first | exact Below.refl _ _ | refine bel ?_ | refine Below.drew ?_)⟩
set_option maxRecDepth 100000 in
set_option maxHeartbeats 4000000 in
theorem sm_ee (ma : Bool) (w : World) :
   Calls Tryz.prog 138 #[.agg #[.int .i64 24, .int .i64 (-149), .int .i64 104], .agg #[.int .u8 2, .bool ma, .int .u64 0, .int .i64 0], .agg #[.int .u8 2, .bool ma, .int .u64 0, .int .i64 0]] w fun e w' => e = .returned (vE ma) ∧ Below w.heap.size w w' := by
 go_enter Tryz.func138, Tryz.ntmps138
 go_wp2
 refine bodyPost_ret (v := vE ma) (by simp [results, Tryz.f138, go_sem]) rfl ?_
 exact ⟨rfl, by repeat (first | exact Below.refl _ _ | refine bel ?_ | refine Below.drew ?_ | refine bt3 ?_)⟩
set_option maxRecDepth 100000 in
set_option maxHeartbeats 4000000 in
theorem sm_en (ma mb : Bool) (hmm : (ma == mb) = false) (w : World) :
   Calls Tryz.prog 138 #[.agg #[.int .i64 24, .int .i64 (-149), .int .i64 104], .agg #[.int .u8 2, .bool ma, .int .u64 0, .int .i64 0], .agg #[.int .u8 2, .bool mb, .int .u64 0, .int .i64 0]] w fun e w' => e = .returned vN ∧ Below w.heap.size w w' := by
 have hm2 : (ma != mb) = true := by simp [bne, hmm]
 go_enter Tryz.func138, Tryz.ntmps138
 go_wp2_with (go_at_call 144; refine (vnone_any _).mono ?_; rintro e wq ⟨rfl, hq⟩; subst wq)
 refine bodyPost_ret (v := vN) (by simp [results, Tryz.f138, go_sem]) rfl ?_
 exact ⟨rfl, by repeat (first | exact Below.refl _ _ | refine bel ?_ | refine Below.drew ?_ | refine bt3 ?_)⟩
end Go.Proofs.YtibhlcfligfhdaaGreat
namespace Go.Proofs.YtibhlcfligfhdaaGreat
open Go.RowKit
set_option maxRecDepth 100000
theorem word_sn (a : Nat) (h : a < 4294967296) : Ieee.single.word (sn a) (a % 2147483648) = a := by
 have e1 : Ieee.single.signWeight = 2147483648 := rfl
 unfold Ieee.Format.word sn
 rw [e1]
 by_cases h' : a < 2147483648
 · rw [show a / 2147483648 % 2 = 0 by omega]; simp; omega
 · rw [show a / 2147483648 % 2 = 1 by omega]; simp; omega
end Go.Proofs.YtibhlcfligfhdaaGreat
namespace Go.Proofs.YtibhlcfligfhdaaGreat
open Go.RowKit
set_option maxRecDepth 100000
def na (x y : Nat) : Prop := ok x = true → ok y = true → key x ≤ key y
theorem inf_read {z : Nat} (h : z % 2147483648 = 2139095040) : Ieee.single.read z = .infinity (sn z) := by
 rw [read_single, if_neg (by omega), if_neg (by omega), if_pos h]; rfl
theorem inf_write {z : Nat} (hz : z < 4294967296) (h : z % 2147483648 = 2139095040) : Ieee.single.write (.infinity (sn z)) = z := by
 have := word_sn z hz
 rw [h] at this; exact this
theorem sum_comm' (d e : Ieee.Datum) : d.sum e = e.sum d := by
 cases d <;> cases e <;> simp only [Ieee.Datum.sum]
 · rename_i s m i t n j
   rw [Int.min_comm i j, Int.add_comm (Ieee.signed s _ _), Bool.and_comm]
 · rename_i s t
   by_cases h : s = t
   · subst h; rfl
   · rw [if_neg h, if_neg (Ne.symm h)]
end Go.Proofs.YtibhlcfligfhdaaGreat
namespace Go.Proofs.YtibhlcfligfhdaaGreat
open Go.RowKit
set_option maxRecDepth 100000
theorem read_rd (a : Nat) (h : a % 2147483648 < 2139095040) : Ieee.single.read a = .number (sn a) (rdm a) (-149 + (rdk a : Int)) := by
 rw [read_single]; unfold rdm rdk sn
 split
 · simp
 · rw [show a % 2147483648 % 8388608 = a % 8388608 by omega]
theorem sg_sn (a : Nat) (h : a < 4294967296) : sn a = sg a := by
 unfold sn sg
 rw [Bool.eq_iff_iff]
 simp only [beq_iff_eq, decide_eq_true_eq]
 omega
def sgn (s : Bool) (x : Nat) : Int := if s then -(x : Int) else (x : Int)
theorem word_wrd (m : Bool) (r : Nat) (_ : r < 2147483648) : Ieee.single.word m r = wrd m r := by
 have e1 : Ieee.single.signWeight = 2147483648 := rfl
 unfold Ieee.Format.word wrd
 rw [e1]
 cases m
 · simp
 · simp
theorem sgn_lt (ma mb : Bool) (h : ma ≠ mb) (u v : Nat) (hc : u < v) : (sgn ma u + sgn mb v).natAbs = v - u ∧ (if sgn ma u + sgn mb v = 0 then ma && mb else decide (sgn ma u + sgn mb v < 0)) = mb := by
 unfold sgn
 cases ma <;> cases mb
 · exact absurd rfl h
 · simp only [Bool.false_eq_true, if_false, if_true]
   rw [if_neg (by omega)]
   exact ⟨by omega, decide_eq_true (by omega)⟩
 · simp only [Bool.false_eq_true, if_false, if_true]
   rw [if_neg (by omega)]
   exact ⟨by omega, decide_eq_false (by omega)⟩
 · exact absurd rfl h
theorem sgn_gt (ma mb : Bool) (h : ma ≠ mb) (u v : Nat) (hc : v < u) : (sgn ma u + sgn mb v).natAbs = u - v ∧ (if sgn ma u + sgn mb v = 0 then ma && mb else decide (sgn ma u + sgn mb v < 0)) = ma := by
 unfold sgn
 cases ma <;> cases mb
 · exact absurd rfl h
 · simp only [Bool.false_eq_true, if_false, if_true]
   rw [if_neg (by omega)]
   exact ⟨by omega, decide_eq_false (by omega)⟩
 · simp only [Bool.false_eq_true, if_false, if_true]
   rw [if_neg (by omega)]
   exact ⟨by omega, decide_eq_true (by omega)⟩
 · exact absurd rfl h
theorem sgn_eq (ma mb : Bool) (h : ma ≠ mb) (u : Nat) : sgn ma u + sgn mb u = 0 ∧ (ma && mb) = false := by
 unfold sgn
 cases ma <;> cases mb
 · exact absurd rfl h
 · simp only [Bool.false_eq_true, if_false, if_true]; exact ⟨by omega, rfl⟩
 · simp only [Bool.false_eq_true, if_false, if_true]; exact ⟨by omega, rfl⟩
 · exact absurd rfl h
theorem fsum_rd (a b : Nat) (fa : a % 2147483648 < 2139095040) (fb : b % 2147483648 < 2139095040) (X Y : Nat) (p : Int) (hp : min (-149 + (rdk a : Int)) (-149 + (rdk b : Int)) = p) (hX : -149 + (rdk a : Int) - p = X) (hY : -149 + (rdk b : Int) - p = Y) (T : Int) (hT : sgn (sn a) (rdm a * 2 ^ X) + sgn (sn b) (rdm b * 2 ^ Y) = T) :
   fsum a b = Ieee.single.word (if T = 0 then sn a && sn b else decide (T < 0)) (min (rg Ieee.single T.natAbs p) 2139095040) := by
 have h0 : Ieee.single.add a b = ((Ieee.single.read a).sum (Ieee.single.read b)).map Ieee.single.write := rfl
 rw [read_rd a fa, read_rd b fb] at h0
 simp only [Ieee.Datum.sum, Option.map_some] at h0
 rw [hp, hX, hY, Int.toNat_natCast, Int.toNat_natCast, signed_val, signed_val] at h0
 have e : ((if sn a = true then -((rdm a * 2 ^ X : Nat) : Int) else ((rdm a * 2 ^ X : Nat) : Int)) + if sn b = true then -((rdm b * 2 ^ Y : Nat) : Int) else ((rdm b * 2 ^ Y : Nat) : Int)) = T := hT
 rw [e] at h0
 unfold fsum
 rw [h0, nearest_word]
 rfl
def tv (a : Nat) : Value := if ok a = false then vN else if a % 2147483648 = 2139095040 then vE (sg a) else vF (sg a) (rdm a) (-149 + (rdk a : Int))
theorem tv_none {a : Nat} (h : ok a = false) : tv a = vN := by rw [tv, if_pos h]
theorem tv_inf {a : Nat} (h : a % 2147483648 = 2139095040) : tv a = vE (sg a) := by rw [tv, if_neg (by simp [ok, h]), if_pos h]
theorem tv_fin {a : Nat} (h : a % 2147483648 < 2139095040) : tv a = vF (sg a) (rdm a) (-149 + (rdk a : Int)) := by rw [tv, if_neg (by simp [ok]; omega), if_neg (by omega)]
theorem ok_cases (a : Nat) : ok a = false ∨ a % 2147483648 = 2139095040 ∨ a % 2147483648 < 2139095040 := by
 unfold ok
 by_cases h : a % 2147483648 ≤ 2139095040
 · right; omega
 · left; exact decide_eq_false h
theorem take_any (a : Nat) (w : World) (h : a < 4294967296) :
   Calls Tryz.prog 100 #[.int .u32 a] w fun e w' => e = .returned (tv a) ∧ Below w.heap.size w w' := by
 rcases ok_cases a with h1 | h1 | h1
 · rw [tv_none h1]; exact take_none a w h h1
 · rw [tv_inf h1]; exact take_endless a w h h1
 · rw [tv_fin h1]; exact take_fin a w h h1
theorem rd_k {a : Nat} (h : a % 2147483648 < 2139095040) : rdk a ≤ 253 ∧ rdm a < 16777216 := by
 obtain ⟨h1, h2, h3⟩ := rd_rung a
 exact ⟨by omega, h2⟩
def LayV (v : Value) (x : Nat) : Prop := ∀ w, Calls Tryz.prog 104 #[v] w fun e w' => e = .returned (.int .u32 (x : Int)) ∧ Below w.heap.size w w'
theorem layV_fit {m : Bool} {n : Nat} {p : Int} {r x : Nat} (h : Fits n p r) (hx : x = wrd m (min r 2139095040)) : LayV (hdV m n p) x := fun w => by rw [hx]; exact lay_any m n p r w h
theorem sumv_fin (a b : Nat) (w : World) (ha : a < 4294967296) (hb : b < 4294967296) (fa : a % 2147483648 < 2139095040) (fb : b % 2147483648 < 2139095040) :
   Calls Tryz.prog 138 #[.agg #[.int .i64 24, .int .i64 (-149), .int .i64 104], vF (sg a) (rdm a) (-149 + (rdk a : Int)), vF (sg b) (rdm b) (-149 + (rdk b : Int))] w fun e w' => (∃ v, e = .returned v ∧ LayV v (fsum a b)) ∧ Below w.heap.size w w' := by
 obtain ⟨ka, na⟩ := rd_k fa
 obtain ⟨kb, nb⟩ := rd_k fb
 have hsa := sg_sn a ha
 have hsb := sg_sn b hb
 obtain ⟨p, hp⟩ : ∃ p, min (-149 + (rdk a : Int)) (-149 + (rdk b : Int)) = p := ⟨_, rfl⟩
 obtain ⟨X, hX⟩ : ∃ X : Nat, -149 + (rdk a : Int) - p = X := ⟨(-149 + (rdk a : Int) - p).toNat, by omega⟩
 obtain ⟨Y, hY⟩ : ∃ Y : Nat, -149 + (rdk b : Int) - p = Y := ⟨(-149 + (rdk b : Int) - p).toNat, by omega⟩
 have hf := fun T hT => fsum_rd a b fa fb X Y p hp hX hY T hT
 rw [hsa, hsb] at hf
 generalize sg a = ma at *
 generalize sg b = mb at *
 generalize rdm a = x at *
 generalize rdm b = y at *
 have hmin : ∀ r : Nat, min r 2139095040 < 2147483648 := fun r => by omega
 by_cases hs : ma = mb
 · subst hs
   have hab : (sgn ma (x * 2 ^ X) + sgn ma (y * 2 ^ Y)).natAbs = x * 2 ^ X + y * 2 ^ Y := by unfold sgn; split <;> omega
   have hneg : (if sgn ma (x * 2 ^ X) + sgn ma (y * 2 ^ Y) = 0 then ma && ma else decide (sgn ma (x * 2 ^ X) + sgn ma (y * 2 ^ Y) < 0)) = ma := by
     unfold sgn
     cases ma
     · simp only [Bool.false_eq_true, if_false, Bool.and_self]
       split
       · rfl
       · exact decide_eq_false (by omega)
     · simp only [if_true, Bool.and_self]
       split
       · rfl
       · exact decide_eq_true (by omega)
   have hF := hf _ rfl
   rw [hab, hneg, word_wrd _ _ (hmin _)] at hF
   by_cases ho : (-149 + (rdk b : Int)) < -149 + (rdk a : Int)
   · obtain rfl : p = -149 + (rdk b : Int) := by omega
     exact (sumLp ma x y X Y _ _ w na nb (by omega) (by omega) (by omega) (by omega) ho hX (by omega)).mono fun e w' ⟨⟨n, q, he, hq⟩, hbl⟩ => ⟨⟨_, he, layV_fit hq hF⟩, hbl⟩
   · obtain rfl : p = -149 + (rdk a : Int) := by omega
     exact (sumGp ma x y X Y _ _ w na nb (by omega) (by omega) (by omega) (by omega) ho (by omega) hY).mono fun e w' ⟨⟨n, q, he, hq⟩, hbl⟩ => ⟨⟨_, he, layV_fit hq hF⟩, hbl⟩
 · have hmm : (ma == mb) = false := by rw [beq_eq_false_iff_ne]; exact hs
   rcases Nat.lt_trichotomy (x * 2 ^ X) (y * 2 ^ Y) with hc | hc | hc
   · obtain ⟨hab, hneg⟩ := sgn_lt ma mb hs _ _ hc
     have hF := hf _ rfl
     rw [hab, hneg, word_wrd _ _ (hmin _)] at hF
     by_cases ho : (-149 + (rdk b : Int)) < -149 + (rdk a : Int)
     · obtain rfl : p = -149 + (rdk b : Int) := by omega
       exact (sumLl ma mb hmm x y X Y _ _ w na nb (by omega) (by omega) (by omega) (by omega) ho hX (by omega) hc).mono fun e w' ⟨⟨n, q, he, hq⟩, hbl⟩ => ⟨⟨_, he, layV_fit hq hF⟩, hbl⟩
     · obtain rfl : p = -149 + (rdk a : Int) := by omega
       exact (sumGl ma mb hmm x y X Y _ _ w na nb (by omega) (by omega) (by omega) (by omega) ho (by omega) hY hc).mono fun e w' ⟨⟨n, q, he, hq⟩, hbl⟩ => ⟨⟨_, he, layV_fit hq hF⟩, hbl⟩
   · obtain ⟨hab, hmf⟩ := sgn_eq ma mb hs (y * 2 ^ Y)
     rw [show sgn ma (y * 2 ^ Y) = sgn ma (x * 2 ^ X) by rw [hc]] at hab
     have hF := hf _ hab
     rw [if_pos rfl, word_wrd _ _ (hmin _)] at hF
     rw [hmf] at hF
     have hF' : fsum a b = wrd false (min 0 2139095040) := hF
     by_cases ho : (-149 + (rdk b : Int)) < -149 + (rdk a : Int)
     · obtain rfl : p = -149 + (rdk b : Int) := by omega
       exact (sumLz ma mb hmm x y X Y _ _ w na nb (by omega) (by omega) (by omega) (by omega) ho hX (by omega) hc).mono fun e w' ⟨⟨n, q, he, hq⟩, hbl⟩ => ⟨⟨_, he, layV_fit hq hF'⟩, hbl⟩
     · obtain rfl : p = -149 + (rdk a : Int) := by omega
       exact (sumGz ma mb hmm x y X Y _ _ w na nb (by omega) (by omega) (by omega) (by omega) ho (by omega) hY hc).mono fun e w' ⟨⟨n, q, he, hq⟩, hbl⟩ => ⟨⟨_, he, layV_fit hq hF'⟩, hbl⟩
   · obtain ⟨hab, hneg⟩ := sgn_gt ma mb hs _ _ hc
     have hF := hf _ rfl
     rw [hab, hneg, word_wrd _ _ (hmin _)] at hF
     by_cases ho : (-149 + (rdk b : Int)) < -149 + (rdk a : Int)
     · obtain rfl : p = -149 + (rdk b : Int) := by omega
       exact (sumLg ma mb hmm x y X Y _ _ w na nb (by omega) (by omega) (by omega) (by omega) ho hX (by omega) hc).mono fun e w' ⟨⟨n, q, he, hq⟩, hbl⟩ => ⟨⟨_, he, layV_fit hq hF⟩, hbl⟩
     · obtain rfl : p = -149 + (rdk a : Int) := by omega
       exact (sumGg ma mb hmm x y X Y _ _ w na nb (by omega) (by omega) (by omega) (by omega) ho (by omega) hY hc).mono fun e w' ⟨⟨n, q, he, hq⟩, hbl⟩ => ⟨⟨_, he, layV_fit hq hF⟩, hbl⟩
end Go.Proofs.YtibhlcfligfhdaaGreat
namespace Go.Proofs.YtibhlcfligfhdaaGreat
open Go.RowKit
set_option maxRecDepth 100000
set_option maxRecDepth 100000 in
set_option maxHeartbeats 1000000 in
theorem flip2 (m : Bool) (w : World)  :
   Calls Tryz.prog 139 #[.agg #[.int .u8 2, .bool m, .int .u64 0, .int .i64 0]] w fun e w' => e = .returned (.agg #[.int .u8 2, .bool (!m), .int .u64 0, .int .i64 0]) ∧ Below w.heap.size w w' := by
 go_enter Tryz.func139, Tryz.ntmps139
 go_wp2
 refine bodyPost_ret (v := .agg #[.int .u8 2, .bool (!m), .int .u64 0, .int .i64 0]) (by simp [results, Tryz.f139, go_sem]) rfl ?_
 exact ⟨rfl, by repeat (first | exact Below.refl _ _ | refine bel ?_ | refine Below.drew ?_)⟩
set_option maxRecDepth 100000 in
set_option maxHeartbeats 1000000 in
theorem flip3 (m : Bool) (n p : Int) (w : World)  :
   Calls Tryz.prog 139 #[.agg #[.int .u8 3, .bool m, .int .u64 n, .int .i64 p]] w fun e w' => e = .returned (.agg #[.int .u8 3, .bool (!m), .int .u64 n, .int .i64 p]) ∧ Below w.heap.size w w' := by
 go_enter Tryz.func139, Tryz.ntmps139
 go_wp2
 refine bodyPost_ret (v := .agg #[.int .u8 3, .bool (!m), .int .u64 n, .int .i64 p]) (by simp [results, Tryz.f139, go_sem]) rfl ?_
 exact ⟨rfl, by repeat (first | exact Below.refl _ _ | refine bel ?_ | refine Below.drew ?_)⟩
set_option maxRecDepth 100000 in
set_option maxHeartbeats 1000000 in
theorem flip1  (w : World)  :
   Calls Tryz.prog 139 #[.agg #[.int .u8 1, .bool false, .int .u64 0, .int .i64 0]] w fun e w' => e = .returned (.agg #[.int .u8 1, .bool false, .int .u64 0, .int .i64 0]) ∧ Below w.heap.size w w' := by
 go_enter Tryz.func139, Tryz.ntmps139
 go_wp2
 refine bodyPost_ret (v := .agg #[.int .u8 1, .bool false, .int .u64 0, .int .i64 0]) (by simp [results, Tryz.f139, go_sem]) rfl ?_
 exact ⟨rfl, by repeat (first | exact Below.refl _ _ | refine bel ?_ | refine Below.drew ?_)⟩
theorem tn_mod (b : Nat) (h : b < 4294967296) : tn b % 2147483648 = b % 2147483648 ∧ sg (tn b) = !sg b := by
 unfold tn sg
 split
 · exact ⟨by omega, by rw [decide_eq_true (by omega), decide_eq_false (by omega)]; rfl⟩
 · exact ⟨by omega, by rw [decide_eq_false (by omega), decide_eq_true (by omega)]; rfl⟩
theorem rdm_mod {a b : Nat} (h : a % 2147483648 = b % 2147483648) : rdm a = rdm b ∧ rdk a = rdk b := by
 unfold rdm rdk
 rw [h, show a % 8388608 = b % 8388608 by omega]
 exact ⟨rfl, rfl⟩
theorem flip_any (b : Nat) (w : World) (h : b < 4294967296) :
   Calls Tryz.prog 139 #[tv b] w fun e w' => e = .returned (tv (tn b)) ∧ Below w.heap.size w w' := by
 obtain ⟨h1, h2⟩ := tn_mod b h
 rcases ok_cases b with c | c | c
 · rw [tv_none c, tv_none (by rw [ok, h1]; exact c)]; exact flip1 w
 · rw [tv_inf c, tv_inf (by rw [h1]; exact c), h2]; exact flip2 _ w
 · obtain ⟨e1, e2⟩ := rdm_mod h1
   rw [tv_fin c, tv_fin (by rw [h1]; exact c), h2, e1, e2]; exact flip3 _ _ _ w
theorem fsum_inf_n {x c : Nat} (hi : x % 2147483648 = 2139095040) (hj : c % 2147483648 = 2139095040) (hs : sn x ≠ sn c) : fsum x c = 2143289344 := by
 have h0 : Ieee.single.add x c = ((Ieee.single.read x).sum (Ieee.single.read c)).map Ieee.single.write := rfl
 rw [inf_read hi, inf_read hj] at h0
 unfold fsum
 rw [h0]
 simp only [Ieee.Datum.sum, if_neg hs]
 rfl
theorem fsum_inf_s {x c : Nat} (hx : x < 4294967296) (hi : x % 2147483648 = 2139095040) (hj : c % 2147483648 = 2139095040) (hs : sn x = sn c) : fsum x c = x := by
 have h0 : Ieee.single.add x c = ((Ieee.single.read x).sum (Ieee.single.read c)).map Ieee.single.write := rfl
 rw [inf_read hi, inf_read hj] at h0
 unfold fsum
 rw [h0]
 simp only [Ieee.Datum.sum, if_pos hs]
 exact inf_write hx hi
theorem fsum_inf_f {x c : Nat} (hx : x < 4294967296) (hi : x % 2147483648 = 2139095040) (hf : c % 2147483648 < 2139095040) : fsum x c = x := by
 have h0 : Ieee.single.add x c = ((Ieee.single.read x).sum (Ieee.single.read c)).map Ieee.single.write := rfl
 obtain ⟨m, k, e, -⟩ := read_fin c hf
 rw [inf_read hi, e] at h0
 unfold fsum
 rw [h0]
 exact inf_write hx hi
theorem fsum_fin_i {x c : Nat} (hc : c < 4294967296) (hi : c % 2147483648 = 2139095040) (hf : x % 2147483648 < 2139095040) : fsum x c = c := by
 have e : fsum x c = fsum c x := by unfold fsum Ieee.Format.add; rw [sum_comm']
 rw [e]; exact fsum_inf_f hc hi hf
theorem wrd_inf {a : Nat} (h : a < 4294967296) (hi : a % 2147483648 = 2139095040) : wrd (sg a) 2139095040 = a := by
 have := wrd_sg a h
 rwa [hi] at this
theorem layAt {v : Value} {x : Nat} (h : LayV v x) (w : World) : Calls Tryz.prog 104 #[v] w fun e w' => e = .returned (.int .u32 (x : Int)) ∧ Below w.heap.size w w' := h w
theorem layV_none : LayV vN 2143289344 := fun w => lay_none w
theorem layV_inf {a : Nat} (h : a < 4294967296) (hi : a % 2147483648 = 2139095040) : LayV (vE (sg a)) a := fun w => by
 have := lay_endless (sg a) w
 rwa [wrd_inf h hi] at this
theorem sumv_any (a b : Nat) (w : World) (ha : a < 4294967296) (hb : b < 4294967296) :
   Calls Tryz.prog 138 #[.agg #[.int .i64 24, .int .i64 (-149), .int .i64 104], tv a, tv b] w fun e w' => (∃ v, e = .returned v ∧ LayV v (fsum a b)) ∧ Below w.heap.size w w' := by
 rcases ok_cases a with ca | ca | ca
 · rw [tv_none ca, fsum_nan (Or.inl ca)]
   rcases ok_cases b with cb | cb | cb
   · rw [tv_none cb]; exact (sm_n1 _ _ _ _ w).mono fun e w' ⟨he, h⟩ => ⟨⟨_, he, layV_none⟩, h⟩
   · rw [tv_inf cb]; exact (sm_n1 _ _ _ _ w).mono fun e w' ⟨he, h⟩ => ⟨⟨_, he, layV_none⟩, h⟩
   · rw [tv_fin cb]; exact (sm_n1 _ _ _ _ w).mono fun e w' ⟨he, h⟩ => ⟨⟨_, he, layV_none⟩, h⟩
 · rw [tv_inf ca]
   rcases ok_cases b with cb | cb | cb
   · rw [tv_none cb, fsum_nan (Or.inr cb)]; exact (sm_n2 2 _ _ _ w rfl).mono fun e w' ⟨he, h⟩ => ⟨⟨_, he, layV_none⟩, h⟩
   · rw [tv_inf cb]
     by_cases hs : sg a = sg b
     · rw [fsum_inf_s ha ca cb (by rw [sg_sn a ha, sg_sn b hb]; exact hs), ← hs]
       exact (sm_ee (sg a) w).mono fun e w' ⟨he, h⟩ => ⟨⟨_, he, layV_inf ha ca⟩, h⟩
     · rw [fsum_inf_n ca cb (by rw [sg_sn a ha, sg_sn b hb]; exact hs)]
       exact (sm_en (sg a) (sg b) (by rw [beq_eq_false_iff_ne]; exact hs) w).mono fun e w' ⟨he, h⟩ => ⟨⟨_, he, layV_none⟩, h⟩
   · rw [tv_fin cb, fsum_inf_f ha ca cb]; exact (sm_ef (sg a) _ _ _ w).mono fun e w' ⟨he, h⟩ => ⟨⟨_, he, layV_inf ha ca⟩, h⟩
 · rcases ok_cases b with cb | cb | cb
   · rw [tv_fin ca, tv_none cb, fsum_nan (Or.inr cb)]; exact (sm_n2 3 _ _ _ w rfl).mono fun e w' ⟨he, h⟩ => ⟨⟨_, he, layV_none⟩, h⟩
   · rw [tv_fin ca, tv_inf cb, fsum_fin_i hb cb ca]; exact (sm_fe _ (sg b) _ _ w).mono fun e w' ⟨he, h⟩ => ⟨⟨_, he, layV_inf hb cb⟩, h⟩
   · rw [tv_fin ca, tv_fin cb]; exact sumv_fin a b w ha hb ca cb
set_option maxRecDepth 100000 in
set_option maxHeartbeats 1000000 in
theorem sums_any (a b : Nat) (w : World) (ha : a < 4294967296) (hb : b < 4294967296) :
   Calls Tryz.prog 110 #[.int .u32 a, .int .u32 b] w fun e w' => e = .returned (.int .u32 (fsum a b)) ∧ Below w.heap.size w w' := by
 have HB : Below w.heap.size w w := Below.refl _ _
 go_enter Tryz.func110, Tryz.ntmps110
 go_wp2_with (first
   | (go_at_call 106; refine (form_any _).mono ?_; rintro e wq ⟨rfl, hq⟩; subst wq)
   | (go_at_call 100; with_reducible refine (take_any a _ ha).mono ?_; rintro e w1 ⟨rfl, h1⟩; replace HB : Below w.heap.size w w1 := bt2 h1 (by apply_rules [HB, Below.refl, bel, Below.drew, bt3]))
   | (go_at_call 100; with_reducible refine (take_any b _ hb).mono ?_; rintro e w1 ⟨rfl, h1⟩; replace HB : Below w.heap.size w w1 := bt2 h1 (by apply_rules [HB, Below.refl, bel, Below.drew, bt3]))
   | (go_at_call 138; with_reducible refine (sumv_any a b _ ha hb).mono ?_; rintro e w2 ⟨⟨v, rfl, hv⟩, h2⟩; replace HB : Below w.heap.size w w2 := bt2 h2 (by apply_rules [HB, Below.refl, bel, Below.drew, bt3]))
   | (go_at_call 104; with_reducible refine (layAt hv _).mono ?_; rintro e w3 ⟨rfl, h3⟩; replace HB : Below w.heap.size w w3 := bt2 h3 (by apply_rules [HB, Below.refl, bel, Below.drew, bt3])))
 go_ret
 exact ⟨rfl, by (repeat (first | exact HB | exact Below.refl _ _ | with_reducible first | refine bel ?_ | refine Below.drew ?_ | refine bt3 ?_))⟩
set_option maxRecDepth 100000 in
set_option maxHeartbeats 1000000 in
theorem rests_any (a b : Nat) (w : World) (ha : a < 4294967296) (hb : b < 4294967296) :
   Calls Tryz.prog 111 #[.int .u32 a, .int .u32 b] w fun e w' => e = .returned (.int .u32 (fsum a (tn b))) ∧ Below w.heap.size w w' := by
 have HB : Below w.heap.size w w := Below.refl _ _
 go_enter Tryz.func111, Tryz.ntmps111
 go_wp2_with (first
   | (go_at_call 106; refine (form_any _).mono ?_; rintro e wq ⟨rfl, hq⟩; subst wq)
   | (go_at_call 100; with_reducible refine (take_any a _ ha).mono ?_; rintro e w1 ⟨rfl, h1⟩; replace HB : Below w.heap.size w w1 := bt2 h1 (by apply_rules [HB, Below.refl, bel, Below.drew, bt3]))
   | (go_at_call 100; with_reducible refine (take_any b _ hb).mono ?_; rintro e w1 ⟨rfl, h1⟩; replace HB : Below w.heap.size w w1 := bt2 h1 (by apply_rules [HB, Below.refl, bel, Below.drew, bt3]))
   | (go_at_call 139; with_reducible refine (flip_any b _ hb).mono ?_; rintro e w1 ⟨rfl, h1⟩; replace HB : Below w.heap.size w w1 := bt2 h1 (by apply_rules [HB, Below.refl, bel, Below.drew, bt3]))
   | (go_at_call 138; with_reducible refine (sumv_any a (tn b) _ ha (tn_lt hb)).mono ?_; rintro e w2 ⟨⟨v, rfl, hv⟩, h2⟩; replace HB : Below w.heap.size w w2 := bt2 h2 (by apply_rules [HB, Below.refl, bel, Below.drew, bt3]))
   | (go_at_call 104; with_reducible refine (layAt hv _).mono ?_; rintro e w3 ⟨rfl, h3⟩; replace HB : Below w.heap.size w w3 := bt2 h3 (by apply_rules [HB, Below.refl, bel, Below.drew, bt3])))
 go_ret
 exact ⟨rfl, by (repeat (first | exact HB | exact Below.refl _ _ | with_reducible first | refine bel ?_ | refine Below.drew ?_ | refine bt3 ?_))⟩
end Go.Proofs.YtibhlcfligfhdaaGreat
