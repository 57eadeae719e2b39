import Derived.Test.YtjggbdlmghembaaGreatCSRnE
import Derived.Test.YtjggbdlmghembaaGreatCSSmB0
import Derived.Test.YtjggbdlmghembaaGreatCSSmB3
namespace Go.Proofs.YtjggbdlmghembaaGreat
open Go.RowKit
set_option maxRecDepth 100000

set_option maxRecDepth 100000 in
set_option maxHeartbeats 4000000 in
theorem sumLg (ma : Bool) (mb : Bool) (hmm : (ma == mb) = false) (na nb X Y : Nat) (pa pb : Int) (w : World) (hna : na < 16777216) (hnb : nb < 16777216) (h1 : -149 ≤ pa) (h2 : pa ≤ 104) (h3 : -149 ≤ pb) (h4 : pb ≤ 104) (ho : pb < pa) (hX : pa - pb = X) (hY : 0 = Y) (hc : nb * 2 ^ Y < na * 2 ^ X) :
    Calls Tryz.prog 93 #[.agg #[.int .i64 24, .int .i64 (-149), .int .i64 104], .agg #[.int .u8 3, .bool ma, .int .u64 na, .int .i64 pa], .agg #[.int .u8 3, .bool mb, .int .u64 nb, .int .i64 pb]] w fun e w' => (∃ n q, e = .returned (hdV ma n q) ∧ Fits n q (rg Ieee.single (na * 2 ^ X - nb * 2 ^ Y) pb)) ∧ Below w.heap.size w w' := by
  have hXl : X ≤ 600 := by omega
  have hYl : Y ≤ 600 := by omega
  have HXw : Hid (IntKind.i64.wrap (X : Int) = X) := by rw [Hid, IntKind.wrap_i64]; omega
  have HYw : Hid (IntKind.i64.wrap (Y : Int) = Y) := by rw [Hid, IntKind.wrap_i64]; omega
  have HPx := up_pow na X 20 hna (by omega)
  have HPy := up_pow nb Y 20 hnb (by omega)
  have HB : Below ((((w.alloc ob).alloc (oV 3 ma na pa)).alloc (oV 3 mb nb pb)).alloc oz).heap.size ((((w.alloc ob).alloc (oV 3 ma na pa)).alloc (oV 3 mb nb pb)).alloc oz) ((((w.alloc ob).alloc (oV 3 ma na pa)).alloc (oV 3 mb nb pb)).alloc oz) := Below.refl _ _
  have HZw : Hid (IntKind.i64.wrap 0 = (Y : Int)) := by rw [Hid, ← hY]; rfl
  have HAG : Hid (ag (na * 2 ^ X) (nb * 2 ^ Y) = 1) := by rw [Hid]; exact ag_gt hc
  have HC : Hid (nb * 2 ^ Y < na * 2 ^ X) := hc
  clear hc
  clear hY
  go_enter Tryz.func93, Tryz.ntmps93
  go_wp2
  go_region_held3 (fun w' => w'.cell? ⟨w.heap.size, 0, none⟩ = some (.int .i64 24) ∧ w'.cell? ⟨w.heap.size, 1, none⟩ = some (.int .i64 (-149)) ∧ w'.cell? ⟨w.heap.size, 2, none⟩ = some (.int .i64 104) ∧ w'.cell? ⟨w.heap.size + 1, 0, none⟩ = some (.int .u8 3) ∧ w'.cell? ⟨w.heap.size + 1, 1, none⟩ = some (.bool ma) ∧ w'.cell? ⟨w.heap.size + 1, 2, none⟩ = some (.int .u64 (na : Nat)) ∧ w'.cell? ⟨w.heap.size + 1, 3, none⟩ = some (.int .i64 pa) ∧ w'.cell? ⟨w.heap.size + 1 + 1, 0, none⟩ = some (.int .u8 3) ∧ w'.cell? ⟨w.heap.size + 1 + 1, 1, none⟩ = some (.bool mb) ∧ w'.cell? ⟨w.heap.size + 1 + 1, 2, none⟩ = some (.int .u64 (nb : Nat)) ∧ w'.cell? ⟨w.heap.size + 1 + 1, 3, none⟩ = some (.int .i64 pb)) ((first | ((try dsimp only); with_reducible refine jS ?_; (repeat (first | exact HB | exact Below.refl _ _ | with_reducible refine bel ?_ | with_reducible refine Below.drew ?_ | with_reducible refine bt3 ?_)); done) | (refine jF ?_; (repeat (first | exact HB | exact Below.refl _ _ | with_reducible refine bel ?_ | with_reducible refine Below.drew ?_ | with_reducible refine bt3 ?_)); done))) (first
    | (go_at_call 70; with_reducible refine (nat_any na _ (by omega)).mono ?_; rintro e w1 ⟨⟨v1, rfl, hv1⟩, hb1⟩; obtain ⟨ao1, cap1, zs1, rfl, hc1, hn1, hval1, hN1, hW1, hr1⟩ := hv1.dest; replace HB : Below ((((w.alloc ob).alloc (oV 3 ma na pa)).alloc (oV 3 mb nb pb)).alloc oz).heap.size ((((w.alloc ob).alloc (oV 3 ma na pa)).alloc (oV 3 mb nb pb)).alloc oz) w1 := bt2 hb1 (by (repeat (first | exact HB | exact Below.refl _ _ | with_reducible refine bel ?_ | with_reducible refine Below.drew ?_ | with_reducible refine bt3 ?_))); clear hb1 hv1)
    | (go_at_call 85; (first | rw [HXw.out] | rw [HZw.out]); with_reducible refine (up_any ao1 cap1 zs1 X _ (by have := small_len hN1 hval1 (by omega); omega) (by omega) (RU hr1 (by (repeat (first | exact Below.refl _ _ | with_reducible refine bel ?_ | with_reducible refine Below.drew ?_ | with_reducible refine bt3 ?_)))) hW1).mono ?_; rintro e w2 ⟨⟨v2, rfl, hv2⟩, hb2⟩; obtain ⟨ao2, cap2, zs2, rfl, hc2, hn2, hval2, hN2, hW2, hr2⟩ := hv2.dest; replace HB : Below ((((w.alloc ob).alloc (oV 3 ma na pa)).alloc (oV 3 mb nb pb)).alloc oz).heap.size ((((w.alloc ob).alloc (oV 3 ma na pa)).alloc (oV 3 mb nb pb)).alloc oz) w2 := bt2 hb2 (by (repeat (first | exact HB | exact Below.refl _ _ | with_reducible refine bel ?_ | with_reducible refine Below.drew ?_ | with_reducible refine bt3 ?_))); clear hb2 hv2; rw [hval1] at hval2))
  have HBx : Below w2.heap.size w2 w2 := Below.refl _ _
  obtain ⟨x0, x1, x2, x3, x4, x5, x6, x7, x8, x9, x10⟩ := jF HB
  go_wp2
  go_region_held3 (fun w' => w'.cell? ⟨w.heap.size, 0, none⟩ = some (.int .i64 24) ∧ w'.cell? ⟨w.heap.size, 1, none⟩ = some (.int .i64 (-149)) ∧ w'.cell? ⟨w.heap.size, 2, none⟩ = some (.int .i64 104) ∧ w'.cell? ⟨w.heap.size + 1, 0, none⟩ = some (.int .u8 3) ∧ w'.cell? ⟨w.heap.size + 1, 1, none⟩ = some (.bool ma) ∧ w'.cell? ⟨w.heap.size + 1, 2, none⟩ = some (.int .u64 (na : Nat)) ∧ w'.cell? ⟨w.heap.size + 1, 3, none⟩ = some (.int .i64 pa) ∧ w'.cell? ⟨w.heap.size + 1 + 1, 0, none⟩ = some (.int .u8 3) ∧ w'.cell? ⟨w.heap.size + 1 + 1, 1, none⟩ = some (.bool mb) ∧ w'.cell? ⟨w.heap.size + 1 + 1, 2, none⟩ = some (.int .u64 (nb : Nat)) ∧ w'.cell? ⟨w.heap.size + 1 + 1, 3, none⟩ = some (.int .i64 pb)) ((first | ((try dsimp only); with_reducible refine jS ?_; (repeat (first | exact HB | exact Below.refl _ _ | with_reducible refine bel ?_ | with_reducible refine Below.drew ?_ | with_reducible refine bt3 ?_)); done) | (refine jF ?_; (repeat (first | exact HB | exact Below.refl _ _ | with_reducible refine bel ?_ | with_reducible refine Below.drew ?_ | with_reducible refine bt3 ?_)); done))) (first
    | (go_at_call 70; with_reducible refine (nat_any nb _ (by omega)).mono ?_; rintro e w3 ⟨⟨v3, rfl, hv3⟩, hb3⟩; obtain ⟨ao3, cap3, zs3, rfl, hc3, hn3, hval3, hN3, hW3, hr3⟩ := hv3.dest; replace HB : Below ((((w.alloc ob).alloc (oV 3 ma na pa)).alloc (oV 3 mb nb pb)).alloc oz).heap.size ((((w.alloc ob).alloc (oV 3 ma na pa)).alloc (oV 3 mb nb pb)).alloc oz) w3 := bt2 hb3 (by (repeat (first | exact HB | exact Below.refl _ _ | with_reducible refine bel ?_ | with_reducible refine Below.drew ?_ | with_reducible refine bt3 ?_))); replace HBx : Below w2.heap.size w2 w3 := bt2 hb3 (by (repeat (first | exact HBx | exact Below.refl _ _ | with_reducible refine bel ?_ | with_reducible refine Below.drew ?_ | with_reducible refine bt3 ?_))); clear hb3 hv3)
    | (go_at_call 85; (first | rw [HYw.out] | rw [HZw.out]); with_reducible refine (up_any ao3 cap3 zs3 Y _ (by have := small_len hN3 hval3 (by omega); omega) (by omega) (RU hr3 (by (repeat (first | exact Below.refl _ _ | with_reducible refine bel ?_ | with_reducible refine Below.drew ?_ | with_reducible refine bt3 ?_)))) hW3).mono ?_; rintro e w5 ⟨⟨v5, rfl, hv5⟩, hb5⟩; obtain ⟨ao5, cap5, zs5, rfl, hc5, hn5, hval5, hN5, hW5, hr5⟩ := hv5.dest; replace HB : Below ((((w.alloc ob).alloc (oV 3 ma na pa)).alloc (oV 3 mb nb pb)).alloc oz).heap.size ((((w.alloc ob).alloc (oV 3 ma na pa)).alloc (oV 3 mb nb pb)).alloc oz) w5 := bt2 hb5 (by (repeat (first | exact HB | exact Below.refl _ _ | with_reducible refine bel ?_ | with_reducible refine Below.drew ?_ | with_reducible refine bt3 ?_))); replace HBx : Below w2.heap.size w2 w5 := bt2 hb5 (by (repeat (first | exact HBx | exact Below.refl _ _ | with_reducible refine bel ?_ | with_reducible refine Below.drew ?_ | with_reducible refine bt3 ?_))); clear hb5 hv5; rw [hval3] at hval5))
  have hl2 : zs2.length ≤ 20 := len_pow hN2 hval2 20 HPx
  have hl5 : zs5.length ≤ 20 := len_pow hN5 hval5 20 HPy
  clear x0 x1 x2 x3 x4 x5 x6 x7 x8 x9 x10
  obtain ⟨x0, x1, x2, x3, x4, x5, x6, x7, x8, x9, x10⟩ := jF HB
  have hle : nv zs5 ≤ nv zs2 := by rw [hval2, hval5]; exact Nat.le_of_lt HC.out
  have hll : zs5.length ≤ zs2.length := norm_len hN5 _ (Nat.lt_of_le_of_lt hle (nv_lt hW2))
  have HPz : Hid (na * 2 ^ X - nb * 2 ^ Y < 2 ^ (32 * 20)) := Nat.lt_of_le_of_lt (Nat.sub_le _ _) HPx
  go_wp2_with (go_at_call 90; with_reducible refine (against_any ao2 ao5 cap2 cap5 zs2 zs5 _ (by omega) (by omega) (RU hr2 (by (repeat (first | exact HBx | exact Below.refl _ _ | with_reducible refine bel ?_ | with_reducible refine Below.drew ?_ | with_reducible refine bt3 ?_)))) (RU hr5 (by (repeat (first | exact Below.refl _ _ | with_reducible refine bel ?_ | with_reducible refine Below.drew ?_ | with_reducible refine bt3 ?_)))) hW2 hW5 hN2 hN5).mono ?_; rintro e wq ⟨rfl, kq, hq⟩; subst wq; rw [hval2, hval5, HAG.out])
  go_region_held3 (fun w' => w'.cell? ⟨w.heap.size, 0, none⟩ = some (.int .i64 24) ∧ w'.cell? ⟨w.heap.size, 1, none⟩ = some (.int .i64 (-149)) ∧ w'.cell? ⟨w.heap.size, 2, none⟩ = some (.int .i64 104) ∧ w'.cell? ⟨w.heap.size + 1, 0, none⟩ = some (.int .u8 3) ∧ w'.cell? ⟨w.heap.size + 1, 1, none⟩ = some (.bool ma) ∧ w'.cell? ⟨w.heap.size + 1, 2, none⟩ = some (.int .u64 (na : Nat)) ∧ w'.cell? ⟨w.heap.size + 1, 3, none⟩ = some (.int .i64 pa) ∧ w'.cell? ⟨w.heap.size + 1 + 1, 0, none⟩ = some (.int .u8 3) ∧ w'.cell? ⟨w.heap.size + 1 + 1, 1, none⟩ = some (.bool mb) ∧ w'.cell? ⟨w.heap.size + 1 + 1, 2, none⟩ = some (.int .u64 (nb : Nat)) ∧ w'.cell? ⟨w.heap.size + 1 + 1, 3, none⟩ = some (.int .i64 pb)) ((first | ((try dsimp only); with_reducible refine jS ?_; (repeat (first | exact HB | exact Below.refl _ _ | with_reducible refine bel ?_ | with_reducible refine Below.drew ?_ | with_reducible refine bt3 ?_)); done) | (refine jF ?_; (repeat (first | exact HB | exact Below.refl _ _ | with_reducible refine bel ?_ | with_reducible refine Below.drew ?_ | with_reducible refine bt3 ?_)); done))) (first
    | (go_at_call 89; with_reducible refine (less_any ao2 ao5 cap2 cap5 zs2 zs5 _ (by omega) hll hle (RU hr2 (by (repeat (first | exact HBx | exact Below.refl _ _ | with_reducible refine bel ?_ | with_reducible refine Below.drew ?_ | with_reducible refine bt3 ?_)))) (RU hr5 (by (repeat (first | exact Below.refl _ _ | with_reducible refine bel ?_ | with_reducible refine Below.drew ?_ | with_reducible refine bt3 ?_)))) hW2 hW5).mono ?_; rintro e w8 ⟨⟨v8, rfl, hv8⟩, hb8⟩; obtain ⟨ao8, cap8, zs8, rfl, hc8, hn8, hval8, hN8, hW8, hr8⟩ := hv8.dest; replace HB : Below ((((w.alloc ob).alloc (oV 3 ma na pa)).alloc (oV 3 mb nb pb)).alloc oz).heap.size ((((w.alloc ob).alloc (oV 3 ma na pa)).alloc (oV 3 mb nb pb)).alloc oz) w8 := bt2 hb8 (by (repeat (first | exact HB | exact Below.refl _ _ | with_reducible refine bel ?_ | with_reducible refine Below.drew ?_ | with_reducible refine bt3 ?_))); clear hb8 hv8; rw [hval2, hval5] at hval8)
    | (go_at_call 68; with_reducible refine (rnd_any ma ao8 cap8 zs8 pb _ (by have := len_pow hN8 hval8 20 HPz.out; omega) (RU hr8 (by (repeat (first | exact Below.refl _ _ | with_reducible refine bel ?_ | with_reducible refine Below.drew ?_ | with_reducible refine bt3 ?_)))) hW8 hN8 (by omega) (by omega)).mono ?_; rintro e w9 ⟨⟨n9, p9, rfl, hf9⟩, hb9⟩; rw [hdV_agg]; replace HB : Below ((((w.alloc ob).alloc (oV 3 ma na pa)).alloc (oV 3 mb nb pb)).alloc oz).heap.size ((((w.alloc ob).alloc (oV 3 ma na pa)).alloc (oV 3 mb nb pb)).alloc oz) w9 := bt2 hb9 (by (repeat (first | exact HB | exact Below.refl _ _ | with_reducible refine bel ?_ | with_reducible refine Below.drew ?_ | with_reducible refine bt3 ?_))); obtain ⟨r0, r1, r2, r3, q0, q1, q2, q3⟩ := jA HB; rw [hval8] at hf9))
  go_wp2
  refine bodyPost_ret (v := .agg #[.int .u8 (vS p9), .bool ma, .int .u64 (vM n9 p9), .int .i64 (vP p9)]) (by simp [results, Tryz.f93, go_sem, r0, r1, r2, r3]) rfl ?_
  exact ⟨⟨n9, p9, by rw [hdV_agg], hf9⟩, jB HB⟩
end Go.Proofs.YtjggbdlmghembaaGreat
namespace Go.Proofs.YtjggbdlmghembaaGreat
open Go.RowKit
set_option maxRecDepth 100000

set_option maxRecDepth 100000 in
set_option maxHeartbeats 4000000 in
theorem sumGg (ma : Bool) (mb : Bool) (hmm : (ma == mb) = false) (na nb X Y : Nat) (pa pb : Int) (w : World) (hna : na < 16777216) (hnb : nb < 16777216) (h1 : -149 ≤ pa) (h2 : pa ≤ 104) (h3 : -149 ≤ pb) (h4 : pb ≤ 104) (ho : ¬ pb < pa) (hX : 0 = X) (hY : pb - pa = Y) (hc : nb * 2 ^ Y < na * 2 ^ X) :
    Calls Tryz.prog 93 #[.agg #[.int .i64 24, .int .i64 (-149), .int .i64 104], .agg #[.int .u8 3, .bool ma, .int .u64 na, .int .i64 pa], .agg #[.int .u8 3, .bool mb, .int .u64 nb, .int .i64 pb]] w fun e w' => (∃ n q, e = .returned (hdV ma n q) ∧ Fits n q (rg Ieee.single (na * 2 ^ X - nb * 2 ^ Y) pa)) ∧ Below w.heap.size w w' := by
  have hXl : X ≤ 600 := by omega
  have hYl : Y ≤ 600 := by omega
  have HXw : Hid (IntKind.i64.wrap (X : Int) = X) := by rw [Hid, IntKind.wrap_i64]; omega
  have HYw : Hid (IntKind.i64.wrap (Y : Int) = Y) := by rw [Hid, IntKind.wrap_i64]; omega
  have HPx := up_pow na X 20 hna (by omega)
  have HPy := up_pow nb Y 20 hnb (by omega)
  have HB : Below ((((w.alloc ob).alloc (oV 3 ma na pa)).alloc (oV 3 mb nb pb)).alloc oz).heap.size ((((w.alloc ob).alloc (oV 3 ma na pa)).alloc (oV 3 mb nb pb)).alloc oz) ((((w.alloc ob).alloc (oV 3 ma na pa)).alloc (oV 3 mb nb pb)).alloc oz) := Below.refl _ _
  have HZw : Hid (IntKind.i64.wrap 0 = (X : Int)) := by rw [Hid, ← hX]; rfl
  have HAG : Hid (ag (na * 2 ^ X) (nb * 2 ^ Y) = 1) := by rw [Hid]; exact ag_gt hc
  have HC : Hid (nb * 2 ^ Y < na * 2 ^ X) := hc
  clear hc
  clear hX
  go_enter Tryz.func93, Tryz.ntmps93
  go_wp2
  go_region_held3 (fun w' => w'.cell? ⟨w.heap.size, 0, none⟩ = some (.int .i64 24) ∧ w'.cell? ⟨w.heap.size, 1, none⟩ = some (.int .i64 (-149)) ∧ w'.cell? ⟨w.heap.size, 2, none⟩ = some (.int .i64 104) ∧ w'.cell? ⟨w.heap.size + 1, 0, none⟩ = some (.int .u8 3) ∧ w'.cell? ⟨w.heap.size + 1, 1, none⟩ = some (.bool ma) ∧ w'.cell? ⟨w.heap.size + 1, 2, none⟩ = some (.int .u64 (na : Nat)) ∧ w'.cell? ⟨w.heap.size + 1, 3, none⟩ = some (.int .i64 pa) ∧ w'.cell? ⟨w.heap.size + 1 + 1, 0, none⟩ = some (.int .u8 3) ∧ w'.cell? ⟨w.heap.size + 1 + 1, 1, none⟩ = some (.bool mb) ∧ w'.cell? ⟨w.heap.size + 1 + 1, 2, none⟩ = some (.int .u64 (nb : Nat)) ∧ w'.cell? ⟨w.heap.size + 1 + 1, 3, none⟩ = some (.int .i64 pb)) ((first | ((try dsimp only); with_reducible refine jS ?_; (repeat (first | exact HB | exact Below.refl _ _ | with_reducible refine bel ?_ | with_reducible refine Below.drew ?_ | with_reducible refine bt3 ?_)); done) | (refine jF ?_; (repeat (first | exact HB | exact Below.refl _ _ | with_reducible refine bel ?_ | with_reducible refine Below.drew ?_ | with_reducible refine bt3 ?_)); done))) (first
    | (go_at_call 70; with_reducible refine (nat_any na _ (by omega)).mono ?_; rintro e w1 ⟨⟨v1, rfl, hv1⟩, hb1⟩; obtain ⟨ao1, cap1, zs1, rfl, hc1, hn1, hval1, hN1, hW1, hr1⟩ := hv1.dest; replace HB : Below ((((w.alloc ob).alloc (oV 3 ma na pa)).alloc (oV 3 mb nb pb)).alloc oz).heap.size ((((w.alloc ob).alloc (oV 3 ma na pa)).alloc (oV 3 mb nb pb)).alloc oz) w1 := bt2 hb1 (by (repeat (first | exact HB | exact Below.refl _ _ | with_reducible refine bel ?_ | with_reducible refine Below.drew ?_ | with_reducible refine bt3 ?_))); clear hb1 hv1)
    | (go_at_call 85; (first | rw [HXw.out] | rw [HZw.out]); with_reducible refine (up_any ao1 cap1 zs1 X _ (by have := small_len hN1 hval1 (by omega); omega) (by omega) (RU hr1 (by (repeat (first | exact Below.refl _ _ | with_reducible refine bel ?_ | with_reducible refine Below.drew ?_ | with_reducible refine bt3 ?_)))) hW1).mono ?_; rintro e w2 ⟨⟨v2, rfl, hv2⟩, hb2⟩; obtain ⟨ao2, cap2, zs2, rfl, hc2, hn2, hval2, hN2, hW2, hr2⟩ := hv2.dest; replace HB : Below ((((w.alloc ob).alloc (oV 3 ma na pa)).alloc (oV 3 mb nb pb)).alloc oz).heap.size ((((w.alloc ob).alloc (oV 3 ma na pa)).alloc (oV 3 mb nb pb)).alloc oz) w2 := bt2 hb2 (by (repeat (first | exact HB | exact Below.refl _ _ | with_reducible refine bel ?_ | with_reducible refine Below.drew ?_ | with_reducible refine bt3 ?_))); clear hb2 hv2; rw [hval1] at hval2))
  have HBx : Below w2.heap.size w2 w2 := Below.refl _ _
  obtain ⟨x0, x1, x2, x3, x4, x5, x6, x7, x8, x9, x10⟩ := jF HB
  go_wp2
  go_region_held3 (fun w' => w'.cell? ⟨w.heap.size, 0, none⟩ = some (.int .i64 24) ∧ w'.cell? ⟨w.heap.size, 1, none⟩ = some (.int .i64 (-149)) ∧ w'.cell? ⟨w.heap.size, 2, none⟩ = some (.int .i64 104) ∧ w'.cell? ⟨w.heap.size + 1, 0, none⟩ = some (.int .u8 3) ∧ w'.cell? ⟨w.heap.size + 1, 1, none⟩ = some (.bool ma) ∧ w'.cell? ⟨w.heap.size + 1, 2, none⟩ = some (.int .u64 (na : Nat)) ∧ w'.cell? ⟨w.heap.size + 1, 3, none⟩ = some (.int .i64 pa) ∧ w'.cell? ⟨w.heap.size + 1 + 1, 0, none⟩ = some (.int .u8 3) ∧ w'.cell? ⟨w.heap.size + 1 + 1, 1, none⟩ = some (.bool mb) ∧ w'.cell? ⟨w.heap.size + 1 + 1, 2, none⟩ = some (.int .u64 (nb : Nat)) ∧ w'.cell? ⟨w.heap.size + 1 + 1, 3, none⟩ = some (.int .i64 pb)) ((first | ((try dsimp only); with_reducible refine jS ?_; (repeat (first | exact HB | exact Below.refl _ _ | with_reducible refine bel ?_ | with_reducible refine Below.drew ?_ | with_reducible refine bt3 ?_)); done) | (refine jF ?_; (repeat (first | exact HB | exact Below.refl _ _ | with_reducible refine bel ?_ | with_reducible refine Below.drew ?_ | with_reducible refine bt3 ?_)); done))) (first
    | (go_at_call 70; with_reducible refine (nat_any nb _ (by omega)).mono ?_; rintro e w3 ⟨⟨v3, rfl, hv3⟩, hb3⟩; obtain ⟨ao3, cap3, zs3, rfl, hc3, hn3, hval3, hN3, hW3, hr3⟩ := hv3.dest; replace HB : Below ((((w.alloc ob).alloc (oV 3 ma na pa)).alloc (oV 3 mb nb pb)).alloc oz).heap.size ((((w.alloc ob).alloc (oV 3 ma na pa)).alloc (oV 3 mb nb pb)).alloc oz) w3 := bt2 hb3 (by (repeat (first | exact HB | exact Below.refl _ _ | with_reducible refine bel ?_ | with_reducible refine Below.drew ?_ | with_reducible refine bt3 ?_))); replace HBx : Below w2.heap.size w2 w3 := bt2 hb3 (by (repeat (first | exact HBx | exact Below.refl _ _ | with_reducible refine bel ?_ | with_reducible refine Below.drew ?_ | with_reducible refine bt3 ?_))); clear hb3 hv3)
    | (go_at_call 85; (first | rw [HYw.out] | rw [HZw.out]); with_reducible refine (up_any ao3 cap3 zs3 Y _ (by have := small_len hN3 hval3 (by omega); omega) (by omega) (RU hr3 (by (repeat (first | exact Below.refl _ _ | with_reducible refine bel ?_ | with_reducible refine Below.drew ?_ | with_reducible refine bt3 ?_)))) hW3).mono ?_; rintro e w5 ⟨⟨v5, rfl, hv5⟩, hb5⟩; obtain ⟨ao5, cap5, zs5, rfl, hc5, hn5, hval5, hN5, hW5, hr5⟩ := hv5.dest; replace HB : Below ((((w.alloc ob).alloc (oV 3 ma na pa)).alloc (oV 3 mb nb pb)).alloc oz).heap.size ((((w.alloc ob).alloc (oV 3 ma na pa)).alloc (oV 3 mb nb pb)).alloc oz) w5 := bt2 hb5 (by (repeat (first | exact HB | exact Below.refl _ _ | with_reducible refine bel ?_ | with_reducible refine Below.drew ?_ | with_reducible refine bt3 ?_))); replace HBx : Below w2.heap.size w2 w5 := bt2 hb5 (by (repeat (first | exact HBx | exact Below.refl _ _ | with_reducible refine bel ?_ | with_reducible refine Below.drew ?_ | with_reducible refine bt3 ?_))); clear hb5 hv5; rw [hval3] at hval5))
  have hl2 : zs2.length ≤ 20 := len_pow hN2 hval2 20 HPx
  have hl5 : zs5.length ≤ 20 := len_pow hN5 hval5 20 HPy
  clear x0 x1 x2 x3 x4 x5 x6 x7 x8 x9 x10
  obtain ⟨x0, x1, x2, x3, x4, x5, x6, x7, x8, x9, x10⟩ := jF HB
  have hle : nv zs5 ≤ nv zs2 := by rw [hval2, hval5]; exact Nat.le_of_lt HC.out
  have hll : zs5.length ≤ zs2.length := norm_len hN5 _ (Nat.lt_of_le_of_lt hle (nv_lt hW2))
  have HPz : Hid (na * 2 ^ X - nb * 2 ^ Y < 2 ^ (32 * 20)) := Nat.lt_of_le_of_lt (Nat.sub_le _ _) HPx
  go_wp2_with (go_at_call 90; with_reducible refine (against_any ao2 ao5 cap2 cap5 zs2 zs5 _ (by omega) (by omega) (RU hr2 (by (repeat (first | exact HBx | exact Below.refl _ _ | with_reducible refine bel ?_ | with_reducible refine Below.drew ?_ | with_reducible refine bt3 ?_)))) (RU hr5 (by (repeat (first | exact Below.refl _ _ | with_reducible refine bel ?_ | with_reducible refine Below.drew ?_ | with_reducible refine bt3 ?_)))) hW2 hW5 hN2 hN5).mono ?_; rintro e wq ⟨rfl, kq, hq⟩; subst wq; rw [hval2, hval5, HAG.out])
  go_region_held3 (fun w' => w'.cell? ⟨w.heap.size, 0, none⟩ = some (.int .i64 24) ∧ w'.cell? ⟨w.heap.size, 1, none⟩ = some (.int .i64 (-149)) ∧ w'.cell? ⟨w.heap.size, 2, none⟩ = some (.int .i64 104) ∧ w'.cell? ⟨w.heap.size + 1, 0, none⟩ = some (.int .u8 3) ∧ w'.cell? ⟨w.heap.size + 1, 1, none⟩ = some (.bool ma) ∧ w'.cell? ⟨w.heap.size + 1, 2, none⟩ = some (.int .u64 (na : Nat)) ∧ w'.cell? ⟨w.heap.size + 1, 3, none⟩ = some (.int .i64 pa) ∧ w'.cell? ⟨w.heap.size + 1 + 1, 0, none⟩ = some (.int .u8 3) ∧ w'.cell? ⟨w.heap.size + 1 + 1, 1, none⟩ = some (.bool mb) ∧ w'.cell? ⟨w.heap.size + 1 + 1, 2, none⟩ = some (.int .u64 (nb : Nat)) ∧ w'.cell? ⟨w.heap.size + 1 + 1, 3, none⟩ = some (.int .i64 pb)) ((first | ((try dsimp only); with_reducible refine jS ?_; (repeat (first | exact HB | exact Below.refl _ _ | with_reducible refine bel ?_ | with_reducible refine Below.drew ?_ | with_reducible refine bt3 ?_)); done) | (refine jF ?_; (repeat (first | exact HB | exact Below.refl _ _ | with_reducible refine bel ?_ | with_reducible refine Below.drew ?_ | with_reducible refine bt3 ?_)); done))) (first
    | (go_at_call 89; with_reducible refine (less_any ao2 ao5 cap2 cap5 zs2 zs5 _ (by omega) hll hle (RU hr2 (by (repeat (first | exact HBx | exact Below.refl _ _ | with_reducible refine bel ?_ | with_reducible refine Below.drew ?_ | with_reducible refine bt3 ?_)))) (RU hr5 (by (repeat (first | exact Below.refl _ _ | with_reducible refine bel ?_ | with_reducible refine Below.drew ?_ | with_reducible refine bt3 ?_)))) hW2 hW5).mono ?_; rintro e w8 ⟨⟨v8, rfl, hv8⟩, hb8⟩; obtain ⟨ao8, cap8, zs8, rfl, hc8, hn8, hval8, hN8, hW8, hr8⟩ := hv8.dest; replace HB : Below ((((w.alloc ob).alloc (oV 3 ma na pa)).alloc (oV 3 mb nb pb)).alloc oz).heap.size ((((w.alloc ob).alloc (oV 3 ma na pa)).alloc (oV 3 mb nb pb)).alloc oz) w8 := bt2 hb8 (by (repeat (first | exact HB | exact Below.refl _ _ | with_reducible refine bel ?_ | with_reducible refine Below.drew ?_ | with_reducible refine bt3 ?_))); clear hb8 hv8; rw [hval2, hval5] at hval8)
    | (go_at_call 68; with_reducible refine (rnd_any ma ao8 cap8 zs8 pa _ (by have := len_pow hN8 hval8 20 HPz.out; omega) (RU hr8 (by (repeat (first | exact Below.refl _ _ | with_reducible refine bel ?_ | with_reducible refine Below.drew ?_ | with_reducible refine bt3 ?_)))) hW8 hN8 (by omega) (by omega)).mono ?_; rintro e w9 ⟨⟨n9, p9, rfl, hf9⟩, hb9⟩; rw [hdV_agg]; replace HB : Below ((((w.alloc ob).alloc (oV 3 ma na pa)).alloc (oV 3 mb nb pb)).alloc oz).heap.size ((((w.alloc ob).alloc (oV 3 ma na pa)).alloc (oV 3 mb nb pb)).alloc oz) w9 := bt2 hb9 (by (repeat (first | exact HB | exact Below.refl _ _ | with_reducible refine bel ?_ | with_reducible refine Below.drew ?_ | with_reducible refine bt3 ?_))); obtain ⟨r0, r1, r2, r3, q0, q1, q2, q3⟩ := jA HB; rw [hval8] at hf9))
  go_wp2
  refine bodyPost_ret (v := .agg #[.int .u8 (vS p9), .bool ma, .int .u64 (vM n9 p9), .int .i64 (vP p9)]) (by simp [results, Tryz.f93, go_sem, r0, r1, r2, r3]) rfl ?_
  exact ⟨⟨n9, p9, by rw [hdV_agg], hf9⟩, jB HB⟩
end Go.Proofs.YtjggbdlmghembaaGreat
namespace Go.Proofs.YtjggbdlmghembaaGreat
open Go.RowKit
set_option maxRecDepth 100000

abbrev vN : Value := .agg #[.int .u8 1, .bool false, .int .u64 0, .int .i64 0]
abbrev vE (m : Bool) : Value := .agg #[.int .u8 2, .bool m, .int .u64 0, .int .i64 0]
abbrev vF (m : Bool) (n p : Int) : Value := .agg #[.int .u8 3, .bool m, .int .u64 n, .int .i64 p]
set_option maxRecDepth 100000 in
set_option maxHeartbeats 4000000 in
theorem sm_n1 (sb : Int) (mb : Bool) (nb pb : Int) (w : World) :
    Calls Tryz.prog 93 #[.agg #[.int .i64 24, .int .i64 (-149), .int .i64 104], .agg #[.int .u8 1, .bool false, .int .u64 0, .int .i64 0], .agg #[.int .u8 sb, .bool mb, .int .u64 nb, .int .i64 pb]] w fun e w' => e = .returned vN ∧ Below w.heap.size w w' := by
  go_enter Tryz.func93, Tryz.ntmps93
  go_wp2_with (go_at_call 99; refine (vnone_any _).mono ?_; rintro e wq ⟨rfl, hq⟩; subst wq)
  refine bodyPost_ret (v := vN) (by simp [results, Tryz.f93, go_sem]) rfl ?_
  exact ⟨rfl, by repeat (first | exact Below.refl _ _ | refine bel ?_ | refine Below.drew ?_)⟩
set_option maxRecDepth 100000 in
set_option maxHeartbeats 4000000 in
theorem sm_n2 (sa : Int) (ma : Bool) (na pa : Int) (w : World) (h : (sa == 1) = false) :
    Calls Tryz.prog 93 #[.agg #[.int .i64 24, .int .i64 (-149), .int .i64 104], .agg #[.int .u8 sa, .bool ma, .int .u64 na, .int .i64 pa], .agg #[.int .u8 1, .bool false, .int .u64 0, .int .i64 0]] w fun e w' => e = .returned vN ∧ Below w.heap.size w w' := by
  go_enter Tryz.func93, Tryz.ntmps93
  go_wp2_with (go_at_call 99; refine (vnone_any _).mono ?_; rintro e wq ⟨rfl, hq⟩; subst wq)
  refine bodyPost_ret (v := vN) (by simp [results, Tryz.f93, go_sem]) rfl ?_
  exact ⟨rfl, by repeat (first | exact Below.refl _ _ | refine bel ?_ | refine Below.drew ?_)⟩
set_option maxRecDepth 100000 in
set_option maxHeartbeats 4000000 in
theorem sm_ef (ma mb : Bool) (nb pb : Int) (w : World) :
    Calls Tryz.prog 93 #[.agg #[.int .i64 24, .int .i64 (-149), .int .i64 104], .agg #[.int .u8 2, .bool ma, .int .u64 0, .int .i64 0], .agg #[.int .u8 3, .bool mb, .int .u64 nb, .int .i64 pb]] w fun e w' => e = .returned (vE ma) ∧ Below w.heap.size w w' := by
  go_enter Tryz.func93, Tryz.ntmps93
  go_wp2
  refine bodyPost_ret (v := vE ma) (by simp [results, Tryz.f93, go_sem]) rfl ?_
  exact ⟨rfl, by repeat (first | exact Below.refl _ _ | refine bel ?_ | refine Below.drew ?_)⟩
set_option maxRecDepth 100000 in
set_option maxHeartbeats 4000000 in
theorem sm_fe (ma mb : Bool) (na pa : Int) (w : World) :
    Calls Tryz.prog 93 #[.agg #[.int .i64 24, .int .i64 (-149), .int .i64 104], .agg #[.int .u8 3, .bool ma, .int .u64 na, .int .i64 pa], .agg #[.int .u8 2, .bool mb, .int .u64 0, .int .i64 0]] w fun e w' => e = .returned (vE mb) ∧ Below w.heap.size w w' := by
  go_enter Tryz.func93, Tryz.ntmps93
  go_wp2
  refine bodyPost_ret (v := vE mb) (by simp [results, Tryz.f93, go_sem]) rfl ?_
  exact ⟨rfl, by repeat (first | exact Below.refl _ _ | refine bel ?_ | refine Below.drew ?_)⟩
set_option maxRecDepth 100000 in
set_option maxHeartbeats 4000000 in
theorem sm_ee (ma : Bool) (w : World) :
    Calls Tryz.prog 93 #[.agg #[.int .i64 24, .int .i64 (-149), .int .i64 104], .agg #[.int .u8 2, .bool ma, .int .u64 0, .int .i64 0], .agg #[.int .u8 2, .bool ma, .int .u64 0, .int .i64 0]] w fun e w' => e = .returned (vE ma) ∧ Below w.heap.size w w' := by
  go_enter Tryz.func93, Tryz.ntmps93
  go_wp2
  refine bodyPost_ret (v := vE ma) (by simp [results, Tryz.f93, go_sem]) rfl ?_
  exact ⟨rfl, by repeat (first | exact Below.refl _ _ | refine bel ?_ | refine Below.drew ?_ | refine bt3 ?_)⟩
set_option maxRecDepth 100000 in
set_option maxHeartbeats 4000000 in
theorem sm_en (ma mb : Bool) (hmm : (ma == mb) = false) (w : World) :
    Calls Tryz.prog 93 #[.agg #[.int .i64 24, .int .i64 (-149), .int .i64 104], .agg #[.int .u8 2, .bool ma, .int .u64 0, .int .i64 0], .agg #[.int .u8 2, .bool mb, .int .u64 0, .int .i64 0]] w fun e w' => e = .returned vN ∧ Below w.heap.size w w' := by
  have hm2 : (ma != mb) = true := by simp [bne, hmm]
  go_enter Tryz.func93, Tryz.ntmps93
  go_wp2_with (go_at_call 99; refine (vnone_any _).mono ?_; rintro e wq ⟨rfl, hq⟩; subst wq)
  refine bodyPost_ret (v := vN) (by simp [results, Tryz.f93, go_sem]) rfl ?_
  exact ⟨rfl, by repeat (first | exact Below.refl _ _ | refine bel ?_ | refine Below.drew ?_ | refine bt3 ?_)⟩
end Go.Proofs.YtjggbdlmghembaaGreat
