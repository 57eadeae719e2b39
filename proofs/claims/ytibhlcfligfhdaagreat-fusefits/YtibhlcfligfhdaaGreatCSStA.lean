import Derived.Test.YtibhlcfligfhdaaGreatCSSmB4
namespace Go.Proofs.YtibhlcfligfhdaaGreat
open Go.RowKit
set_option maxRecDepth 100000
theorem nv_nil (w : World) : NatV w (.slice none 0 0) 0 := ⟨none, 0, [], rfl, Nat.le_refl _, fun _ => rfl, rfl, Or.inl rfl, (fun z hz => by simp at hz), fun h => by simp at h⟩
theorem NatV.on {w W : World} {v : Value} {x : Nat} (h : NatV w v x) (hb : Below w.heap.size w W) : NatV W v x := h.below hb
theorem NatV.step {w W w' : World} {v : Value} {x : Nat} (h : NatV w v x) (h1 : Below w.heap.size w W) (hb : Below W.heap.size W w') : NatV w' v x := h.below (bt2 hb h1)
theorem up_nv (v : Value) (x n : Nat) (w : World) (h : NatV w v x) (hx : x < 18446744073709551616) (hn : n ≤ 10000) :
   Calls Tryz.prog 130 #[v, .int .i64 n] w fun e w' => (∃ v', e = .returned v' ∧ NatV w' v' (x * 2 ^ n)) ∧ Below w.heap.size w w' := by
 obtain ⟨ao, cap, zs, rfl, hc, hn', hval, hN, hW, hr⟩ := h
 have := up_any ao cap zs n w (by have := small_len hN hval hx; omega) hn hr hW
 rw [hval] at this
 exact this
theorem against_nv (v u : Value) (x y k : Nat) (w : World) (h : NatV w v x) (h' : NatV w u y) (hx : x < 2 ^ (32 * k)) (hy : y < 2 ^ (32 * k)) (hk : k ≤ 1000) :
   Calls Tryz.prog 135 #[v, u] w fun e w' => e = .returned (.int .i64 (ag x y)) ∧ ∃ m, w' = w.drewN m := by
 obtain ⟨ao, cap, zs, rfl, hc, hn', hval, hN, hW, hr⟩ := h
 obtain ⟨ao2, cap2, zs2, rfl, hc2, hn2, hval2, hN2, hW2, hr2⟩ := h'
 have := against_any ao ao2 cap cap2 zs zs2 w (by have := len_pow hN hval k hx; omega) (by have := len_pow hN2 hval2 k hy; omega) hr hr2 hW hW2 hN hN2
 rw [hval, hval2] at this
 exact this
theorem gF {w W : World} {sa : Int} {ma : Bool} {na pa : Int} {sb : Int} {mb : Bool} {nb pb : Int} (h : Below ((w.alloc (oV sa ma na pa)).alloc (oV sb mb nb pb)).heap.size ((w.alloc (oV sa ma na pa)).alloc (oV sb mb nb pb)) W) :
   W.cell? ⟨w.heap.size, 0, none⟩ = some (.int .u8 sa) ∧ W.cell? ⟨w.heap.size, 1, none⟩ = some (.bool ma) ∧ W.cell? ⟨w.heap.size, 2, none⟩ = some (.int .u64 na) ∧ W.cell? ⟨w.heap.size, 3, none⟩ = some (.int .i64 pa) ∧ W.cell? ⟨w.heap.size + 1, 0, none⟩ = some (.int .u8 sb) ∧ W.cell? ⟨w.heap.size + 1, 1, none⟩ = some (.bool mb) ∧ W.cell? ⟨w.heap.size + 1, 2, none⟩ = some (.int .u64 nb) ∧ W.cell? ⟨w.heap.size + 1, 3, none⟩ = some (.int .i64 pb) := by
 refine ⟨?_, ?_, ?_, ?_, ?_, ?_, ?_, ?_⟩
 · refine (h.cell (p := ⟨w.heap.size, 0, none⟩) (by simp only [sz1]; omega)).trans ?_
   rw [cin _ _ _ (by simp only [sz1]; omega)]
   exact World.cell?_alloc_new _ _ _ _
 · refine (h.cell (p := ⟨w.heap.size, 1, none⟩) (by simp only [sz1]; omega)).trans ?_
   rw [cin _ _ _ (by simp only [sz1]; omega)]
   exact World.cell?_alloc_new _ _ _ _
 · refine (h.cell (p := ⟨w.heap.size, 2, none⟩) (by simp only [sz1]; omega)).trans ?_
   rw [cin _ _ _ (by simp only [sz1]; omega)]
   exact World.cell?_alloc_new _ _ _ _
 · refine (h.cell (p := ⟨w.heap.size, 3, none⟩) (by simp only [sz1]; omega)).trans ?_
   rw [cin _ _ _ (by simp only [sz1]; omega)]
   exact World.cell?_alloc_new _ _ _ _
 · refine (h.cell (p := ⟨w.heap.size + 1, 0, none⟩) (by simp only [sz1]; omega)).trans ?_
   rw [show w.heap.size + 1 = (w.alloc (oV sa ma na pa)).heap.size by simp only [sz1]]
   exact World.cell?_alloc_new _ _ _ _
 · refine (h.cell (p := ⟨w.heap.size + 1, 1, none⟩) (by simp only [sz1]; omega)).trans ?_
   rw [show w.heap.size + 1 = (w.alloc (oV sa ma na pa)).heap.size by simp only [sz1]]
   exact World.cell?_alloc_new _ _ _ _
 · refine (h.cell (p := ⟨w.heap.size + 1, 2, none⟩) (by simp only [sz1]; omega)).trans ?_
   rw [show w.heap.size + 1 = (w.alloc (oV sa ma na pa)).heap.size by simp only [sz1]]
   exact World.cell?_alloc_new _ _ _ _
 · refine (h.cell (p := ⟨w.heap.size + 1, 3, none⟩) (by simp only [sz1]; omega)).trans ?_
   rw [show w.heap.size + 1 = (w.alloc (oV sa ma na pa)).heap.size by simp only [sz1]]
   exact World.cell?_alloc_new _ _ _ _
set_option maxRecDepth 100000 in
set_option maxHeartbeats 40000000 in
theorem bulkA :
   (∀ (ma mb : Bool) (na nb X Y : Nat) (pa pb : Int) (w : World), (na < 16777216) → (nb < 16777216) → (-149 ≤ pa) → (pa ≤ 104) → (-149 ≤ pb) → (pb ≤ 104) → (pb < pa) → (pa - pb = X) → (0 = Y) → Calls Tryz.prog 116 #[.agg #[.int .u8 3, .bool ma, .int .u64 na, .int .i64 pa], .agg #[.int .u8 3, .bool mb, .int .u64 nb, .int .i64 pb]] w fun e w' => e = .returned (.int .i64 (ag (na * 2 ^ X) (nb * 2 ^ Y))) ∧ Below w.heap.size w w') ∧
   (∀ (ma mb : Bool) (na nb X Y : Nat) (pa pb : Int) (w : World), (na < 16777216) → (nb < 16777216) → (-149 ≤ pa) → (pa ≤ 104) → (-149 ≤ pb) → (pb ≤ 104) → (¬ pb < pa) → (0 = X) → (pb - pa = Y) → Calls Tryz.prog 116 #[.agg #[.int .u8 3, .bool ma, .int .u64 na, .int .i64 pa], .agg #[.int .u8 3, .bool mb, .int .u64 nb, .int .i64 pb]] w fun e w' => e = .returned (.int .i64 (ag (na * 2 ^ X) (nb * 2 ^ Y))) ∧ Below w.heap.size w w') := by
 refine ⟨?_, ?_⟩
 all_goals intro ma mb na nb X Y pa pb w hna hnb h1 h2 h3 h4 ho hX hY
 all_goals (have hXl : X ≤ 600 := by omega)
 all_goals (have hYl : Y ≤ 600 := by omega)
 all_goals (have HXw : Hid (IntKind.i64.wrap (X : Int) = X) := by rw [Hid, IntKind.wrap_i64]; omega)
 all_goals (have HYw : Hid (IntKind.i64.wrap (Y : Int) = Y) := by rw [Hid, IntKind.wrap_i64]; omega)
 all_goals (have HPx := up_pow na X 20 hna (by omega))
 all_goals (have HPy := up_pow nb Y 20 hnb (by omega))
 have HZw : Hid (IntKind.i64.wrap 0 = (Y : Int)) := by rw [Hid, ← hY]; rfl
 rotate_left
 have HZw : Hid (IntKind.i64.wrap 0 = (X : Int)) := by rw [Hid, ← hX]; rfl
 rotate_left
 all_goals (have HB : Below ((w.alloc (oV 3 ma na pa)).alloc (oV 3 mb nb pb)).heap.size ((w.alloc (oV 3 ma na pa)).alloc (oV 3 mb nb pb)) ((w.alloc (oV 3 ma na pa)).alloc (oV 3 mb nb pb)) := Below.refl _ _)
 all_goals (have HW : Hid (Below w.heap.size w ((w.alloc (oV 3 ma na pa)).alloc (oV 3 mb nb pb))) := bel (bel (Below.refl _ _)))
 all_goals (have HA := nv_nil ((w.alloc (oV 3 ma na pa)).alloc (oV 3 mb nb pb)))
 all_goals (have HQ := nv_nil ((w.alloc (oV 3 ma na pa)).alloc (oV 3 mb nb pb)))
 clear hY
 rotate_left
 clear hX
 rotate_left
 all_goals (go_enter Tryz.func116, Tryz.ntmps116)
 all_goals (go_wp2)
 all_goals (
   go_region_held3 (fun w' => w'.cell? ⟨w.heap.size, 0, none⟩ = some (.int .u8 3) ∧ w'.cell? ⟨w.heap.size, 1, none⟩ = some (.bool ma) ∧ w'.cell? ⟨w.heap.size, 2, none⟩ = some (.int .u64 (na : Nat)) ∧ w'.cell? ⟨w.heap.size, 3, none⟩ = some (.int .i64 pa) ∧ w'.cell? ⟨w.heap.size + 1, 0, none⟩ = some (.int .u8 3) ∧ w'.cell? ⟨w.heap.size + 1, 1, none⟩ = some (.bool mb) ∧ w'.cell? ⟨w.heap.size + 1, 2, none⟩ = some (.int .u64 (nb : Nat)) ∧ w'.cell? ⟨w.heap.size + 1, 3, none⟩ = some (.int .i64 pb)) ((refine gF ?_; (repeat (first | exact HB | exact Below.refl _ _ | with_reducible first | refine bel ?_ | refine Below.drew ?_ | refine bt3 ?_)); done)) (first
     | (go_at_call 107; with_reducible refine (nat_any na _ (by omega)).mono ?_; rintro e w1 ⟨⟨v1, rfl, hv1⟩, hb1⟩; replace HB : Below ((w.alloc (oV 3 ma na pa)).alloc (oV 3 mb nb pb)).heap.size ((w.alloc (oV 3 ma na pa)).alloc (oV 3 mb nb pb)) w1 := bt2 hb1 (by apply_rules [HB, Below.refl, bel, Below.drew, bt3]); replace HQ := HQ.step (by apply_rules [Below.refl, bel, Below.drew, bt3]) hb1; replace HA := hv1; clear hb1 hv1)
     | (go_at_call 107; with_reducible refine (nat_any nb _ (by omega)).mono ?_; rintro e w3 ⟨⟨v3, rfl, hv3⟩, hb3⟩; replace HB : Below ((w.alloc (oV 3 ma na pa)).alloc (oV 3 mb nb pb)).heap.size ((w.alloc (oV 3 ma na pa)).alloc (oV 3 mb nb pb)) w3 := bt2 hb3 (by apply_rules [HB, Below.refl, bel, Below.drew, bt3]); replace HA := HA.step (by apply_rules [Below.refl, bel, Below.drew, bt3]) hb3; replace HQ := hv3; clear hb3 hv3)
     | (go_at_call 130; (first | rw [HXw.out] | rw [HZw.out]); with_reducible refine (up_nv v1 na X _ (HA.on (by apply_rules [Below.refl, bel, Below.drew, bt3])) (by omega) (by omega)).mono ?_; rintro e w2 ⟨⟨v2, rfl, hv2⟩, hb2⟩; replace HB : Below ((w.alloc (oV 3 ma na pa)).alloc (oV 3 mb nb pb)).heap.size ((w.alloc (oV 3 ma na pa)).alloc (oV 3 mb nb pb)) w2 := bt2 hb2 (by apply_rules [HB, Below.refl, bel, Below.drew, bt3]); replace HQ := HQ.step (by apply_rules [Below.refl, bel, Below.drew, bt3]) hb2; replace HA := hv2; clear hb2 hv2)
     | (go_at_call 130; (first | rw [HYw.out] | rw [HZw.out]); with_reducible refine (up_nv v3 nb Y _ (HQ.on (by apply_rules [Below.refl, bel, Below.drew, bt3])) (by omega) (by omega)).mono ?_; rintro e w5 ⟨⟨v5, rfl, hv5⟩, hb5⟩; replace HB : Below ((w.alloc (oV 3 ma na pa)).alloc (oV 3 mb nb pb)).heap.size ((w.alloc (oV 3 ma na pa)).alloc (oV 3 mb nb pb)) w5 := bt2 hb5 (by apply_rules [HB, Below.refl, bel, Below.drew, bt3]); replace HA := HA.step (by apply_rules [Below.refl, bel, Below.drew, bt3]) hb5; replace HQ := hv5; clear hb5 hv5)
     | (go_at_call 135; with_reducible refine (against_nv v2 v5 _ _ 20 _ (HA.on (by apply_rules [Below.refl, bel, Below.drew, bt3])) (HQ.on (by apply_rules [Below.refl, bel, Below.drew, bt3])) HPx HPy (by omega)).mono ?_; rintro e wq ⟨rfl, kq, hq⟩; subst wq)))
 all_goals (all_goals go_wp2)
 all_goals (all_goals go_ret)
 all_goals (all_goals exact ⟨rfl, HW.out.trans ((show Below ((w.alloc (oV 3 ma na pa)).alloc (oV 3 mb nb pb)).heap.size ((w.alloc (oV 3 ma na pa)).alloc (oV 3 mb nb pb)) _ from by (repeat (first | exact HB | exact Below.refl _ _ | with_reducible first | refine bel ?_ | refine Below.drew ?_ | refine bt3 ?_))).mono HW.out.size)⟩)
abbrev bulkL := bulkA.1
abbrev bulkG := bulkA.2
end Go.Proofs.YtibhlcfligfhdaaGreat
namespace Go.Proofs.YtibhlcfligfhdaaGreat
open Go.RowKit
set_option maxRecDepth 100000
set_option maxRecDepth 100000 in
set_option maxHeartbeats 1000000 in
theorem isn2 (m : Bool) (w : World)  :
   Calls Tryz.prog 114 #[.agg #[.int .u8 2, .bool m, .int .u64 0, .int .i64 0]] w fun e w' => e = .returned (.bool false) ∧ Below w.heap.size w w' := by
 go_enter Tryz.func114, Tryz.ntmps114
 go_wp2
 go_ret
 exact ⟨rfl, bel (Below.refl _ _)⟩
set_option maxRecDepth 100000 in
set_option maxHeartbeats 1000000 in
theorem isn3z (m : Bool) (p : Int) (w : World)  :
   Calls Tryz.prog 114 #[.agg #[.int .u8 3, .bool m, .int .u64 0, .int .i64 p]] w fun e w' => e = .returned (.bool true) ∧ Below w.heap.size w w' := by
 go_enter Tryz.func114, Tryz.ntmps114
 go_wp2
 go_ret
 exact ⟨rfl, bel (Below.refl _ _)⟩
set_option maxRecDepth 100000 in
set_option maxHeartbeats 1000000 in
theorem isn3 (m : Bool) (n : Nat) (p : Int) (w : World) (g1 : ((n : Int) == 0) = false) :
   Calls Tryz.prog 114 #[.agg #[.int .u8 3, .bool m, .int .u64 n, .int .i64 p]] w fun e w' => e = .returned (.bool false) ∧ Below w.heap.size w w' := by
 go_enter Tryz.func114, Tryz.ntmps114
 go_wp2
 go_ret
 exact ⟨rfl, bel (Below.refl _ _)⟩
theorem g1 {w W : World} {s : Int} {m : Bool} {n p : Int} (h : Below (w.alloc (oV s m n p)).heap.size (w.alloc (oV s m n p)) W) :
   W.cell? ⟨w.heap.size, 0, none⟩ = some (.int .u8 s) ∧ W.cell? ⟨w.heap.size, 1, none⟩ = some (.bool m) ∧ W.cell? ⟨w.heap.size, 2, none⟩ = some (.int .u64 n) ∧ W.cell? ⟨w.heap.size, 3, none⟩ = some (.int .i64 p) := by
 refine ⟨?_, ?_, ?_, ?_⟩
 · exact (h.cell (p := ⟨w.heap.size, 0, none⟩) (by simp only [sz1]; omega)).trans (World.cell?_alloc_new _ _ _ _)
 · exact (h.cell (p := ⟨w.heap.size, 1, none⟩) (by simp only [sz1]; omega)).trans (World.cell?_alloc_new _ _ _ _)
 · exact (h.cell (p := ⟨w.heap.size, 2, none⟩) (by simp only [sz1]; omega)).trans (World.cell?_alloc_new _ _ _ _)
 · exact (h.cell (p := ⟨w.heap.size, 3, none⟩) (by simp only [sz1]; omega)).trans (World.cell?_alloc_new _ _ _ _)
set_option maxRecDepth 100000 in
set_option maxHeartbeats 4000000 in
theorem sg2t (w : World) :
   Calls Tryz.prog 115 #[.agg #[.int .u8 2, .bool true, .int .u64 0, .int .i64 0]] w fun e w' => e = .returned (.int .i64 (-2)) ∧ Below w.heap.size w w' := by
 have HB : Below (w.alloc (oV 2 true 0 0)).heap.size (w.alloc (oV 2 true 0 0)) (w.alloc (oV 2 true 0 0)) := Below.refl _ _
 have HW : Hid (Below w.heap.size w (w.alloc (oV 2 true 0 0))) := bel (Below.refl _ _)
 go_enter Tryz.func115, Tryz.ntmps115
 go_wp2_with (go_at_call 114; with_reducible refine (isn2 true _).mono ?_; rintro e w1 ⟨rfl, hb1⟩; replace HB := bt2 hb1 HB; obtain ⟨c0, c1, c2, c3⟩ := g1 HB)
 go_ret
 exact ⟨rfl, HW.out.trans (HB.mono HW.out.size)⟩
set_option maxRecDepth 100000 in
set_option maxHeartbeats 4000000 in
theorem sg2f (w : World) :
   Calls Tryz.prog 115 #[.agg #[.int .u8 2, .bool false, .int .u64 0, .int .i64 0]] w fun e w' => e = .returned (.int .i64 (2)) ∧ Below w.heap.size w w' := by
 have HB : Below (w.alloc (oV 2 false 0 0)).heap.size (w.alloc (oV 2 false 0 0)) (w.alloc (oV 2 false 0 0)) := Below.refl _ _
 have HW : Hid (Below w.heap.size w (w.alloc (oV 2 false 0 0))) := bel (Below.refl _ _)
 go_enter Tryz.func115, Tryz.ntmps115
 go_wp2_with (go_at_call 114; with_reducible refine (isn2 false _).mono ?_; rintro e w1 ⟨rfl, hb1⟩; replace HB := bt2 hb1 HB; obtain ⟨c0, c1, c2, c3⟩ := g1 HB)
 go_ret
 exact ⟨rfl, HW.out.trans (HB.mono HW.out.size)⟩
set_option maxRecDepth 100000 in
set_option maxHeartbeats 4000000 in
theorem sg3t (n : Nat) (p : Int) (g1' : ((n : Int) == 0) = false) (w : World) :
   Calls Tryz.prog 115 #[.agg #[.int .u8 3, .bool true, .int .u64 n, .int .i64 p]] w fun e w' => e = .returned (.int .i64 (-1)) ∧ Below w.heap.size w w' := by
 have HB : Below (w.alloc (oV 3 true n p)).heap.size (w.alloc (oV 3 true n p)) (w.alloc (oV 3 true n p)) := Below.refl _ _
 have HW : Hid (Below w.heap.size w (w.alloc (oV 3 true n p))) := bel (Below.refl _ _)
 go_enter Tryz.func115, Tryz.ntmps115
 go_wp2_with (go_at_call 114; with_reducible refine (isn3 true n p _ g1').mono ?_; rintro e w1 ⟨rfl, hb1⟩; replace HB := bt2 hb1 HB; obtain ⟨c0, c1, c2, c3⟩ := g1 HB)
 go_ret
 exact ⟨rfl, HW.out.trans (HB.mono HW.out.size)⟩
set_option maxRecDepth 100000 in
set_option maxHeartbeats 4000000 in
theorem sg3f (n : Nat) (p : Int) (g1' : ((n : Int) == 0) = false) (w : World) :
   Calls Tryz.prog 115 #[.agg #[.int .u8 3, .bool false, .int .u64 n, .int .i64 p]] w fun e w' => e = .returned (.int .i64 (1)) ∧ Below w.heap.size w w' := by
 have HB : Below (w.alloc (oV 3 false n p)).heap.size (w.alloc (oV 3 false n p)) (w.alloc (oV 3 false n p)) := Below.refl _ _
 have HW : Hid (Below w.heap.size w (w.alloc (oV 3 false n p))) := bel (Below.refl _ _)
 go_enter Tryz.func115, Tryz.ntmps115
 go_wp2_with (go_at_call 114; with_reducible refine (isn3 false n p _ g1').mono ?_; rintro e w1 ⟨rfl, hb1⟩; replace HB := bt2 hb1 HB; obtain ⟨c0, c1, c2, c3⟩ := g1 HB)
 go_ret
 exact ⟨rfl, HW.out.trans (HB.mono HW.out.size)⟩
set_option maxRecDepth 100000 in
set_option maxHeartbeats 4000000 in
theorem sg3z (m : Bool) (p : Int) (w : World) :
   Calls Tryz.prog 115 #[.agg #[.int .u8 3, .bool m, .int .u64 0, .int .i64 p]] w fun e w' => e = .returned (.int .i64 (0)) ∧ Below w.heap.size w w' := by
 have HB : Below (w.alloc (oV 3 m 0 p)).heap.size (w.alloc (oV 3 m 0 p)) (w.alloc (oV 3 m 0 p)) := Below.refl _ _
 have HW : Hid (Below w.heap.size w (w.alloc (oV 3 m 0 p))) := bel (Below.refl _ _)
 go_enter Tryz.func115, Tryz.ntmps115
 go_wp2_with (go_at_call 114; with_reducible refine (isn3z m p _).mono ?_; rintro e w1 ⟨rfl, hb1⟩; replace HB := bt2 hb1 HB; obtain ⟨c0, c1, c2, c3⟩ := g1 HB)
 go_ret
 exact ⟨rfl, HW.out.trans (HB.mono HW.out.size)⟩
end Go.Proofs.YtibhlcfligfhdaaGreat
namespace Go.Proofs.YtibhlcfligfhdaaGreat
open Go.RowKit
set_option maxRecDepth 100000
theorem rnd_nw (m : Bool) (v : Value) (x k : Nat) (P : Int) (w : World) (h : NatV w v x) (hx : x < 2 ^ (32 * k)) (hk : k ≤ 100) (hP : -5000 ≤ P) (hP2 : P ≤ 5000) :
   Calls Tryz.prog 105 #[.agg #[.int .i64 24, .int .i64 (-149), .int .i64 104], .bool m, v, .int .i64 P, .bool false] w fun e w' => (∃ n p, e = .returned (hdV m n p) ∧ Fits n p (rg Ieee.single x P)) ∧ Below w.heap.size w w' := by
 obtain ⟨ao, cap, zs, rfl, hc, hn', hval, hN, hW, hr⟩ := h
 have := rnd_any m ao cap zs P w (by have := len_pow hN hval k hx; omega) hr hW hN hP hP2
 rw [hval] at this
 exact this
set_option maxRecDepth 100000 in
set_option maxHeartbeats 1000000 in
theorem ofs_pos (x : Nat) (w : World) (hx : x < 2147483648) :
   Calls Tryz.prog 92 #[.int .i32 x] w fun e w' => e = .returned (.int .u32 (wrd false (min (rg Ieee.single x 0) 2139095040) : Nat)) ∧ Below w.heap.size w w' := by
 have HB : Below w.heap.size w w := Below.refl _ _
 have hxI : (0 : Int) ≤ (x : Int) := by omega
 have HX : Hid (x < 2 ^ (32 * 2)) := Nat.lt_of_lt_of_le hx (by decide)
 go_enter Tryz.func92, Tryz.ntmps92
 go_wp2_with (first
   | (go_at_call 106; refine (form_any _).mono ?_; rintro e wq ⟨rfl, hq⟩; subst wq)
   | (go_at_call 107; with_reducible refine (nat_any x _ (by omega)).mono ?_; rintro e w1 ⟨⟨v1, rfl, hv1⟩, h1⟩; replace HB : Below w.heap.size w w1 := bt2 h1 (by apply_rules [HB, Below.refl, bel, Below.drew, bt3]))
   | (go_at_call 105; with_reducible refine (rnd_nw false v1 x 2 0 _ hv1 HX.out (by omega) (by omega) (by omega)).mono ?_; rintro e w2 ⟨⟨n9, p9, rfl, hf9⟩, h2⟩; replace HB : Below w.heap.size w w2 := bt2 h2 (by apply_rules [HB, Below.refl, bel, Below.drew, bt3]))
   | (go_at_call 104; with_reducible refine (lay_any false n9 p9 _ _ hf9).mono ?_; rintro e w3 ⟨rfl, h3⟩; replace HB : Below w.heap.size w w3 := bt2 h3 (by apply_rules [HB, Below.refl, bel, Below.drew, bt3])))
 go_ret
 exact ⟨rfl, HB⟩
set_option maxRecDepth 100000 in
set_option maxHeartbeats 1000000 in
theorem ofs_neg (x : Nat) (y : Int) (w : World) (hx : x ≤ 2147483648) (h0 : 0 < x) (hy : y = -(x : Int)) :
   Calls Tryz.prog 92 #[.int .i32 y] w fun e w' => e = .returned (.int .u32 (wrd true (min (rg Ieee.single x 0) 2139095040) : Nat)) ∧ Below w.heap.size w w' := by
 have HB : Below w.heap.size w w := Below.refl _ _
 have hyn : y < 0 := by omega
 have hym : -y = (x : Int) := by omega
 have hyl : -2147483648 ≤ y := by omega
 have HX : Hid (x < 2 ^ (32 * 2)) := Nat.lt_of_le_of_lt hx (by decide)
 clear hy
 go_enter Tryz.func92, Tryz.ntmps92
 go_wp2_with (first
   | (go_at_call 106; refine (form_any _).mono ?_; rintro e wq ⟨rfl, hq⟩; subst wq)
   | (go_at_call 107; with_reducible refine (nat_any x _ (by omega)).mono ?_; rintro e w1 ⟨⟨v1, rfl, hv1⟩, h1⟩; replace HB : Below w.heap.size w w1 := bt2 h1 (by apply_rules [HB, Below.refl, bel, Below.drew, bt3]))
   | (go_at_call 105; with_reducible refine (rnd_nw true v1 x 2 0 _ hv1 HX.out (by omega) (by omega) (by omega)).mono ?_; rintro e w2 ⟨⟨n9, p9, rfl, hf9⟩, h2⟩; replace HB : Below w.heap.size w w2 := bt2 h2 (by apply_rules [HB, Below.refl, bel, Below.drew, bt3]))
   | (go_at_call 104; with_reducible refine (lay_any true n9 p9 _ _ hf9).mono ?_; rintro e w3 ⟨rfl, h3⟩; replace HB : Below w.heap.size w w3 := bt2 h3 (by apply_rules [HB, Below.refl, bel, Below.drew, bt3])))
 go_ret
 exact ⟨rfl, HB⟩
theorem fof_wrd (n : Int) : fof n = wrd (decide (n < 0)) (min (rg Ieee.single n.natAbs 0) 2139095040) := by
 unfold fof
 rw [nearest_word, word_wrd _ _ (by omega)]
theorem ofs_any (n : Int) (w : World) (h1 : -2147483648 ≤ n) (h2 : n ≤ 2147483647) :
   Calls Tryz.prog 92 #[.int .i32 n] w fun e w' => e = .returned (.int .u32 (fof n)) ∧ Below w.heap.size w w' := by
 rw [fof_wrd]
 by_cases h : n < 0
 · rw [decide_eq_true h]
   exact ofs_neg n.natAbs n w (by omega) (by omega) (by omega)
 · obtain ⟨x, rfl⟩ : ∃ x : Nat, n = x := ⟨n.toNat, by omega⟩
   rw [decide_eq_false h]
   exact ofs_pos x w (by omega)
end Go.Proofs.YtibhlcfligfhdaaGreat
