import Derived.Test.YtibhlcfligfhdaaGreatCSLay
import Derived.Test.YtibhlcfligfhdaaGreatCSSize
import Derived.Deep.RegionHeld3
namespace Go.Proofs.YtibhlcfligfhdaaGreat
open Go.RowKit
set_option maxRecDepth 100000
theorem nearest_word (neg : Bool) (mag : Nat) (place : Int) : Ieee.single.write (.number neg mag place) = Ieee.single.word neg (min (rg Ieee.single mag place) 2139095040) := nearest_rg _ _ _ _
def sn (a : Nat) : Bool := a / 2147483648 % 2 == 1
theorem cutz_eq (neg : Bool) (n drop : Nat) : Ieee.Toward.zero.cut neg n drop = n / 2 ^ drop := by
 unfold Ieee.Toward.cut
 dsimp only
 rw [Nat.shiftLeft_eq, Nat.one_mul]
 by_cases h : drop ≤ n.log2 + 2
 · rw [Nat.min_eq_left h]; rfl
 · rw [Nat.min_eq_right (by omega)]
   have h1 : n < 2 ^ (n.log2 + 2) := Nat.lt_of_lt_of_le Nat.lt_log2_self (Nat.pow_le_pow_right (by decide) (by omega))
   have h3 : 2 ^ (n.log2 + 2) ≤ 2 ^ drop := Nat.pow_le_pow_right (by decide) (by omega)
   rw [Nat.div_eq_of_lt h1, Nat.div_eq_of_lt (by omega)]; rfl
theorem fof_lt (n : Int) : fof n < 4294967296 := write_lt32 _
end Go.Proofs.YtibhlcfligfhdaaGreat
namespace Go.Proofs.YtibhlcfligfhdaaGreat
open Go.RowKit
set_option maxRecDepth 100000
abbrev ob : Obj := .cells #[.int .i64 24, .int .i64 (-149), .int .i64 104] 140
abbrev oz : Obj := .cells #[.int .u8 0, .bool false, .int .u64 0, .int .i64 0] 133
def hdV (m : Bool) (n : Nat) (p : Int) : Value := if 104 < p then .agg #[.int .u8 2, .bool m, .int .u64 0, .int .i64 0] else .agg #[.int .u8 3, .bool m, .int .u64 n, .int .i64 p]
set_option maxRecDepth 100000 in
set_option maxHeartbeats 1000000 in
theorem held_any (m : Bool) (n : Nat) (p : Int) (w : World) :
   Calls Tryz.prog 133 #[.agg #[.int .i64 24, .int .i64 (-149), .int .i64 104], .bool m, .int .u64 n, .int .i64 p] w fun e w' => e = .returned (hdV m n p) ∧ Below w.heap.size w w' := by
 by_cases h : 104 < p
 · have HV : Hid (hdV m n p = .agg #[.int .u8 2, .bool m, .int .u64 0, .int .i64 0]) := by rw [Hid, hdV, if_pos h]
   go_enter Tryz.func133, Tryz.ntmps133
   go_wp2_with (go_at_call 145; refine (vendless_any _ _).mono ?_; rintro e wq ⟨rfl, hq⟩; subst wq)
   refine bodyPost_ret (v := .agg #[.int .u8 2, .bool m, .int .u64 0, .int .i64 0]) (by simp [results, Tryz.f133, go_sem]) rfl ?_
   exact ⟨by rw [HV.out], by repeat (first | exact Below.refl _ _ | refine bel ?_ | refine Below.drew ?_)⟩
 · have HV : Hid (hdV m n p = .agg #[.int .u8 3, .bool m, .int .u64 n, .int .i64 p]) := by rw [Hid, hdV, if_neg h]
   have g1 : decide (104 < p) = false := decide_eq_false h
   go_enter Tryz.func133, Tryz.ntmps133
   go_wp2
   refine bodyPost_ret (v := .agg #[.int .u8 3, .bool m, .int .u64 n, .int .i64 p]) (by simp [results, Tryz.f133, go_sem]) rfl ?_
   exact ⟨by rw [HV.out], by repeat (first | exact Below.refl _ _ | refine bel ?_ | refine Below.drew ?_)⟩
@[go_sem] theorem bV3 (s : Int) (m : Bool) (p : Int) (w : World) : (Instr.build 133 #[(0, .int .u8 s), (1, .bool m), (3, .int .i64 p)]).run Tryz.prog w = .ok (.agg #[.int .u8 s, .bool m, .int .u64 0, .int .i64 p]) w := run_build w 133 _ _ (by kernel_rfl)
set_option maxRecDepth 100000 in
set_option maxHeartbeats 1000000 in
theorem nought_any (m : Bool) (w : World) :
   Calls Tryz.prog 131 #[.agg #[.int .i64 24, .int .i64 (-149), .int .i64 104], .bool m] w fun e w' => e = .returned (.agg #[.int .u8 3, .bool m, .int .u64 0, .int .i64 (-149)]) ∧ Below w.heap.size w w' := by
 go_enter Tryz.func131, Tryz.ntmps131
 go_wp2
 refine bodyPost_ret (v := .agg #[.int .u8 3, .bool m, .int .u64 0, .int .i64 (-149)]) (by simp [results, Tryz.f131, go_sem]) rfl ?_
 exact ⟨rfl, by repeat (first | exact Below.refl _ _ | refine bel ?_ | refine Below.drew ?_)⟩
end Go.Proofs.YtibhlcfligfhdaaGreat
namespace Go.Proofs.YtibhlcfligfhdaaGreat
open Go.RowKit
set_option maxRecDepth 100000
theorem kF {w W : World} (h : Below ((w.alloc ob).alloc oz).heap.size ((w.alloc ob).alloc oz) W) :
   W.cell? ⟨w.heap.size, 0, none⟩ = some (.int .i64 24) ∧ W.cell? ⟨w.heap.size, 1, none⟩ = some (.int .i64 (-149)) ∧ W.cell? ⟨w.heap.size, 2, none⟩ = some (.int .i64 104) := by
 refine ⟨(h.cell (p := ⟨w.heap.size, 0, none⟩) (by simp; omega)).trans (by simp), (h.cell (p := ⟨w.heap.size, 1, none⟩) (by simp; omega)).trans (by simp), (h.cell (p := ⟨w.heap.size, 2, none⟩) (by simp; omega)).trans (by simp)⟩
theorem kR {w W : World} (h : Below ((w.alloc ob).alloc oz).heap.size ((w.alloc ob).alloc oz) W) :
   W.cell? ⟨w.heap.size + 1, 0, none⟩ = some (.int .u8 0) ∧ W.cell? ⟨w.heap.size + 1, 1, none⟩ = some (.bool false) ∧ W.cell? ⟨w.heap.size + 1, 2, none⟩ = some (.int .u64 0) ∧ W.cell? ⟨w.heap.size + 1, 3, none⟩ = some (.int .i64 0) := by
 refine ⟨(h.cell (p := ⟨w.heap.size + 1, 0, none⟩) (by simp)).trans (by simp), (h.cell (p := ⟨w.heap.size + 1, 1, none⟩) (by simp)).trans (by simp), (h.cell (p := ⟨w.heap.size + 1, 2, none⟩) (by simp)).trans (by simp), (h.cell (p := ⟨w.heap.size + 1, 3, none⟩) (by simp)).trans (by simp)⟩
theorem kA {w W : World} (h : Below ((w.alloc ob).alloc oz).heap.size ((w.alloc ob).alloc oz) W) :
   W.cell? ⟨w.heap.size + 1, 0, none⟩ = some (.int .u8 0) ∧ W.cell? ⟨w.heap.size + 1, 1, none⟩ = some (.bool false) ∧ W.cell? ⟨w.heap.size + 1, 2, none⟩ = some (.int .u64 0) ∧ W.cell? ⟨w.heap.size + 1, 3, none⟩ = some (.int .i64 0) ∧ W.frozen? ⟨w.heap.size + 1, 0, none⟩ = false ∧ W.frozen? ⟨w.heap.size + 1, 1, none⟩ = false ∧ W.frozen? ⟨w.heap.size + 1, 2, none⟩ = false ∧ W.frozen? ⟨w.heap.size + 1, 3, none⟩ = false :=
 ⟨(kR h).1, (kR h).2.1, (kR h).2.2.1, (kR h).2.2.2, (h.frozen (p := ⟨w.heap.size + 1, 0, none⟩) (by simp)).trans (by simp), (h.frozen (p := ⟨w.heap.size + 1, 1, none⟩) (by simp)).trans (by simp), (h.frozen (p := ⟨w.heap.size + 1, 2, none⟩) (by simp)).trans (by simp), (h.frozen (p := ⟨w.heap.size + 1, 3, none⟩) (by simp)).trans (by simp)⟩
theorem kS {w W : World} {a b c d : Value} (h : Below ((w.alloc ob).alloc oz).heap.size ((w.alloc ob).alloc oz) W) :
   ((((W.setCell ⟨w.heap.size + 1, 0, none⟩ a).setCell ⟨w.heap.size + 1, 1, none⟩ b).setCell ⟨w.heap.size + 1, 2, none⟩ c).setCell ⟨w.heap.size + 1, 3, none⟩ d).cell? ⟨w.heap.size, 0, none⟩ = some (.int .i64 24) ∧ ((((W.setCell ⟨w.heap.size + 1, 0, none⟩ a).setCell ⟨w.heap.size + 1, 1, none⟩ b).setCell ⟨w.heap.size + 1, 2, none⟩ c).setCell ⟨w.heap.size + 1, 3, none⟩ d).cell? ⟨w.heap.size, 1, none⟩ = some (.int .i64 (-149)) ∧ ((((W.setCell ⟨w.heap.size + 1, 0, none⟩ a).setCell ⟨w.heap.size + 1, 1, none⟩ b).setCell ⟨w.heap.size + 1, 2, none⟩ c).setCell ⟨w.heap.size + 1, 3, none⟩ d).cell? ⟨w.heap.size, 2, none⟩ = some (.int .i64 104) := by
 obtain ⟨h0, h1, h2⟩ := kF h
 refine ⟨?_, ?_, ?_⟩
 all_goals rw [World.cell?_setCell_other _ _ _ _ (by simp), World.cell?_setCell_other _ _ _ _ (by simp), World.cell?_setCell_other _ _ _ _ (by simp), World.cell?_setCell_other _ _ _ _ (by simp)]
 · exact h0
 · exact h1
 · exact h2
theorem kB {w W : World} {a b c d : Value} (h : Below ((w.alloc ob).alloc oz).heap.size ((w.alloc ob).alloc oz) W) :
   Below w.heap.size w ((((W.setCell ⟨w.heap.size + 1, 0, none⟩ a).setCell ⟨w.heap.size + 1, 1, none⟩ b).setCell ⟨w.heap.size + 1, 2, none⟩ c).setCell ⟨w.heap.size + 1, 3, none⟩ d) := by
 have h1 : Below w.heap.size w W := (bel (bel (Below.refl _ _))).trans (h.mono (by simp; omega))
 exact (((h1.setCell (p := ⟨w.heap.size + 1, 0, none⟩) (Nat.le_succ _) a).setCell (p := ⟨w.heap.size + 1, 1, none⟩) (Nat.le_succ _) b).setCell (p := ⟨w.heap.size + 1, 2, none⟩) (Nat.le_succ _) c).setCell (p := ⟨w.heap.size + 1, 3, none⟩) (Nat.le_succ _) d
def kk (N : Nat) (P : Int) : Int := max (P + nbits N - 24) (-149)
theorem bt2 {a W w1 : World} (h : Below W.heap.size W w1) (h' : Below a.heap.size a W) : Below a.heap.size a w1 := h'.trans (h.mono h'.size)
theorem bt3 {a w1 : World} {n : Nat} (h : Below a.heap.size a w1) : Below a.heap.size a (w1.drewN n) := h.trans ⟨rfl, rfl, rfl, Nat.le_refl _, fun _ _ => rfl⟩
theorem NatV.dest {w : World} {v : Value} {x : Nat} (h : NatV w v x) : ∃ ao cap zs, v = .slice ao (List.length zs) cap ∧ List.length zs ≤ cap ∧ (ao = none → cap = 0) ∧ nv zs = x ∧ Norm zs ∧ Words zs ∧ ReadsU w ao zs w.heap.size := h
theorem small_len {zs : List Nat} (hN : Norm zs) {x : Nat} (h : nv zs = x) (hx : x < 18446744073709551616) : zs.length ≤ 2 := norm_len hN 2 (by rw [h]; exact hx)
set_option maxRecDepth 100000 in
set_option maxHeartbeats 4000000 in
theorem rnd1a (m : Bool) (ao : Option Addr) (cap : Nat) (zs : List Nat) (P : Int) (nb X M : Nat) (w : World) (hl : zs.length ≤ 100) (hr : ReadsU w ao zs w.heap.size) (hW : Words zs) (hN : Norm zs) (hz : zs.length ≠ 0) (hnb : nbits (nv zs) = nb) (hnl : nb ≤ 4000) (hP : -5000 ≤ P) (hP2 : P ≤ 5000) (hA : P + nb - 24 < -149) (hX : P - -149 = X) (hM : nv zs * 2 ^ X = M) (hMl : M < 18446744073709551616) :
   Calls Tryz.prog 105 #[.agg #[.int .i64 24, .int .i64 (-149), .int .i64 104], .bool m, .slice ao zs.length cap, .int .i64 P, .bool false] w fun e w' => e = .returned (hdV m M (-149)) ∧ Below w.heap.size w w' := by
 have hz' : ((zs.length : Int) == 0) = false := by rw [beq_eq_false_iff_ne]; omega
 have sz := fun W hrW => size_any ao cap zs W (by omega) hrW hW hN
 rw [hnb] at sz
 have HM : Hid (nv zs * 2 ^ X = M) := hM
 have hX5 : X ≤ 10000 := by omega
 have hPX : P + 149 = X := by omega
 have hPl : (-149 : Int) ≤ P := by omega
 have HXw : Hid (IntKind.i64.wrap (X : Int) = X) := by rw [Hid, IntKind.wrap_i64]; omega
 have HD : Hid (hdV m M (-149) = .agg #[.int .u8 3, .bool m, .int .u64 M, .int .i64 (-149)]) := by rw [Hid, hdV, if_neg (by omega)]
 clear hM hX
 go_enter Tryz.func105, Tryz.ntmps105
 go_wp2
 have hr2 : ReadsU ((w.alloc ob).alloc oz) ao zs ((w.alloc ob).alloc oz).heap.size := (hr.below (bel (bel (Below.refl _ _)))).mono (by simp; omega)
 go_quiet (((go_at_call 132); exact Calls.quiet_of_same (sz _ hr2)))
 go_wp2
 go_region_held3 (fun w' => w'.cell? ⟨w.heap.size, 0, none⟩ = some (.int .i64 24) ∧ w'.cell? ⟨w.heap.size, 1, none⟩ = some (.int .i64 (-149)) ∧ w'.cell? ⟨w.heap.size, 2, none⟩ = some (.int .i64 104)) ((first | ((try dsimp only); with_reducible refine kS ?_; (repeat (first | exact Below.refl _ _ | with_reducible first | refine bel ?_ | refine Below.drew ?_ | refine bt3 ?_ | with_reducible refine bt2 hb1 ?_ | with_reducible refine bt2 hb2 ?_)); done) | (refine kF ?_; (repeat (first | exact Below.refl _ _ | with_reducible first | refine bel ?_ | refine Below.drew ?_ | refine bt3 ?_ | with_reducible refine bt2 hb1 ?_ | with_reducible refine bt2 hb2 ?_)); done))) (first
   | (go_at_call 130; rw [HXw.out]; with_reducible refine (up_any ao cap zs X _ (by omega) (by omega) ?_ hW).mono ?_; (exact (hr2.below (by apply_rules [Below.refl, bel, Below.drew, bt3])).mono (by simp)); rintro e w1 ⟨⟨v1, rfl, hv1⟩, hb1⟩; obtain ⟨ao1, cap1, zs1, rfl, hc1, hn1, hval1, hN1, hW1, hr1⟩ := hv1.dest)
   | (go_at_call 108; with_reducible refine (low_any ao1 cap1 zs1 _ (by have := small_len hN1 (hval1.trans HM.out) hMl; omega) ?_ hW1).mono ?_; (exact (hr1.below (by apply_rules [Below.refl, bel, Below.drew, bt3])).mono (by simp)); rintro e wq ⟨rfl, hq⟩; rw [hval1, HM.out, Nat.mod_eq_of_lt hMl]; subst wq)
   | (go_at_call 133; with_reducible refine (held_any m M (-149) _).mono ?_; rintro e w2 ⟨rfl, hb2⟩; rw [HD.out]; obtain ⟨r0, r1, r2, r3, q0, q1, q2, q3⟩ := kA (w := w) (W := w2) (by repeat (first | exact Below.refl _ _ | with_reducible first | refine bel ?_ | refine Below.drew ?_ | refine bt3 ?_ | with_reducible refine bt2 hb1 ?_ | with_reducible refine bt2 hb2 ?_))))
 go_wp2
 refine bodyPost_ret (v := .agg #[.int .u8 3, .bool m, .int .u64 M, .int .i64 (-149)]) (by simp [results, Tryz.f105, go_sem, r0, r1, r2, r3]) rfl ?_
 exact ⟨by rw [HD.out], kB (by repeat (first | exact Below.refl _ _ | with_reducible first | refine bel ?_ | refine Below.drew ?_ | refine bt3 ?_ | with_reducible refine bt2 hb1 ?_ | with_reducible refine bt2 hb2 ?_))⟩
end Go.Proofs.YtibhlcfligfhdaaGreat
namespace Go.Proofs.YtibhlcfligfhdaaGreat
open Go.RowKit
set_option maxRecDepth 100000
def vS (p : Int) : Int := if 104 < p then 2 else 3
def vM (n : Nat) (p : Int) : Int := if 104 < p then 0 else n
def vP (p : Int) : Int := if 104 < p then 0 else p
theorem hdV_agg (m : Bool) (n : Nat) (p : Int) : hdV m n p = .agg #[.int .u8 (vS p), .bool m, .int .u64 (vM n p), .int .i64 (vP p)] := by
 unfold hdV vS vM vP; split <;> rfl
theorem RU {a W : World} {ao : Option Addr} {zs : List Nat} (h : ReadsU a ao zs a.heap.size) (hb : Below a.heap.size a W) : ReadsU W ao zs W.heap.size := (h.below hb).mono hb.size
theorem ag_lt {x y : Nat} (h : x < y) : ag x y = -1 := by unfold ag; rw [if_pos h]
theorem ag_eq (x : Nat) : ag x x = 0 := by unfold ag; rw [if_neg (Nat.lt_irrefl _), if_pos rfl]
theorem ag_gt {x y : Nat} (h : y < x) : ag x y = 1 := by unfold ag; rw [if_neg (by omega), if_neg (by omega)]
set_option maxRecDepth 100000 in
set_option maxHeartbeats 4000000 in
theorem rnd0 (m : Bool) (ao : Option Addr) (cap : Nat) (zs : List Nat) (P : Int) (w : World) (hz : zs.length = 0) :
   Calls Tryz.prog 105 #[.agg #[.int .i64 24, .int .i64 (-149), .int .i64 104], .bool m, .slice ao zs.length cap, .int .i64 P, .bool false] w fun e w' => e = .returned (hdV m 0 (-149)) ∧ Below w.heap.size w w' := by
 have hz' : (zs.length : Int) = 0 := by omega
 have HD : Hid (hdV m 0 (-149) = .agg #[.int .u8 3, .bool m, .int .u64 0, .int .i64 (-149)]) := by rw [Hid, hdV, if_neg (by omega)]; rfl
 go_enter Tryz.func105, Tryz.ntmps105
 go_wp2_with (go_at_call 131; with_reducible refine (nought_any m _).mono ?_; rintro e w2 ⟨rfl, hb2⟩; have HB : Below ((w.alloc ob).alloc oz).heap.size ((w.alloc ob).alloc oz) w2 := bt2 hb2 (by apply_rules [Below.refl, bel, Below.drew, bt3]); obtain ⟨r0, r1, r2, r3, q0, q1, q2, q3⟩ := kA HB)
 refine bodyPost_ret (v := .agg #[.int .u8 3, .bool m, .int .u64 0, .int .i64 (-149)]) (by simp [results, Tryz.f105, go_sem, r0, r1, r2, r3]) rfl ?_
 exact ⟨by rw [HD.out], kB HB⟩
set_option maxRecDepth 100000 in
set_option maxHeartbeats 4000000 in
theorem rnd2 (m : Bool) (ao : Option Addr) (cap : Nat) (zs : List Nat) (P : Int) (nb : Nat) (w : World) (hl : zs.length ≤ 100) (hr : ReadsU w ao zs w.heap.size) (hW : Words zs) (hN : Norm zs) (hz : zs.length ≠ 0) (hnb : nbits (nv zs) = nb) (hnl : nb ≤ 4000) (hP : -5000 ≤ P) (hP2 : P ≤ 5000) (hA : P + nb - 24 < -149) (hkP : P < -149) (hD : (nb : Int) + 1 < -149 - P) :
   Calls Tryz.prog 105 #[.agg #[.int .i64 24, .int .i64 (-149), .int .i64 104], .bool m, .slice ao zs.length cap, .int .i64 P, .bool false] w fun e w' => e = .returned (hdV m 0 (-149)) ∧ Below w.heap.size w w' := by
 have hz' : ((zs.length : Int) == 0) = false := by rw [beq_eq_false_iff_ne]; omega
 have sz := fun W hrW => size_any ao cap zs W (by omega) hrW hW hN
 rw [hnb] at sz
 have HD : Hid (hdV m 0 (-149) = .agg #[.int .u8 3, .bool m, .int .u64 0, .int .i64 (-149)]) := by rw [Hid, hdV, if_neg (by omega)]; rfl
 have hr2 : ReadsU ((w.alloc ob).alloc oz) ao zs ((w.alloc ob).alloc oz).heap.size := RU hr (bel (bel (Below.refl _ _)))
 go_enter Tryz.func105, Tryz.ntmps105
 go_wp2
 go_quiet (((go_at_call 132); exact Calls.quiet_of_same (sz _ hr2)))
 go_wp2_with (first
   | (go_at_call 132; with_reducible refine (sz _ (RU hr2 (by apply_rules [Below.refl, bel, Below.drew, bt3]))).mono ?_; rintro e wq ⟨rfl, hq⟩; subst wq)
   | (go_at_call 131; with_reducible refine (nought_any m _).mono ?_; rintro e w2 ⟨rfl, hb2⟩; have HB : Below ((w.alloc ob).alloc oz).heap.size ((w.alloc ob).alloc oz) w2 := bt2 hb2 (by apply_rules [Below.refl, bel, Below.drew, bt3]); obtain ⟨r0, r1, r2, r3, q0, q1, q2, q3⟩ := kA HB))
 refine bodyPost_ret (v := .agg #[.int .u8 3, .bool m, .int .u64 0, .int .i64 (-149)]) (by simp [results, Tryz.f105, go_sem, r0, r1, r2, r3]) rfl ?_
 exact ⟨by rw [HD.out], kB HB⟩
set_option maxRecDepth 100000 in
set_option maxHeartbeats 4000000 in
theorem rnd1b (m : Bool) (ao : Option Addr) (cap : Nat) (zs : List Nat) (P : Int) (nb X M : Nat) (K : Int) (w : World) (hl : zs.length ≤ 100) (hr : ReadsU w ao zs w.heap.size) (hW : Words zs) (hN : Norm zs) (hz : zs.length ≠ 0) (hnb : nbits (nv zs) = nb) (hnl : nb ≤ 4000) (hP : -5000 ≤ P) (hP2 : P ≤ 5000) (hA : ¬ P + nb - 24 < -149) (hK : P + nb - 24 = K) (hKP : K ≤ P) (hX : P - K = X) (hM : nv zs * 2 ^ X = M) (hMl : M < 18446744073709551616) :
   Calls Tryz.prog 105 #[.agg #[.int .i64 24, .int .i64 (-149), .int .i64 104], .bool m, .slice ao zs.length cap, .int .i64 P, .bool false] w fun e w' => e = .returned (hdV m M K) ∧ Below w.heap.size w w' := by
 have hz' : ((zs.length : Int) == 0) = false := by rw [beq_eq_false_iff_ne]; omega
 have sz := fun W hrW => size_any ao cap zs W (by omega) hrW hW hN
 rw [hnb] at sz
 have HM : Hid (nv zs * 2 ^ X = M) := hM
 have hX5 : X ≤ 10000 := by omega
 have hA' : (-149 : Int) ≤ K := by omega
 have HXw : Hid (IntKind.i64.wrap (P - K) = X) := by rw [Hid, IntKind.wrap_i64]; omega
 have HXw' : Hid (IntKind.i64.wrap (X : Int) = X) := by rw [Hid, IntKind.wrap_i64]; omega
 have HD : Hid (hdV m M K = .agg #[.int .u8 (vS K), .bool m, .int .u64 (vM M K), .int .i64 (vP K)]) := hdV_agg m M K
 have hr2 : ReadsU ((w.alloc ob).alloc oz) ao zs ((w.alloc ob).alloc oz).heap.size := RU hr (bel (bel (Below.refl _ _)))
 clear hM
 go_enter Tryz.func105, Tryz.ntmps105
 go_wp2
 go_quiet (((go_at_call 132); exact Calls.quiet_of_same (sz _ hr2)))
 go_wp2
 go_region_held3 (fun w' => w'.cell? ⟨w.heap.size, 0, none⟩ = some (.int .i64 24) ∧ w'.cell? ⟨w.heap.size, 1, none⟩ = some (.int .i64 (-149)) ∧ w'.cell? ⟨w.heap.size, 2, none⟩ = some (.int .i64 104)) ((first | ((try dsimp only); with_reducible refine kS ?_; (repeat (first | exact Below.refl _ _ | with_reducible first | refine bel ?_ | refine Below.drew ?_ | refine bt3 ?_ | with_reducible refine bt2 hb1 ?_ | with_reducible refine bt2 hb2 ?_)); done) | (refine kF ?_; (repeat (first | exact Below.refl _ _ | with_reducible first | refine bel ?_ | refine Below.drew ?_ | refine bt3 ?_ | with_reducible refine bt2 hb1 ?_ | with_reducible refine bt2 hb2 ?_)); done))) (first
   | (go_at_call 130; (first | rw [HXw.out] | rw [HXw'.out]); with_reducible refine (up_any ao cap zs X _ (by omega) (by omega) (RU hr2 (by (repeat (first | exact Below.refl _ _ | with_reducible first | refine bel ?_ | refine Below.drew ?_ | refine bt3 ?_ | with_reducible refine bt2 hb1 ?_ | with_reducible refine bt2 hb2 ?_)))) hW).mono ?_; rintro e w1 ⟨⟨v1, rfl, hv1⟩, hb1⟩; obtain ⟨ao1, cap1, zs1, rfl, hc1, hn1, hval1, hN1, hW1, hr1⟩ := hv1.dest)
   | (go_at_call 108; with_reducible refine (low_any ao1 cap1 zs1 _ (by have := small_len hN1 (hval1.trans HM.out) hMl; omega) (RU hr1 (by (repeat (first | exact Below.refl _ _ | with_reducible first | refine bel ?_ | refine Below.drew ?_ | refine bt3 ?_ | with_reducible refine bt2 hb1 ?_ | with_reducible refine bt2 hb2 ?_)))) hW1).mono ?_; rintro e wq ⟨rfl, hq⟩; rw [hval1, HM.out, Nat.mod_eq_of_lt hMl]; subst wq)
   | (go_at_call 133; with_reducible refine (held_any m M K _).mono ?_; rintro e w2 ⟨rfl, hb2⟩; rw [HD.out]; obtain ⟨r0, r1, r2, r3, q0, q1, q2, q3⟩ := kA (w := w) (W := w2) (by (repeat (first | exact Below.refl _ _ | with_reducible first | refine bel ?_ | refine Below.drew ?_ | refine bt3 ?_ | with_reducible refine bt2 hb1 ?_ | with_reducible refine bt2 hb2 ?_)))))
 go_wp2
 refine bodyPost_ret (v := .agg #[.int .u8 (vS K), .bool m, .int .u64 (vM M K), .int .i64 (vP K)]) (by simp [results, Tryz.f105, go_sem, r0, r1, r2, r3]) rfl ?_
 exact ⟨by rw [HD.out], kB (by (repeat (first | exact Below.refl _ _ | with_reducible first | refine bel ?_ | refine Below.drew ?_ | refine bt3 ?_ | with_reducible refine bt2 hb1 ?_ | with_reducible refine bt2 hb2 ?_)))⟩
end Go.Proofs.YtibhlcfligfhdaaGreat
namespace Go.Proofs.YtibhlcfligfhdaaGreat
open Go.RowKit
set_option maxRecDepth 100000
theorem len5 {zs5 zs : List Nat} (hN : Norm zs5) {R q2 : Nat} (h : nv zs5 = R) (hR : nv zs - q2 = R) (_ : q2 ≤ nv zs) (hW : Words zs) (hl : zs.length ≤ 100) : zs5.length ≤ 1000000 := by
 have := norm_len hN zs.length (by have := nv_lt hW; omega)
 omega
theorem held_lit (m : Bool) (p : Int) (w : World) : Calls Tryz.prog 133 #[.agg #[.int .i64 24, .int .i64 (-149), .int .i64 104], .bool m, .int .u64 8388608, .int .i64 p] w fun e w' => e = .returned (hdV m 8388608 p) ∧ Below w.heap.size w w' := held_any m 8388608 p w
theorem nat_1 (w : World) : Calls Tryz.prog 107 #[.int .u64 1] w fun e w' => (∃ v, e = .returned v ∧ NatV w' v 1) ∧ Below w.heap.size w w' := nat_any 1 w (by decide)
theorem len7 {zs7 : List Nat} (hN : Norm zs7) {half D : Nat} (h : nv zs7 = half) (hh : 2 ^ (D - 1) = half) (hD : D ≤ 4001) : zs7.length ≤ 1000000 := by
 have h1 : ∀ k, D - 1 < 32 * k → zs7.length ≤ k := fun k hk => norm_len hN k (by
   rw [h, ← hh, show (4294967296 : Nat) = 2 ^ 32 from rfl, ← Nat.pow_mul]
   exact Nat.pow_lt_pow_right (by decide) hk)
 have := h1 200 (by omega)
 omega
end Go.Proofs.YtibhlcfligfhdaaGreat
