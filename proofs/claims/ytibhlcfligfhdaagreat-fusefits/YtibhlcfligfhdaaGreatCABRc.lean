import Derived.Test.YtibhlcfligfhdaaGreatCABRb
import Derived.Test.YtibhlcfligfhdaaGreatCSPrA
import Derived.Test.YtibhlcfligfhdaaGreatCSRmD3
import Derived.Test.YtibhlcfligfhdaaGreatCIInf
import Derived.Test.YtibhlcfligfhdaaGreatCAUnB
import Derived.Test.YtibhlcfligfhdaaGreatCSStA
namespace Go.Proofs.YtibhlcfligfhdaaGreat
open Go.RowKit
set_option maxRecDepth 100000
set_option maxRecDepth 100000 in
set_option maxHeartbeats 4000000 in
theorem rb_add (a b : Nat) (w : World) (ha : a < 4294967296) (hb : b < 4294967296) :
   Calls Tryz.prog 79 #[.int .u8 39, .int .u32 a, .int .u32 b] w fun e w' => e = .returned (.tuple #[.int .u32 (((a + b) % 4294967296 : Nat) : Int), .int .i64 0]) ∧ Below w.heap.size w w' := by
 have hw : wrap64 ((a : Int) + (b : Int)) = (a : Int) + (b : Int) := by unfold wrap64; omega
 have cw : ∀ w, Calls Tryz.prog 89 #[.int .i64 ((a : Int) + (b : Int))] w fun e w' => e = .returned (.int .u32 (((a + b) % 4294967296 : Nat) : Int)) ∧ w' = w := fun w => by
   have := rwrap_any ((a : Int) + (b : Int)) w
   rw [show ((a : Int) + (b : Int)) % 4294967296 = (((a + b) % 4294967296 : Nat) : Int) from by omega] at this
   exact this
 have HB : Below w.heap.size w w := Below.refl _ _
 go_enter Tryz.func79, Tryz.ntmps79
 go_wp2_with (first
   | (go_at_call 89; with_reducible refine (cw _).mono ?_; rintro e wq ⟨rfl, hq⟩; subst wq))
 all_goals simp [bodyPost, results, Tryz.results79]
 all_goals (repeat (first | exact HB | with_reducible refine Below.drew ?_))
set_option maxRecDepth 100000 in
set_option maxHeartbeats 4000000 in
theorem rb_sub (a b : Nat) (w : World) (ha : a < 4294967296) (hb : b < 4294967296) :
   Calls Tryz.prog 79 #[.int .u8 40, .int .u32 a, .int .u32 b] w fun e w' => e = .returned (.tuple #[.int .u32 (((a + 4294967296 - b) % 4294967296 : Nat) : Int), .int .i64 0]) ∧ Below w.heap.size w w' := by
 have hw : wrap64 ((a : Int) - (b : Int)) = (a : Int) - (b : Int) := by unfold wrap64; omega
 have cw : ∀ w, Calls Tryz.prog 89 #[.int .i64 ((a : Int) - (b : Int))] w fun e w' => e = .returned (.int .u32 (((a + 4294967296 - b) % 4294967296 : Nat) : Int)) ∧ w' = w := fun w => by
   have := rwrap_any ((a : Int) - (b : Int)) w
   rw [show ((a : Int) - (b : Int)) % 4294967296 = (((a + 4294967296 - b) % 4294967296 : Nat) : Int) from by omega] at this
   exact this
 have HB : Below w.heap.size w w := Below.refl _ _
 go_enter Tryz.func79, Tryz.ntmps79
 go_wp2_with (first
   | (go_at_call 89; with_reducible refine (cw _).mono ?_; rintro e wq ⟨rfl, hq⟩; subst wq))
 all_goals simp [bodyPost, results, Tryz.results79]
 all_goals (repeat (first | exact HB | with_reducible refine Below.drew ?_))
theorem rb_div (op a b : Nat) (w : World) (ho : op = 42 ∨ op = 43 ∨ op = 44 ∨ op = 45) (ha : a < 4294967296) (hb : b < 4294967296) :
   Calls Tryz.prog 79 #[.int .u8 op, .int .u32 a, .int .u32 b] w fun e w' => e = .returned (.tuple #[.int .u32 (binV op a b), .int .i64 (binE op b)]) ∧ Below w.heap.size w w' := by
 have cd := fun w => rdiv_any op a b w ho ha hb
 generalize binV op a b = V at *
 generalize binE op b = E at *
 have HB : Below w.heap.size w w := Below.refl _ _
 rcases ho with rfl | rfl | rfl | rfl
 · have cd' : ∀ w, Calls Tryz.prog 94 #[.int .u8 42, .int .u32 a, .int .u32 b] w fun e w' => e = .returned (.tuple #[.int .u32 V, .int .i64 E]) ∧ w' = w := cd
   clear cd
   go_enter Tryz.func79, Tryz.ntmps79
   go_wp2_with (go_at_call 94; with_reducible refine (cd' _).mono ?_; rintro e wq ⟨rfl, hq⟩; subst wq)
   simp [bodyPost, results, Tryz.results79]
   exact HB
 · have cd' : ∀ w, Calls Tryz.prog 94 #[.int .u8 43, .int .u32 a, .int .u32 b] w fun e w' => e = .returned (.tuple #[.int .u32 V, .int .i64 E]) ∧ w' = w := cd
   clear cd
   go_enter Tryz.func79, Tryz.ntmps79
   go_wp2_with (go_at_call 94; with_reducible refine (cd' _).mono ?_; rintro e wq ⟨rfl, hq⟩; subst wq)
   simp [bodyPost, results, Tryz.results79]
   exact HB
 · have cd' : ∀ w, Calls Tryz.prog 94 #[.int .u8 44, .int .u32 a, .int .u32 b] w fun e w' => e = .returned (.tuple #[.int .u32 V, .int .i64 E]) ∧ w' = w := cd
   clear cd
   go_enter Tryz.func79, Tryz.ntmps79
   go_wp2_with (go_at_call 94; with_reducible refine (cd' _).mono ?_; rintro e wq ⟨rfl, hq⟩; subst wq)
   simp [bodyPost, results, Tryz.results79]
   exact HB
 · have cd' : ∀ w, Calls Tryz.prog 94 #[.int .u8 45, .int .u32 a, .int .u32 b] w fun e w' => e = .returned (.tuple #[.int .u32 V, .int .i64 E]) ∧ w' = w := cd
   clear cd
   go_enter Tryz.func79, Tryz.ntmps79
   go_wp2_with (go_at_call 94; with_reducible refine (cd' _).mono ?_; rintro e wq ⟨rfl, hq⟩; subst wq)
   simp [bodyPost, results, Tryz.results79]
   exact HB
set_option maxRecDepth 100000 in
set_option maxHeartbeats 4000000 in
theorem rb_and (a b : Nat) (w : World) (ha : a < 4294967296) (hb : b < 4294967296) :
   Calls Tryz.prog 79 #[.int .u8 46, .int .u32 a, .int .u32 b] w fun e w' => e = .returned (.tuple #[.int .u32 ((a &&& b : Nat) : Int), .int .i64 0]) ∧ Below w.heap.size w w' := by
 have cb := fun w => rbits_and a b w ha hb
 generalize (a &&& b) = V at *
 have HB : Below w.heap.size w w := Below.refl _ _
 go_enter Tryz.func79, Tryz.ntmps79
 go_wp2_with (first
   | (go_at_call 95; with_reducible refine (cb _).mono ?_; rintro e wq ⟨rfl, hq⟩; replace HB : Below w.heap.size w wq := btw hq HB))
 all_goals simp [bodyPost, results, Tryz.results79]
 all_goals (repeat (first | exact HB | with_reducible refine Below.drew ?_))
set_option maxRecDepth 100000 in
set_option maxHeartbeats 4000000 in
theorem rb_or (a b : Nat) (w : World) (ha : a < 4294967296) (hb : b < 4294967296) :
   Calls Tryz.prog 79 #[.int .u8 47, .int .u32 a, .int .u32 b] w fun e w' => e = .returned (.tuple #[.int .u32 ((a ||| b : Nat) : Int), .int .i64 0]) ∧ Below w.heap.size w w' := by
 have cb := fun w => rbits_or a b w ha hb
 generalize (a ||| b) = V at *
 have HB : Below w.heap.size w w := Below.refl _ _
 go_enter Tryz.func79, Tryz.ntmps79
 go_wp2_with (first
   | (go_at_call 95; with_reducible refine (cb _).mono ?_; rintro e wq ⟨rfl, hq⟩; replace HB : Below w.heap.size w wq := btw hq HB))
 all_goals simp [bodyPost, results, Tryz.results79]
 all_goals (repeat (first | exact HB | with_reducible refine Below.drew ?_))
set_option maxRecDepth 100000 in
set_option maxHeartbeats 4000000 in
theorem rb_xor (a b : Nat) (w : World) (ha : a < 4294967296) (hb : b < 4294967296) :
   Calls Tryz.prog 79 #[.int .u8 48, .int .u32 a, .int .u32 b] w fun e w' => e = .returned (.tuple #[.int .u32 ((a ^^^ b : Nat) : Int), .int .i64 0]) ∧ Below w.heap.size w w' := by
 have cb := fun w => rbits_xor a b w ha hb
 generalize (a ^^^ b) = V at *
 have HB : Below w.heap.size w w := Below.refl _ _
 go_enter Tryz.func79, Tryz.ntmps79
 go_wp2_with (first
   | (go_at_call 95; with_reducible refine (cb _).mono ?_; rintro e wq ⟨rfl, hq⟩; replace HB : Below w.heap.size w wq := btw hq HB))
 all_goals simp [bodyPost, results, Tryz.results79]
 all_goals (repeat (first | exact HB | with_reducible refine Below.drew ?_))
theorem shl_parts (a s : Nat) (hs : s < 32) : a % 2 ^ (32 - s) * 2 ^ s = a * 2 ^ s % 4294967296 := by
 have e : 4294967296 = 2 ^ (32 - s) * 2 ^ s := by rw [← Nat.pow_add, show 32 - s + s = 32 by omega]
 rw [e, Nat.mul_mod_mul_right]
theorem iw64 {n : Nat} (h : n ≤ 9223372036854775807) : IntKind.i64.wrap (n : Int) = (n : Int) := by rw [IntKind.wrap_i64]; omega
theorem shl_fits (a s u r m v g : Nat) (sl : s < 32) (hu : 32 - s = u) (ha : a < 4294967296) (hr : a % v = r) (hv : 0 < v) (E : r * g = m) (lm : m < 4294967296) :
   IntKind.u32.wrap (32 - (s : Int)) = (u : Int) ∧ (32 - (s : Int)) % 4294967296 = (u : Int) ∧ (a : Int) % (v : Int) = (r : Int) ∧ (a : Int).tmod (v : Int) = (r : Int) ∧ ¬ (v : Int) = 0 ∧ ¬ v = 0 ∧ ((v : Int) == 0) = false ∧ (r : Int) * (g : Int) = (m : Int) ∧ wrap64 (r : Int) = (r : Int) ∧ wrap64 (m : Int) = (m : Int) ∧ (m : Int) % 4294967296 = (m : Int) := by
 have e1 : (32 - (s : Int)) % 4294967296 = (u : Int) := by omega
 have lr := Nat.mod_le a v
 rw [hr] at lr
 refine ⟨?_, e1, by rw [← hr]; rfl, by rw [← hr]; rfl, by omega, by omega, ?_, by rw [← E]; simp, w64n (by omega), w64n (by omega), by omega⟩
 · rw [show IntKind.u32.wrap (32 - (s : Int)) = (32 - (s : Int)) % 4294967296 by simp [IntKind.wrap, IntKind.signed, IntKind.bits]]; exact e1
 · rw [beq_eq_false_iff_ne]; omega
set_option maxRecDepth 100000 in
set_option maxHeartbeats 4000000 in
theorem rb_shl (a b : Nat) (w : World) (ha : a < 4294967296) (hb : b < 4294967296) :
   Calls Tryz.prog 79 #[.int .u8 50, .int .u32 a, .int .u32 b] w fun e w' => e = .returned (.tuple #[.int .u32 ((a * 2 ^ (b % 32) % 4294967296 : Nat) : Int), .int .i64 0]) ∧ Below w.heap.size w w' := by
 obtain ⟨s, hs⟩ : ∃ s, b % 32 = s := ⟨_, rfl⟩
 have sl : s < 32 := by omega
 rw [hs]
 have f1 : (b : Int) % 32 = (s : Int) := by omega
 have f1' : (b : Int).tmod 32 = (s : Int) := by rw [Int.tmod_eq_emod_of_nonneg (by omega)]; exact f1
 have cp := fun w => rpow_any s w (by omega)
 have gp : (2 : Nat) ^ s ≤ 2147483648 := Nat.pow_le_pow_right (by decide) (show s ≤ 31 by omega)
 have g0 := Nat.two_pow_pos s
 obtain ⟨u, hu⟩ : ∃ u, 32 - s = u := ⟨_, rfl⟩
 have cr := fun w => rpow_any u w (by omega)
 have E := shl_parts a s sl
 have gu := Nat.two_pow_pos u
 rw [hu] at E
 have lm : a * 2 ^ s % 4294967296 < 4294967296 := Nat.mod_lt _ (by decide)
 generalize a * 2 ^ s % 4294967296 = m at *
 generalize (2 : Nat) ^ s = g at *
 generalize (2 : Nat) ^ u = v at *
 obtain ⟨r, hr⟩ : ∃ r, a % v = r := ⟨_, rfl⟩
 rw [hr] at E
 obtain ⟨f2, f2', f3, f3', z1, z2, z3, f4, f5, f6, f7⟩ := shl_fits a s u r m v g sl hu ha hr gu E lm
 have k1 : IntKind.i64.wrap (a : Int) = (a : Int) := iw64 (Nat.le_trans (Nat.le_of_lt ha) (by decide))
 have k2 : IntKind.i64.wrap (m : Int) = (m : Int) := iw64 (Nat.le_trans (Nat.le_of_lt lm) (by decide))
 clear E hr hs hu gp g0 gu
 have cw : ∀ w, Calls Tryz.prog 89 #[.int .i64 (m : Int)] w fun e w' => e = .returned (.int .u32 ((m : Nat) : Int)) ∧ w' = w := fun w => by
   have := rwrap_any (m : Int) w
   rw [show (m : Int) % 4294967296 = ((m : Nat) : Int) from f7] at this
   exact this
 clear f7 lm
 have HB : Below w.heap.size w w := Below.refl _ _
 go_enter Tryz.func79, Tryz.ntmps79
 go_wp2_with (first
   | (go_at_call 96; with_reducible refine (cp _).mono ?_; rintro e wq ⟨rfl, hq⟩; subst wq)
   | (go_at_call 96; with_reducible refine (cr _).mono ?_; rintro e wq ⟨rfl, hq⟩; subst wq)
   | (go_at_call 89; with_reducible refine (cw _).mono ?_; rintro e wq ⟨rfl, hq⟩; subst wq))
 go_region_held3 (fun _ => True) (trivial) (first
   | (go_at_call 96; with_reducible refine (cp _).mono ?_; rintro e wq ⟨rfl, hq⟩; subst wq)
   | (go_at_call 96; with_reducible refine (cr _).mono ?_; rintro e wq ⟨rfl, hq⟩; subst wq)
   | (go_at_call 89; with_reducible refine (cw _).mono ?_; rintro e wq ⟨rfl, hq⟩; subst wq))
 all_goals go_wp2
 all_goals simp [bodyPost, results, Tryz.results79]
 all_goals (repeat (first | exact HB | with_reducible refine Below.drew ?_))
set_option maxRecDepth 100000 in
set_option maxHeartbeats 4000000 in
theorem rb_shru (a b : Nat) (w : World) (ha : a < 4294967296) (hb : b < 4294967296) :
   Calls Tryz.prog 79 #[.int .u8 52, .int .u32 a, .int .u32 b] w fun e w' => e = .returned (.tuple #[.int .u32 ((a / 2 ^ (b % 32) : Nat) : Int), .int .i64 0]) ∧ Below w.heap.size w w' := by
 obtain ⟨s, hs⟩ : ∃ s, b % 32 = s := ⟨_, rfl⟩
 have sl : s < 32 := by omega
 rw [hs]
 have f1 : (b : Int) % 32 = (s : Int) := by omega
 have f1' : (b : Int).tmod 32 = (s : Int) := by rw [Int.tmod_eq_emod_of_nonneg (by omega)]; exact f1
 have cp := fun w => rpow_any s w (by omega)
 have gp : (2 : Nat) ^ s ≤ 2147483648 := Nat.pow_le_pow_right (by decide) (show s ≤ 31 by omega)
 have g0 := Nat.two_pow_pos s
 have lu := Nat.div_le_self a (2 ^ s)
 obtain ⟨u, hu⟩ : ∃ u, a / 2 ^ s = u := ⟨_, rfl⟩
 rw [hu] at lu ⊢
 have q1 : (a : Int) / ((2 ^ s : Nat) : Int) = (u : Int) := by rw [← hu]; rfl
 have q2 : (a : Int).tdiv ((2 ^ s : Nat) : Int) = (u : Int) := by rw [← hu]; rfl
 generalize (2 : Nat) ^ s = g at *
 have z1 : ¬ (g : Int) = 0 := by omega
 have z2 : ¬ g = 0 := by omega
 have f5 : wrap64 (u : Int) = (u : Int) := by unfold wrap64; omega
 have cw : ∀ w, Calls Tryz.prog 89 #[.int .i64 (u : Int)] w fun e w' => e = .returned (.int .u32 ((u : Nat) : Int)) ∧ w' = w := fun w => by
   have := rwrap_any (u : Int) w
   rw [show (u : Int) % 4294967296 = ((u : Nat) : Int) from by omega] at this
   exact this
 clear hu hs gp g0
 have HB : Below w.heap.size w w := Below.refl _ _
 go_enter Tryz.func79, Tryz.ntmps79
 go_wp2_with (first
   | (go_at_call 96; with_reducible refine (cp _).mono ?_; rintro e wq ⟨rfl, hq⟩; subst wq)
   | (go_at_call 89; with_reducible refine (cw _).mono ?_; rintro e wq ⟨rfl, hq⟩; subst wq))
 all_goals simp [bodyPost, results, Tryz.results79]
 all_goals (repeat (first | exact HB | with_reducible refine Below.drew ?_))
set_option maxRecDepth 100000 in
set_option maxHeartbeats 4000000 in
theorem rb_shri (a b : Nat) (w : World) (ha : a < 4294967296) (hb : b < 4294967296) :
   Calls Tryz.prog 79 #[.int .u8 51, .int .u32 a, .int .u32 b] w fun e w' => e = .returned (.tuple #[.int .u32 (((sx a / 2 ^ (b % 32) % 4294967296).toNat : Nat) : Int), .int .i64 0]) ∧ Below w.heap.size w w' := by
 obtain ⟨s, hs⟩ : ∃ s, b % 32 = s := ⟨_, rfl⟩
 have sl : s < 32 := by omega
 rw [hs]
 have f1 : (b : Int) % 32 = (s : Int) := by omega
 have f1' : (b : Int).tmod 32 = (s : Int) := by rw [Int.tmod_eq_emod_of_nonneg (by omega)]; exact f1
 have cp := fun w => rpow_any s w (by omega)
 have gp : (2 : Nat) ^ s ≤ 2147483648 := Nat.pow_le_pow_right (by decide) (show s ≤ 31 by omega)
 have g0 := Nat.two_pow_pos s
 have cs := fun w => rsig_any a w ha
 obtain ⟨r1, r2⟩ := sx_range ha
 have hg2 : ((2 : Int) ^ s) = ((2 ^ s : Nat) : Int) := by simp
 rw [hg2]
 generalize (2 : Nat) ^ s = g at *
 have cf := fun w => rfloor_any (sx a) g w r1 r2 (by omega)
 obtain ⟨q, hq⟩ : ∃ q, sx a / (g : Int) = q := ⟨_, rfl⟩
 rw [hq] at cf ⊢
 generalize sx a = x at *
 have cw : ∀ w, Calls Tryz.prog 89 #[.int .i64 q] w fun e w' => e = .returned (.int .u32 (((q % 4294967296).toNat : Nat) : Int)) ∧ w' = w := fun w => by
   have := rwrap_any q w
   rw [show q % 4294967296 = (((q % 4294967296).toNat : Nat) : Int) from anat_of.symm] at this
   exact this
 clear hq hs gp g0 hg2
 have HB : Below w.heap.size w w := Below.refl _ _
 go_enter Tryz.func79, Tryz.ntmps79
 go_wp2_with (first
   | (go_at_call 96; with_reducible refine (cp _).mono ?_; rintro e wq ⟨rfl, hq⟩; subst wq)
   | (go_at_call 80; with_reducible refine (cs _).mono ?_; rintro e wq ⟨rfl, hq⟩; subst wq)
   | (go_at_call 97; with_reducible refine (cf _).mono ?_; rintro e wq ⟨rfl, hq⟩; subst wq)
   | (go_at_call 89; with_reducible refine (cw _).mono ?_; rintro e wq ⟨rfl, hq⟩; subst wq))
 all_goals simp [bodyPost, results, Tryz.results79]
 all_goals (repeat (first | exact HB | with_reducible refine Below.drew ?_))
theorem rf_addf (a b : Nat) (w : World) (ha : a < 4294967296) (hb : b < 4294967296) :
   Calls Tryz.prog 98 #[.int .u8 54, .int .u32 a, .int .u32 b] w fun e w' => e = .returned (.tuple #[.int .u32 ((fsum a b : Nat) : Int), .int .i64 0]) ∧ Below w.heap.size w w' := by
 have cf := fun w => sums_any a b w ha hb
 generalize fsum a b = V at *
 have HB : Below w.heap.size w w := Below.refl _ _
 go_enter Tryz.func98, Tryz.ntmps98
 go_wp2_with (go_at_call 110; with_reducible refine (cf _).mono ?_; rintro e wq ⟨rfl, hq⟩; replace HB : Below w.heap.size w wq := btw hq HB)
 simp [bodyPost, results, Tryz.results98]
 exact HB
theorem rf_subf (a b : Nat) (w : World) (ha : a < 4294967296) (hb : b < 4294967296) :
   Calls Tryz.prog 98 #[.int .u8 55, .int .u32 a, .int .u32 b] w fun e w' => e = .returned (.tuple #[.int .u32 ((fsum a (tn b) : Nat) : Int), .int .i64 0]) ∧ Below w.heap.size w w' := by
 have cf := fun w => rests_any a b w ha hb
 generalize fsum a (tn b) = V at *
 have HB : Below w.heap.size w w := Below.refl _ _
 go_enter Tryz.func98, Tryz.ntmps98
 go_wp2_with (go_at_call 111; with_reducible refine (cf _).mono ?_; rintro e wq ⟨rfl, hq⟩; replace HB : Below w.heap.size w wq := btw hq HB)
 simp [bodyPost, results, Tryz.results98]
 exact HB
theorem rf_mulf (a b : Nat) (w : World) (ha : a < 4294967296) (hb : b < 4294967296) :
   Calls Tryz.prog 98 #[.int .u8 56, .int .u32 a, .int .u32 b] w fun e w' => e = .returned (.tuple #[.int .u32 ((fmul a b : Nat) : Int), .int .i64 0]) ∧ Below w.heap.size w w' := by
 have cf := fun w => products_any a b w ha hb
 generalize fmul a b = V at *
 have HB : Below w.heap.size w w := Below.refl _ _
 go_enter Tryz.func98, Tryz.ntmps98
 go_wp2_with (go_at_call 112; with_reducible refine (cf _).mono ?_; rintro e wq ⟨rfl, hq⟩; replace HB : Below w.heap.size w wq := btw hq HB)
 simp [bodyPost, results, Tryz.results98]
 exact HB
theorem rf_divf (a b : Nat) (w : World) (ha : a < 4294967296) (hb : b < 4294967296) :
   Calls Tryz.prog 98 #[.int .u8 57, .int .u32 a, .int .u32 b] w fun e w' => e = .returned (.tuple #[.int .u32 ((fdiv a b : Nat) : Int), .int .i64 0]) ∧ Below w.heap.size w w' := by
 have cf := fun w => ratios_any a b w ha hb
 generalize fdiv a b = V at *
 have HB : Below w.heap.size w w := Below.refl _ _
 go_enter Tryz.func98, Tryz.ntmps98
 go_wp2_with (go_at_call 113; with_reducible refine (cf _).mono ?_; rintro e wq ⟨rfl, hq⟩; replace HB : Below w.heap.size w wq := btw hq HB)
 simp [bodyPost, results, Tryz.results98]
 exact HB
theorem rf_none (op a b : Nat) (w : World) (h54 : ¬ (op : Int) = 54) (h55 : ¬ (op : Int) = 55) (h56 : ¬ (op : Int) = 56) (h57 : ¬ (op : Int) = 57) :
   Calls Tryz.prog 98 #[.int .u8 op, .int .u32 a, .int .u32 b] w fun e w' => e = .returned (.tuple #[.int .u32 0, .int .i64 61]) ∧ Below w.heap.size w w' := by
 have HB : Below w.heap.size w w := Below.refl _ _
 go_enter Tryz.func98, Tryz.ntmps98
 go_wp2
 simp [bodyPost, results, Tryz.results98]
 exact HB
set_option maxRecDepth 100000 in
theorem rb_float (op a b V : Nat) (E : Int) (w : World) (h39 : ¬ (op : Int) = 39) (h40 : ¬ (op : Int) = 40) (h41 : ¬ (op : Int) = 41) (h42 : ¬ (op : Int) = 42) (h43 : ¬ (op : Int) = 43) (h44 : ¬ (op : Int) = 44) (h45 : ¬ (op : Int) = 45) (h46 : ¬ (op : Int) = 46) (h47 : ¬ (op : Int) = 47) (h48 : ¬ (op : Int) = 48) (h50 : ¬ (op : Int) = 50) (h51 : ¬ (op : Int) = 51) (h52 : ¬ (op : Int) = 52)
   (cf : ∀ w, Calls Tryz.prog 98 #[.int .u8 op, .int .u32 a, .int .u32 b] w fun e w' => e = .returned (.tuple #[.int .u32 V, .int .i64 E]) ∧ Below w.heap.size w w') :
   Calls Tryz.prog 79 #[.int .u8 op, .int .u32 a, .int .u32 b] w fun e w' => e = .returned (.tuple #[.int .u32 V, .int .i64 E]) ∧ Below w.heap.size w w' := by
 have HB : Below w.heap.size w w := Below.refl _ _
 go_enter Tryz.func79, Tryz.ntmps79
 go_wp2_with (go_at_call 98; with_reducible refine (cf _).mono ?_; rintro e wq ⟨rfl, hq⟩; replace HB : Below w.heap.size w wq := btw hq HB)
 simp [bodyPost, results, Tryz.results79]
 exact HB
theorem rb_any (op a b : Nat) (w : World) (ha : a < 4294967296) (hb : b < 4294967296) :
   Calls Tryz.prog 79 #[.int .u8 op, .int .u32 a, .int .u32 b] w fun e w' => e = .returned (.tuple #[.int .u32 (binV op a b), .int .i64 (binE op b)]) ∧ Below w.heap.size w w' := by
 by_cases h39 : op = 39
 · subst h39
   rw [binV_39, binE_39]
   exact rb_add a b w ha hb
 by_cases h40 : op = 40
 · subst h40
   rw [binV_40, binE_40]
   exact rb_sub a b w ha hb
 by_cases h41 : op = 41
 · subst h41
   rw [binV_41, binE_41]
   exact rb_mul a b w ha hb
 by_cases hd : op = 42 ∨ op = 43 ∨ op = 44 ∨ op = 45
 · exact rb_div op a b w hd ha hb
 by_cases h46 : op = 46
 · subst h46
   rw [binV_46, binE_46]
   exact rb_and a b w ha hb
 by_cases h47 : op = 47
 · subst h47
   rw [binV_47, binE_47]
   exact rb_or a b w ha hb
 by_cases h48 : op = 48
 · subst h48
   rw [binV_48, binE_48]
   exact rb_xor a b w ha hb
 by_cases h50 : op = 50
 · subst h50
   rw [binV_50, binE_50]
   exact rb_shl a b w ha hb
 by_cases h51 : op = 51
 · subst h51
   rw [binV_51, binE_51]
   exact rb_shri a b w ha hb
 by_cases h52 : op = 52
 · subst h52
   rw [binV_52, binE_52]
   exact rb_shru a b w ha hb
 by_cases h54 : op = 54
 · subst h54
   rw [binV_54, binE_54]
   exact rb_float 54 a b _ _ w (by omega) (by omega) (by omega) (by omega) (by omega) (by omega) (by omega) (by omega) (by omega) (by omega) (by omega) (by omega) (by omega) (fun w => rf_addf a b w ha hb)
 by_cases h55 : op = 55
 · subst h55
   rw [binV_55, binE_55]
   exact rb_float 55 a b _ _ w (by omega) (by omega) (by omega) (by omega) (by omega) (by omega) (by omega) (by omega) (by omega) (by omega) (by omega) (by omega) (by omega) (fun w => rf_subf a b w ha hb)
 by_cases h56 : op = 56
 · subst h56
   rw [binV_56, binE_56]
   exact rb_float 56 a b _ _ w (by omega) (by omega) (by omega) (by omega) (by omega) (by omega) (by omega) (by omega) (by omega) (by omega) (by omega) (by omega) (by omega) (fun w => rf_mulf a b w ha hb)
 by_cases h57 : op = 57
 · subst h57
   rw [binV_57, binE_57]
   exact rb_float 57 a b _ _ w (by omega) (by omega) (by omega) (by omega) (by omega) (by omega) (by omega) (by omega) (by omega) (by omega) (by omega) (by omega) (by omega) (fun w => rf_divf a b w ha hb)
 have h0 : binV op a b = 0 := by unfold binV; rw [if_neg (by omega), if_neg (by omega), if_neg (by omega), if_neg (by omega), if_neg (by omega), if_neg (by omega), if_neg (by omega), if_neg (by omega), if_neg (by omega), if_neg (by omega), if_neg (by omega), if_neg (by omega), if_neg (by omega), if_neg (by omega), if_neg (by omega), if_neg (by omega), if_neg (by omega)]
 have h1 : binE op b = 61 := by unfold binE; rw [if_neg hd, if_neg (by omega)]
 rw [h0, h1]
 exact rb_float op a b _ _ w (by omega) (by omega) (by omega) (by omega) (by omega) (by omega) (by omega) (by omega) (by omega) (by omega) (by omega) (by omega) (by omega) (fun w => rf_none op a b w (by omega) (by omega) (by omega) (by omega))
end Go.Proofs.YtibhlcfligfhdaaGreat
namespace Go.Proofs.YtibhlcfligfhdaaGreat
open Go.RowKit
set_option maxRecDepth 100000
theorem btwU {a W w1 : World} (h : Below W.heap.size W w1) (h' : Below a.heap.size a W) : Below a.heap.size a w1 := h'.trans (h.mono h'.size)
theorem rturned_any (a : Nat) (w : World) (h : a < 4294967296) :
   Calls Tryz.prog 91 #[.int .u32 a] w fun e w' => e = .returned (.int .u32 (tn a)) ∧ w' = w := by
 unfold tn
 by_cases h' : a < 2147483648
 · rw [if_pos h', show ((a + 2147483648 : Nat) : Int) = (a : Int) + 2147483648 by omega]
   have g1 : decide ((2147483648 : Int) ≤ (a : Int)) = false := decide_eq_false (by omega)
   obtain ⟨x, hx⟩ : ∃ x : Int, x = (a : Int) := ⟨_, rfl⟩
   rw [← hx] at g1 ⊢
   have hw : IntKind.u32.wrap (x + 2147483648) = x + 2147483648 := by rw [IntKind.wrap_u32']; omega
   have x0 : 0 ≤ x := by omega
   have x1 : x ≤ 2147483647 := by omega
   clear hx h h'
   go_enter Tryz.func91, Tryz.ntmps91
   go_wp2
   go_ret
   exact ⟨rfl, rfl⟩
 · rw [if_neg h', show ((a - 2147483648 : Nat) : Int) = (a : Int) - 2147483648 by omega]
   have g1 : decide ((2147483648 : Int) ≤ (a : Int)) = true := decide_eq_true (by omega)
   obtain ⟨x, hx⟩ : ∃ x : Int, x = (a : Int) := ⟨_, rfl⟩
   rw [← hx] at g1 ⊢
   have hw : IntKind.u32.wrap (x - 2147483648) = x - 2147483648 := by rw [IntKind.wrap_u32']; omega
   have x0 : 0 ≤ x := by omega
   have x1 : x ≤ 4294967295 := by omega
   clear hx h h'
   go_enter Tryz.func91, Tryz.ntmps91
   go_wp2
   go_ret
   exact ⟨rfl, rfl⟩
theorem rlow8 (a : Nat) (z : Int) (w : World) (ha : a < 4294967296) (hz : z = if a % 256 < 128 then ((a % 256 : Nat) : Int) else ((a % 256 : Nat) : Int) - 256) :
   Calls Tryz.prog 90 #[.int .u32 a, .int .i64 8] w fun e w' => e = .returned (.int .i64 z) ∧ w' = w := by
 obtain ⟨x, hx⟩ : ∃ x : Int, x = (a : Int) := ⟨_, rfl⟩
 have x0 : 0 ≤ x := by omega
 have x1 : x ≤ 4294967295 := by omega
 obtain ⟨y, hy⟩ : ∃ y : Int, x % 256 = y := ⟨_, rfl⟩
 have y0 : 0 ≤ y := by omega
 have y1 : y ≤ 255 := by omega
 have hy' : x.tmod 256 = y := by rw [Int.tmod_eq_emod_of_nonneg x0, hy]
 have hw : wrap64 y = y := by unfold wrap64; omega
 rw [← hx]
 by_cases h' : a % 256 < 128
 · rw [if_pos h'] at hz
   obtain rfl : z = y := by omega
   have hd : ¬ (128 : Int) ≤ z := by omega
   have hd2 : z < 128 := by omega
   clear hx hz ha h'
   go_enter Tryz.func90, Tryz.ntmps90
   go_wp2
   go_ret
   exact ⟨rfl, rfl⟩
 · rw [if_neg h'] at hz
   have hz2 : y - 256 = z := by omega
   have hd : (128 : Int) ≤ y := by omega
   have hw2 : wrap64 (y - 256) = z := by unfold wrap64; omega
   clear hx hz ha h'
   go_enter Tryz.func90, Tryz.ntmps90
   go_wp2
   go_ret
   exact ⟨rfl, rfl⟩
theorem rlow16 (a : Nat) (z : Int) (w : World) (ha : a < 4294967296) (hz : z = if a % 65536 < 32768 then ((a % 65536 : Nat) : Int) else ((a % 65536 : Nat) : Int) - 65536) :
   Calls Tryz.prog 90 #[.int .u32 a, .int .i64 16] w fun e w' => e = .returned (.int .i64 z) ∧ w' = w := by
 obtain ⟨x, hx⟩ : ∃ x : Int, x = (a : Int) := ⟨_, rfl⟩
 have x0 : 0 ≤ x := by omega
 have x1 : x ≤ 4294967295 := by omega
 obtain ⟨y, hy⟩ : ∃ y : Int, x % 65536 = y := ⟨_, rfl⟩
 have y0 : 0 ≤ y := by omega
 have y1 : y ≤ 65535 := by omega
 have hy' : x.tmod 65536 = y := by rw [Int.tmod_eq_emod_of_nonneg x0, hy]
 have hw : wrap64 y = y := by unfold wrap64; omega
 rw [← hx]
 by_cases h' : a % 65536 < 32768
 · rw [if_pos h'] at hz
   obtain rfl : z = y := by omega
   have hd : ¬ (32768 : Int) ≤ z := by omega
   have hd2 : z < 32768 := by omega
   clear hx hz ha h'
   go_enter Tryz.func90, Tryz.ntmps90
   go_wp2
   go_ret
   exact ⟨rfl, rfl⟩
 · rw [if_neg h'] at hz
   have hz2 : y - 65536 = z := by omega
   have hd : (32768 : Int) ≤ y := by omega
   have hw2 : wrap64 (y - 65536) = z := by unfold wrap64; omega
   clear hx hz ha h'
   go_enter Tryz.func90, Tryz.ntmps90
   go_wp2
   go_ret
   exact ⟨rfl, rfl⟩
theorem ru_sex8 (a : Nat) (w : World) (ha : a < 4294967296) :
   Calls Tryz.prog 78 #[.int .u8 36, .int .u32 a] w fun e w' => e = .returned (.tuple #[.int .u32 ((sex8 a : Nat) : Int), .int .i64 0]) ∧ w' = w := by
 obtain ⟨z, hz⟩ : ∃ z : Int, z = if a % 256 < 128 then ((a % 256 : Nat) : Int) else ((a % 256 : Nat) : Int) - 256 := ⟨_, rfl⟩
 have cl : ∀ w, Calls Tryz.prog 90 #[.int .u32 a, .int .i64 8] w fun e w' => e = .returned (.int .i64 z) ∧ w' = w := fun w => rlow8 a z w ha hz
 have cw : ∀ w, Calls Tryz.prog 89 #[.int .i64 z] w fun e w' => e = .returned (.int .u32 ((sex8 a : Nat) : Int)) ∧ w' = w := fun w => by
   have := rwrap_any z w
   rw [show z % 4294967296 = ((sex8 a : Nat) : Int) from by rw [hz]; unfold sex8; split <;> omega] at this
   exact this
 clear hz
 go_enter Tryz.func78, Tryz.ntmps78
 go_wp2_with (first
   | (go_at_call 90; with_reducible refine (cl _).mono ?_; rintro e wq ⟨rfl, hq⟩; subst wq)
   | (go_at_call 89; with_reducible refine (cw _).mono ?_; rintro e wq ⟨rfl, hq⟩; subst wq))
 simp [bodyPost, results, Tryz.results78]
theorem ru_sex16 (a : Nat) (w : World) (ha : a < 4294967296) :
   Calls Tryz.prog 78 #[.int .u8 37, .int .u32 a] w fun e w' => e = .returned (.tuple #[.int .u32 ((sex16 a : Nat) : Int), .int .i64 0]) ∧ w' = w := by
 obtain ⟨z, hz⟩ : ∃ z : Int, z = if a % 65536 < 32768 then ((a % 65536 : Nat) : Int) else ((a % 65536 : Nat) : Int) - 65536 := ⟨_, rfl⟩
 have cl : ∀ w, Calls Tryz.prog 90 #[.int .u32 a, .int .i64 16] w fun e w' => e = .returned (.int .i64 z) ∧ w' = w := fun w => rlow16 a z w ha hz
 have cw : ∀ w, Calls Tryz.prog 89 #[.int .i64 z] w fun e w' => e = .returned (.int .u32 ((sex16 a : Nat) : Int)) ∧ w' = w := fun w => by
   have := rwrap_any z w
   rw [show z % 4294967296 = ((sex16 a : Nat) : Int) from by rw [hz]; unfold sex16; split <;> omega] at this
   exact this
 clear hz
 go_enter Tryz.func78, Tryz.ntmps78
 go_wp2_with (first
   | (go_at_call 90; with_reducible refine (cl _).mono ?_; rintro e wq ⟨rfl, hq⟩; subst wq)
   | (go_at_call 89; with_reducible refine (cw _).mono ?_; rintro e wq ⟨rfl, hq⟩; subst wq))
 simp [bodyPost, results, Tryz.results78]
theorem ru_neg (a : Nat) (w : World) (ha : a < 4294967296) :
   Calls Tryz.prog 78 #[.int .u8 38, .int .u32 a] w fun e w' => e = .returned (.tuple #[.int .u32 (((4294967296 - a) % 4294967296 : Nat) : Int), .int .i64 0]) ∧ w' = w := by
 have hw : wrap64 (-(a : Int)) = -(a : Int) := by unfold wrap64; omega
 have cw : ∀ w, Calls Tryz.prog 89 #[.int .i64 (-(a : Int))] w fun e w' => e = .returned (.int .u32 (((4294967296 - a) % 4294967296 : Nat) : Int)) ∧ w' = w := fun w => by
   have := rwrap_any (-(a : Int)) w
   rw [show (-(a : Int)) % 4294967296 = (((4294967296 - a) % 4294967296 : Nat) : Int) from by omega] at this
   exact this
 go_enter Tryz.func78, Tryz.ntmps78
 go_wp2_with (first
   | (go_at_call 89; with_reducible refine (cw _).mono ?_; rintro e wq ⟨rfl, hq⟩; subst wq))
 simp [bodyPost, results, Tryz.results78]
theorem ru_not (a : Nat) (w : World) (ha : a < 4294967296) :
   Calls Tryz.prog 78 #[.int .u8 49, .int .u32 a] w fun e w' => e = .returned (.tuple #[.int .u32 ((4294967295 - a : Nat) : Int), .int .i64 0]) ∧ w' = w := by
 have hw : wrap64 (-(a : Int)) = -(a : Int) := by unfold wrap64; omega
 have hw2 : wrap64 (-(a : Int) - 1) = -(a : Int) - 1 := by unfold wrap64; omega
 have cw : ∀ w, Calls Tryz.prog 89 #[.int .i64 (-(a : Int) - 1)] w fun e w' => e = .returned (.int .u32 ((4294967295 - a : Nat) : Int)) ∧ w' = w := fun w => by
   have := rwrap_any (-(a : Int) - 1) w
   rw [show (-(a : Int) - 1) % 4294967296 = ((4294967295 - a : Nat) : Int) from by omega] at this
   exact this
 go_enter Tryz.func78, Tryz.ntmps78
 go_wp2_with (first
   | (go_at_call 89; with_reducible refine (cw _).mono ?_; rintro e wq ⟨rfl, hq⟩; subst wq))
 simp [bodyPost, results, Tryz.results78]
theorem ru_negf (a : Nat) (w : World) (ha : a < 4294967296) :
   Calls Tryz.prog 78 #[.int .u8 53, .int .u32 a] w fun e w' => e = .returned (.tuple #[.int .u32 ((tn a : Nat) : Int), .int .i64 0]) ∧ w' = w := by
 go_enter Tryz.func78, Tryz.ntmps78
 go_wp2_with (first
   | (go_at_call 91; with_reducible refine (rturned_any a _ ha).mono ?_; rintro e wq ⟨rfl, hq⟩; subst wq))
 simp [bodyPost, results, Tryz.results78]
theorem ru_cvif (a : Nat) (w : World) (ha : a < 4294967296) :
   Calls Tryz.prog 78 #[.int .u8 58, .int .u32 a] w fun e w' => e = .returned (.tuple #[.int .u32 ((fof (sx a) : Nat) : Int), .int .i64 0]) ∧ Below w.heap.size w w' := by
 have HB : Below w.heap.size w w := Below.refl _ _
 obtain ⟨s1, s2⟩ := sx_range ha
 have cs := fun w => rsig_any a w ha
 obtain ⟨s, hs⟩ : ∃ s, sx a = s := ⟨_, rfl⟩
 rw [hs] at s1 s2 cs ⊢
 have hw : wrap32 s = s := by unfold wrap32; omega
 have co := fun w => ofs_any s w s1 s2
 clear hs
 go_enter Tryz.func78, Tryz.ntmps78
 go_wp2_with (first
   | (go_at_call 80; with_reducible refine (cs _).mono ?_; rintro e wq ⟨rfl, hq⟩; subst wq)
   | (go_at_call 92; with_reducible refine (co _).mono ?_; rintro e wq ⟨rfl, hq⟩; replace HB : Below w.heap.size w wq := btwU hq HB))
 simp [bodyPost, results, Tryz.results78]
 exact HB
theorem twV_range (a : Nat) : -2147483648 ≤ twV a ∧ twV a ≤ 2147483647 := by
 unfold twV
 have := tT_lt a
 split
 · omega
 · split
   · split <;> omega
   · split <;> omega
theorem ru_cvfi (a : Nat) (w : World) (ha : a < 4294967296) :
   Calls Tryz.prog 78 #[.int .u8 59, .int .u32 a] w fun e w' => e = .returned (.tuple #[.int .u32 (((twV a % 4294967296).toNat : Nat) : Int), .int .i64 0]) ∧ Below w.heap.size w w' := by
 have HB : Below w.heap.size w w := Below.refl _ _
 have ct := fun w => rtoward_any a w ha
 have rg := twV_range a
 obtain ⟨s, hs⟩ : ∃ s, twV a = s := ⟨_, rfl⟩
 rw [hs] at ct rg ⊢
 have hw : wrap64 s = s := by unfold wrap64; omega
 have cw : ∀ w, Calls Tryz.prog 89 #[.int .i64 s] w fun e w' => e = .returned (.int .u32 (((s % 4294967296).toNat : Nat) : Int)) ∧ w' = w := fun w => by
   have := rwrap_any s w
   rw [show s % 4294967296 = (((s % 4294967296).toNat : Nat) : Int) from anat_of.symm] at this
   exact this
 clear hs rg
 go_enter Tryz.func78, Tryz.ntmps78
 go_wp2_with (first
   | (go_at_call 93; with_reducible refine (ct _).mono ?_; rintro e wq ⟨rfl, hq⟩; replace HB : Below w.heap.size w wq := btwU hq HB)
   | (go_at_call 89; with_reducible refine (cw _).mono ?_; rintro e wq ⟨rfl, hq⟩; subst wq))
 simp [bodyPost, results, Tryz.results78]
 exact HB
theorem ru_none (op a : Nat) (w : World) (h36 : ¬ (op : Int) = 36) (h37 : ¬ (op : Int) = 37) (h38 : ¬ (op : Int) = 38) (h49 : ¬ (op : Int) = 49) (h53 : ¬ (op : Int) = 53) (h58 : ¬ (op : Int) = 58) (h59 : ¬ (op : Int) = 59) :
   Calls Tryz.prog 78 #[.int .u8 op, .int .u32 a] w fun e w' => e = .returned (.tuple #[.int .u32 0, .int .i64 61]) ∧ w' = w := by
 go_enter Tryz.func78, Tryz.ntmps78
 go_wp2
 simp [bodyPost, results, Tryz.results78]
theorem ru_any (op a : Nat) (w : World) (ha : a < 4294967296) :
   Calls Tryz.prog 78 #[.int .u8 op, .int .u32 a] w fun e w' => e = .returned (.tuple #[.int .u32 (unV op a), .int .i64 (unE op)]) ∧ Below w.heap.size w w' := by
 by_cases h36 : op = 36
 · subst h36
   rw [unV_36, show unE 36 = 0 from rfl]
   exact (ru_sex8 a w ha).mono fun e w' ⟨h1, h2⟩ => ⟨h1, h2 ▸ Below.refl _ _⟩
 by_cases h37 : op = 37
 · subst h37
   rw [unV_37, show unE 37 = 0 from rfl]
   exact (ru_sex16 a w ha).mono fun e w' ⟨h1, h2⟩ => ⟨h1, h2 ▸ Below.refl _ _⟩
 by_cases h38 : op = 38
 · subst h38
   rw [unV_38, show unE 38 = 0 from rfl]
   exact (ru_neg a w ha).mono fun e w' ⟨h1, h2⟩ => ⟨h1, h2 ▸ Below.refl _ _⟩
 by_cases h49 : op = 49
 · subst h49
   rw [unV_49, show unE 49 = 0 from rfl]
   exact (ru_not a w ha).mono fun e w' ⟨h1, h2⟩ => ⟨h1, h2 ▸ Below.refl _ _⟩
 by_cases h53 : op = 53
 · subst h53
   rw [unV_53, show unE 53 = 0 from rfl]
   exact (ru_negf a w ha).mono fun e w' ⟨h1, h2⟩ => ⟨h1, h2 ▸ Below.refl _ _⟩
 by_cases h58 : op = 58
 · subst h58
   rw [unV_58, show unE 58 = 0 from rfl]
   exact ru_cvif a w ha
 by_cases h59 : op = 59
 · subst h59
   rw [unV_59, show unE 59 = 0 from rfl]
   exact ru_cvfi a w ha
 have h0 : unV op a = 0 := by unfold unV; simp only [if_neg h36, if_neg h37, if_neg h38, if_neg h49, if_neg h53, if_neg h58, if_neg h59]
 have h1 : unE op = 61 := by unfold unE; rw [if_neg (by omega)]
 rw [h0, h1]
 exact (ru_none op a w (by omega) (by omega) (by omega) (by omega) (by omega) (by omega) (by omega)).mono fun e w' ⟨h1, h2⟩ => ⟨h1, h2 ▸ Below.refl _ _⟩
end Go.Proofs.YtibhlcfligfhdaaGreat
namespace Go.Proofs.YtibhlcfligfhdaaGreat
open Go.RowKit
set_option maxRecDepth 100000
set_option maxRecDepth 100000 in
set_option maxHeartbeats 40000000 in
theorem stCA :
   (∀ (sa : Int) (ma : Bool) (na pa : Int) (sb : Int) (mb : Bool) (nb pb : Int) (X Y : Int) (w : World), ((sa == 1) = false) → ((sb == 1) = false) → (∀ w, Calls Tryz.prog 114 #[.agg #[.int .u8 sa, .bool ma, .int .u64 na, .int .i64 pa]] w fun e w' => e = .returned (.bool true) ∧ Below w.heap.size w w') → (∀ w, Calls Tryz.prog 114 #[.agg #[.int .u8 sb, .bool mb, .int .u64 nb, .int .i64 pb]] w fun e w' => e = .returned (.bool true) ∧ Below w.heap.size w w') → (∀ w, Calls Tryz.prog 115 #[.agg #[.int .u8 sa, .bool ma, .int .u64 na, .int .i64 pa]] w fun e w' => e = .returned (.int .i64 X) ∧ Below w.heap.size w w') → (∀ w, Calls Tryz.prog 115 #[.agg #[.int .u8 sb, .bool mb, .int .u64 nb, .int .i64 pb]] w fun e w' => e = .returned (.int .i64 Y) ∧ Below w.heap.size w w') → Calls Tryz.prog 99 #[.agg #[.int .u8 sa, .bool ma, .int .u64 na, .int .i64 pa], .agg #[.int .u8 sb, .bool mb, .int .u64 nb, .int .i64 pb]] w fun e w' => e = .returned (.int .u8 3) ∧ Below w.heap.size w w') ∧
   (∀ (sa : Int) (ma : Bool) (na pa : Int) (sb : Int) (mb : Bool) (nb pb : Int) (X Y : Int) (z2 : Bool) (w : World), ((sa == 1) = false) → ((sb == 1) = false) → (∀ w, Calls Tryz.prog 114 #[.agg #[.int .u8 sa, .bool ma, .int .u64 na, .int .i64 pa]] w fun e w' => e = .returned (.bool false) ∧ Below w.heap.size w w') → (∀ w, Calls Tryz.prog 114 #[.agg #[.int .u8 sb, .bool mb, .int .u64 nb, .int .i64 pb]] w fun e w' => e = .returned (.bool z2) ∧ Below w.heap.size w w') → (∀ w, Calls Tryz.prog 115 #[.agg #[.int .u8 sa, .bool ma, .int .u64 na, .int .i64 pa]] w fun e w' => e = .returned (.int .i64 X) ∧ Below w.heap.size w w') → (∀ w, Calls Tryz.prog 115 #[.agg #[.int .u8 sb, .bool mb, .int .u64 nb, .int .i64 pb]] w fun e w' => e = .returned (.int .i64 Y) ∧ Below w.heap.size w w') → (X < Y) → Calls Tryz.prog 99 #[.agg #[.int .u8 sa, .bool ma, .int .u64 na, .int .i64 pa], .agg #[.int .u8 sb, .bool mb, .int .u64 nb, .int .i64 pb]] w fun e w' => e = .returned (.int .u8 2) ∧ Below w.heap.size w w') ∧
   (∀ (sa : Int) (ma : Bool) (na pa : Int) (sb : Int) (mb : Bool) (nb pb : Int) (X Y : Int) (z2 : Bool) (w : World), ((sa == 1) = false) → ((sb == 1) = false) → (∀ w, Calls Tryz.prog 114 #[.agg #[.int .u8 sa, .bool ma, .int .u64 na, .int .i64 pa]] w fun e w' => e = .returned (.bool false) ∧ Below w.heap.size w w') → (∀ w, Calls Tryz.prog 114 #[.agg #[.int .u8 sb, .bool mb, .int .u64 nb, .int .i64 pb]] w fun e w' => e = .returned (.bool z2) ∧ Below w.heap.size w w') → (∀ w, Calls Tryz.prog 115 #[.agg #[.int .u8 sa, .bool ma, .int .u64 na, .int .i64 pa]] w fun e w' => e = .returned (.int .i64 X) ∧ Below w.heap.size w w') → (∀ w, Calls Tryz.prog 115 #[.agg #[.int .u8 sb, .bool mb, .int .u64 nb, .int .i64 pb]] w fun e w' => e = .returned (.int .i64 Y) ∧ Below w.heap.size w w') → (Y < X) → Calls Tryz.prog 99 #[.agg #[.int .u8 sa, .bool ma, .int .u64 na, .int .i64 pa], .agg #[.int .u8 sb, .bool mb, .int .u64 nb, .int .i64 pb]] w fun e w' => e = .returned (.int .u8 4) ∧ Below w.heap.size w w') ∧
   (∀ (sa : Int) (ma : Bool) (na pa : Int) (sb : Int) (mb : Bool) (nb pb : Int) (X Y : Int) (w : World), ((sa == 1) = false) → ((sb == 1) = false) → (∀ w, Calls Tryz.prog 114 #[.agg #[.int .u8 sa, .bool ma, .int .u64 na, .int .i64 pa]] w fun e w' => e = .returned (.bool true) ∧ Below w.heap.size w w') → (∀ w, Calls Tryz.prog 114 #[.agg #[.int .u8 sb, .bool mb, .int .u64 nb, .int .i64 pb]] w fun e w' => e = .returned (.bool false) ∧ Below w.heap.size w w') → (∀ w, Calls Tryz.prog 115 #[.agg #[.int .u8 sa, .bool ma, .int .u64 na, .int .i64 pa]] w fun e w' => e = .returned (.int .i64 X) ∧ Below w.heap.size w w') → (∀ w, Calls Tryz.prog 115 #[.agg #[.int .u8 sb, .bool mb, .int .u64 nb, .int .i64 pb]] w fun e w' => e = .returned (.int .i64 Y) ∧ Below w.heap.size w w') → (X < Y) → Calls Tryz.prog 99 #[.agg #[.int .u8 sa, .bool ma, .int .u64 na, .int .i64 pa], .agg #[.int .u8 sb, .bool mb, .int .u64 nb, .int .i64 pb]] w fun e w' => e = .returned (.int .u8 2) ∧ Below w.heap.size w w') ∧
   (∀ (sa : Int) (ma : Bool) (na pa : Int) (sb : Int) (mb : Bool) (nb pb : Int) (X Y : Int) (w : World), ((sa == 1) = false) → ((sb == 1) = false) → (∀ w, Calls Tryz.prog 114 #[.agg #[.int .u8 sa, .bool ma, .int .u64 na, .int .i64 pa]] w fun e w' => e = .returned (.bool true) ∧ Below w.heap.size w w') → (∀ w, Calls Tryz.prog 114 #[.agg #[.int .u8 sb, .bool mb, .int .u64 nb, .int .i64 pb]] w fun e w' => e = .returned (.bool false) ∧ Below w.heap.size w w') → (∀ w, Calls Tryz.prog 115 #[.agg #[.int .u8 sa, .bool ma, .int .u64 na, .int .i64 pa]] w fun e w' => e = .returned (.int .i64 X) ∧ Below w.heap.size w w') → (∀ w, Calls Tryz.prog 115 #[.agg #[.int .u8 sb, .bool mb, .int .u64 nb, .int .i64 pb]] w fun e w' => e = .returned (.int .i64 Y) ∧ Below w.heap.size w w') → (Y < X) → Calls Tryz.prog 99 #[.agg #[.int .u8 sa, .bool ma, .int .u64 na, .int .i64 pa], .agg #[.int .u8 sb, .bool mb, .int .u64 nb, .int .i64 pb]] w fun e w' => e = .returned (.int .u8 4) ∧ Below w.heap.size w w') := by
 refine ⟨?_, ?_, ?_, ?_, ?_⟩
 intro sa ma na pa sb mb nb pb X Y w ha hb hi1 hi2 hs1 hs2
 rotate_left
 intro sa ma na pa sb mb nb pb X Y z2 w ha hb hi1 hi2 hs1 hs2 h
 rotate_left
 intro sa ma na pa sb mb nb pb X Y z2 w ha hb hi1 hi2 hs1 hs2 h
 rotate_left
 intro sa ma na pa sb mb nb pb X Y w ha hb hi1 hi2 hs1 hs2 h
 rotate_left
 intro sa ma na pa sb mb nb pb X Y w ha hb hi1 hi2 hs1 hs2 h
 rotate_left
 all_goals (have HI1 : Hid _ := hi1)
 all_goals (have HI2 : Hid _ := hi2)
 all_goals (have HS1 : Hid _ := hs1)
 all_goals (have HS2 : Hid _ := hs2)
 all_goals (have HBK : Hid _ := hs2)
 all_goals (clear hi1 hi2 hs1 hs2 )
 rotate_left
 have hne : (X != Y) = true := by simp; omega
 rotate_left
 have hne : (X != Y) = true := by simp; omega
 have hlt : decide (X < Y) = false := decide_eq_false (by omega)
 rotate_left
 have hne : (X != Y) = true := by simp; omega
 rotate_left
 have hne : (X != Y) = true := by simp; omega
 have hlt : decide (X < Y) = false := decide_eq_false (by omega)
 rotate_left
 all_goals (have HB : Below ((w.alloc (oV sa ma na pa)).alloc (oV sb mb nb pb)).heap.size ((w.alloc (oV sa ma na pa)).alloc (oV sb mb nb pb)) ((w.alloc (oV sa ma na pa)).alloc (oV sb mb nb pb)) := Below.refl _ _)
 all_goals (have HW : Hid (Below w.heap.size w ((w.alloc (oV sa ma na pa)).alloc (oV sb mb nb pb))) := bel (bel (Below.refl _ _)))
 all_goals (go_enter Tryz.func99, Tryz.ntmps99)
 all_goals (
   go_wp2_with (first
     | (go_at_call 114; with_reducible refine (HI1.out _).mono ?_; rintro e w1 ⟨rfl, hb1⟩; replace HB := bt2 hb1 (show Below ((w.alloc (oV sa ma na pa)).alloc (oV sb mb nb pb)).heap.size ((w.alloc (oV sa ma na pa)).alloc (oV sb mb nb pb)) _ from by (repeat (first | exact HB | exact Below.refl _ _ | with_reducible first | refine bel ?_ | refine Below.drew ?_ | refine bt3 ?_))); obtain ⟨c0, c1, c2, c3, c4, c5, c6, c7⟩ := gF HB)
     | (go_at_call 114; with_reducible refine (HI2.out _).mono ?_; rintro e w1 ⟨rfl, hb1⟩; replace HB := bt2 hb1 (show Below ((w.alloc (oV sa ma na pa)).alloc (oV sb mb nb pb)).heap.size ((w.alloc (oV sa ma na pa)).alloc (oV sb mb nb pb)) _ from by (repeat (first | exact HB | exact Below.refl _ _ | with_reducible first | refine bel ?_ | refine Below.drew ?_ | refine bt3 ?_))); obtain ⟨c0, c1, c2, c3, c4, c5, c6, c7⟩ := gF HB)
     | (go_at_call 115; with_reducible refine (HS1.out _).mono ?_; rintro e w1 ⟨rfl, hb1⟩; replace HB := bt2 hb1 (show Below ((w.alloc (oV sa ma na pa)).alloc (oV sb mb nb pb)).heap.size ((w.alloc (oV sa ma na pa)).alloc (oV sb mb nb pb)) _ from by (repeat (first | exact HB | exact Below.refl _ _ | with_reducible first | refine bel ?_ | refine Below.drew ?_ | refine bt3 ?_))); obtain ⟨c0, c1, c2, c3, c4, c5, c6, c7⟩ := gF HB)
     | (go_at_call 115; with_reducible refine (HS2.out _).mono ?_; rintro e w1 ⟨rfl, hb1⟩; replace HB := bt2 hb1 (show Below ((w.alloc (oV sa ma na pa)).alloc (oV sb mb nb pb)).heap.size ((w.alloc (oV sa ma na pa)).alloc (oV sb mb nb pb)) _ from by (repeat (first | exact HB | exact Below.refl _ _ | with_reducible first | refine bel ?_ | refine Below.drew ?_ | refine bt3 ?_))); obtain ⟨c0, c1, c2, c3, c4, c5, c6, c7⟩ := gF HB)
     | (go_at_call 116; with_reducible refine (HBK.out _).mono ?_; rintro e w1 ⟨rfl, hb1⟩; replace HB := bt2 hb1 (show Below ((w.alloc (oV sa ma na pa)).alloc (oV sb mb nb pb)).heap.size ((w.alloc (oV sa ma na pa)).alloc (oV sb mb nb pb)) _ from by (repeat (first | exact HB | exact Below.refl _ _ | with_reducible first | refine bel ?_ | refine Below.drew ?_ | refine bt3 ?_))); obtain ⟨c0, c1, c2, c3, c4, c5, c6, c7⟩ := gF HB)))
 all_goals (go_ret)
 all_goals (exact ⟨rfl, HW.out.trans (HB.mono HW.out.size)⟩)
abbrev stZ := stCA.1
abbrev stLa := stCA.2.1
abbrev stGa := stCA.2.2.1
abbrev stLb := stCA.2.2.2.1
abbrev stGb := stCA.2.2.2.2
end Go.Proofs.YtibhlcfligfhdaaGreat
