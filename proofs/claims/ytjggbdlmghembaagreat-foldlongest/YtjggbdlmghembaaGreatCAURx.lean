import Derived.Test.YtjggbdlmghembaaGreatCDRn
import Derived.Test.YtjggbdlmghembaaGreatCSInC
import Derived.Test.YtjggbdlmghembaaGreatCSStA
namespace Go.Proofs.YtjggbdlmghembaaGreat
open Go.RowKit
set_option maxRecDepth 100000
theorem btwU {a W w1 : World} (h : Below W.heap.size W w1) (h' : Below a.heap.size a W) : Below a.heap.size a w1 := h'.trans (h.mono h'.size)
theorem rturned_any (a : Nat) (w : World) (h : a < 4294967296) :
    Calls Tryz.prog 47 #[.int .u32 a] w fun e w' => e = .returned (.int .u32 (tn a)) ∧ w' = w := by
  unfold tn
  by_cases h' : a < 2147483648
  · rw [if_pos h', show ((a + 2147483648 : Nat) : Int) = (a : Int) + 2147483648 by omega]
    have g1 : decide ((2147483648 : Int) ≤ (a : Int)) = false := decide_eq_false (by omega)
    obtain ⟨x, hx⟩ : ∃ x : Int, x = (a : Int) := ⟨_, rfl⟩
    rw [← hx] at g1 ⊢
    have hw : IntKind.u32.wrap (x + 2147483648) = x + 2147483648 := by rw [IntKind.wrap_u32']; omega
    have x0 : 0 ≤ x := by omega
    have x1 : x ≤ 2147483647 := by omega
    clear hx h h'
    go_enter Tryz.func47, Tryz.ntmps47
    go_wp2
    go_ret
    exact ⟨rfl, rfl⟩
  · rw [if_neg h', show ((a - 2147483648 : Nat) : Int) = (a : Int) - 2147483648 by omega]
    have g1 : decide ((2147483648 : Int) ≤ (a : Int)) = true := decide_eq_true (by omega)
    obtain ⟨x, hx⟩ : ∃ x : Int, x = (a : Int) := ⟨_, rfl⟩
    rw [← hx] at g1 ⊢
    have hw : IntKind.u32.wrap (x - 2147483648) = x - 2147483648 := by rw [IntKind.wrap_u32']; omega
    have x0 : 0 ≤ x := by omega
    have x1 : x ≤ 4294967295 := by omega
    clear hx h h'
    go_enter Tryz.func47, Tryz.ntmps47
    go_wp2
    go_ret
    exact ⟨rfl, rfl⟩
theorem rlow8 (a : Nat) (z : Int) (w : World) (ha : a < 4294967296) (hz : z = if a % 256 < 128 then ((a % 256 : Nat) : Int) else ((a % 256 : Nat) : Int) - 256) :
    Calls Tryz.prog 46 #[.int .u32 a, .int .i64 8] w fun e w' => e = .returned (.int .i64 z) ∧ w' = w := by
  obtain ⟨x, hx⟩ : ∃ x : Int, x = (a : Int) := ⟨_, rfl⟩
  have x0 : 0 ≤ x := by omega
  have x1 : x ≤ 4294967295 := by omega
  obtain ⟨y, hy⟩ : ∃ y : Int, x % 256 = y := ⟨_, rfl⟩
  have y0 : 0 ≤ y := by omega
  have y1 : y ≤ 255 := by omega
  have hy' : x.tmod 256 = y := by rw [Int.tmod_eq_emod_of_nonneg x0, hy]
  have hw : wrap64 y = y := by unfold wrap64; omega
  rw [← hx]
  by_cases h' : a % 256 < 128
  · rw [if_pos h'] at hz
    obtain rfl : z = y := by omega
    have hd : ¬ (128 : Int) ≤ z := by omega
    have hd2 : z < 128 := by omega
    clear hx hz ha h'
    go_enter Tryz.func46, Tryz.ntmps46
    go_wp2
    go_ret
    exact ⟨rfl, rfl⟩
  · rw [if_neg h'] at hz
    have hz2 : y - 256 = z := by omega
    have hd : (128 : Int) ≤ y := by omega
    have hw2 : wrap64 (y - 256) = z := by unfold wrap64; omega
    clear hx hz ha h'
    go_enter Tryz.func46, Tryz.ntmps46
    go_wp2
    go_ret
    exact ⟨rfl, rfl⟩
theorem rlow16 (a : Nat) (z : Int) (w : World) (ha : a < 4294967296) (hz : z = if a % 65536 < 32768 then ((a % 65536 : Nat) : Int) else ((a % 65536 : Nat) : Int) - 65536) :
    Calls Tryz.prog 46 #[.int .u32 a, .int .i64 16] w fun e w' => e = .returned (.int .i64 z) ∧ w' = w := by
  obtain ⟨x, hx⟩ : ∃ x : Int, x = (a : Int) := ⟨_, rfl⟩
  have x0 : 0 ≤ x := by omega
  have x1 : x ≤ 4294967295 := by omega
  obtain ⟨y, hy⟩ : ∃ y : Int, x % 65536 = y := ⟨_, rfl⟩
  have y0 : 0 ≤ y := by omega
  have y1 : y ≤ 65535 := by omega
  have hy' : x.tmod 65536 = y := by rw [Int.tmod_eq_emod_of_nonneg x0, hy]
  have hw : wrap64 y = y := by unfold wrap64; omega
  rw [← hx]
  by_cases h' : a % 65536 < 32768
  · rw [if_pos h'] at hz
    obtain rfl : z = y := by omega
    have hd : ¬ (32768 : Int) ≤ z := by omega
    have hd2 : z < 32768 := by omega
    clear hx hz ha h'
    go_enter Tryz.func46, Tryz.ntmps46
    go_wp2
    go_ret
    exact ⟨rfl, rfl⟩
  · rw [if_neg h'] at hz
    have hz2 : y - 65536 = z := by omega
    have hd : (32768 : Int) ≤ y := by omega
    have hw2 : wrap64 (y - 65536) = z := by unfold wrap64; omega
    clear hx hz ha h'
    go_enter Tryz.func46, Tryz.ntmps46
    go_wp2
    go_ret
    exact ⟨rfl, rfl⟩
theorem ru_sex8 (a : Nat) (w : World) (ha : a < 4294967296) :
    Calls Tryz.prog 36 #[.int .u8 36, .int .u32 a] w fun e w' => e = .returned (.tuple #[.int .u32 ((sex8 a : Nat) : Int), .int .i64 0]) ∧ w' = w := by
  obtain ⟨z, hz⟩ : ∃ z : Int, z = if a % 256 < 128 then ((a % 256 : Nat) : Int) else ((a % 256 : Nat) : Int) - 256 := ⟨_, rfl⟩
  have cl : ∀ w, Calls Tryz.prog 46 #[.int .u32 a, .int .i64 8] w fun e w' => e = .returned (.int .i64 z) ∧ w' = w := fun w => rlow8 a z w ha hz
  have cw : ∀ w, Calls Tryz.prog 45 #[.int .i64 z] w fun e w' => e = .returned (.int .u32 ((sex8 a : Nat) : Int)) ∧ w' = w := fun w => by
    have := rwrap_any z w
    rw [show z % 4294967296 = ((sex8 a : Nat) : Int) from by rw [hz]; unfold sex8; split <;> omega] at this
    exact this
  clear hz
  go_enter Tryz.func36, Tryz.ntmps36
  go_wp2_with (first
    | (go_at_call 46; with_reducible refine (cl _).mono ?_; rintro e wq ⟨rfl, hq⟩; subst wq)
    | (go_at_call 45; with_reducible refine (cw _).mono ?_; rintro e wq ⟨rfl, hq⟩; subst wq))
  simp [bodyPost, results, Tryz.results36]
theorem ru_sex16 (a : Nat) (w : World) (ha : a < 4294967296) :
    Calls Tryz.prog 36 #[.int .u8 37, .int .u32 a] w fun e w' => e = .returned (.tuple #[.int .u32 ((sex16 a : Nat) : Int), .int .i64 0]) ∧ w' = w := by
  obtain ⟨z, hz⟩ : ∃ z : Int, z = if a % 65536 < 32768 then ((a % 65536 : Nat) : Int) else ((a % 65536 : Nat) : Int) - 65536 := ⟨_, rfl⟩
  have cl : ∀ w, Calls Tryz.prog 46 #[.int .u32 a, .int .i64 16] w fun e w' => e = .returned (.int .i64 z) ∧ w' = w := fun w => rlow16 a z w ha hz
  have cw : ∀ w, Calls Tryz.prog 45 #[.int .i64 z] w fun e w' => e = .returned (.int .u32 ((sex16 a : Nat) : Int)) ∧ w' = w := fun w => by
    have := rwrap_any z w
    rw [show z % 4294967296 = ((sex16 a : Nat) : Int) from by rw [hz]; unfold sex16; split <;> omega] at this
    exact this
  clear hz
  go_enter Tryz.func36, Tryz.ntmps36
  go_wp2_with (first
    | (go_at_call 46; with_reducible refine (cl _).mono ?_; rintro e wq ⟨rfl, hq⟩; subst wq)
    | (go_at_call 45; with_reducible refine (cw _).mono ?_; rintro e wq ⟨rfl, hq⟩; subst wq))
  simp [bodyPost, results, Tryz.results36]
theorem ru_neg (a : Nat) (w : World) (ha : a < 4294967296) :
    Calls Tryz.prog 36 #[.int .u8 38, .int .u32 a] w fun e w' => e = .returned (.tuple #[.int .u32 (((4294967296 - a) % 4294967296 : Nat) : Int), .int .i64 0]) ∧ w' = w := by
  have hw : wrap64 (-(a : Int)) = -(a : Int) := by unfold wrap64; omega
  have cw : ∀ w, Calls Tryz.prog 45 #[.int .i64 (-(a : Int))] w fun e w' => e = .returned (.int .u32 (((4294967296 - a) % 4294967296 : Nat) : Int)) ∧ w' = w := fun w => by
    have := rwrap_any (-(a : Int)) w
    rw [show (-(a : Int)) % 4294967296 = (((4294967296 - a) % 4294967296 : Nat) : Int) from by omega] at this
    exact this
  go_enter Tryz.func36, Tryz.ntmps36
  go_wp2_with (first
    | (go_at_call 45; with_reducible refine (cw _).mono ?_; rintro e wq ⟨rfl, hq⟩; subst wq))
  simp [bodyPost, results, Tryz.results36]
theorem ru_not (a : Nat) (w : World) (ha : a < 4294967296) :
    Calls Tryz.prog 36 #[.int .u8 49, .int .u32 a] w fun e w' => e = .returned (.tuple #[.int .u32 ((4294967295 - a : Nat) : Int), .int .i64 0]) ∧ w' = w := by
  have hw : wrap64 (-(a : Int)) = -(a : Int) := by unfold wrap64; omega
  have hw2 : wrap64 (-(a : Int) - 1) = -(a : Int) - 1 := by unfold wrap64; omega
  have cw : ∀ w, Calls Tryz.prog 45 #[.int .i64 (-(a : Int) - 1)] w fun e w' => e = .returned (.int .u32 ((4294967295 - a : Nat) : Int)) ∧ w' = w := fun w => by
    have := rwrap_any (-(a : Int) - 1) w
    rw [show (-(a : Int) - 1) % 4294967296 = ((4294967295 - a : Nat) : Int) from by omega] at this
    exact this
  go_enter Tryz.func36, Tryz.ntmps36
  go_wp2_with (first
    | (go_at_call 45; with_reducible refine (cw _).mono ?_; rintro e wq ⟨rfl, hq⟩; subst wq))
  simp [bodyPost, results, Tryz.results36]
theorem ru_negf (a : Nat) (w : World) (ha : a < 4294967296) :
    Calls Tryz.prog 36 #[.int .u8 53, .int .u32 a] w fun e w' => e = .returned (.tuple #[.int .u32 ((tn a : Nat) : Int), .int .i64 0]) ∧ w' = w := by
  go_enter Tryz.func36, Tryz.ntmps36
  go_wp2_with (first
    | (go_at_call 47; with_reducible refine (rturned_any a _ ha).mono ?_; rintro e wq ⟨rfl, hq⟩; subst wq))
  simp [bodyPost, results, Tryz.results36]
theorem ru_cvif (a : Nat) (w : World) (ha : a < 4294967296) :
    Calls Tryz.prog 36 #[.int .u8 58, .int .u32 a] w fun e w' => e = .returned (.tuple #[.int .u32 ((fof (sx a) : Nat) : Int), .int .i64 0]) ∧ Below w.heap.size w w' := by
  have HB : Below w.heap.size w w := Below.refl _ _
  obtain ⟨s1, s2⟩ := sx_range ha
  have cs := fun w => rsig_any a w ha
  obtain ⟨s, hs⟩ : ∃ s, sx a = s := ⟨_, rfl⟩
  rw [hs] at s1 s2 cs ⊢
  have hw : wrap32 s = s := by unfold wrap32; omega
  have co := fun w => ofs_any s w s1 s2
  clear hs
  go_enter Tryz.func36, Tryz.ntmps36
  go_wp2_with (first
    | (go_at_call 38; with_reducible refine (cs _).mono ?_; rintro e wq ⟨rfl, hq⟩; subst wq)
    | (go_at_call 48; with_reducible refine (co _).mono ?_; rintro e wq ⟨rfl, hq⟩; replace HB : Below w.heap.size w wq := btwU hq HB))
  simp [bodyPost, results, Tryz.results36]
  exact HB
theorem twV_range (a : Nat) : -2147483648 ≤ twV a ∧ twV a ≤ 2147483647 := by
  unfold twV
  have := tT_lt a
  split
  · omega
  · split
    · split <;> omega
    · split <;> omega
theorem ru_cvfi (a : Nat) (w : World) (ha : a < 4294967296) :
    Calls Tryz.prog 36 #[.int .u8 59, .int .u32 a] w fun e w' => e = .returned (.tuple #[.int .u32 (((twV a % 4294967296).toNat : Nat) : Int), .int .i64 0]) ∧ Below w.heap.size w w' := by
  have HB : Below w.heap.size w w := Below.refl _ _
  have ct := fun w => rtoward_any a w ha
  have rg := twV_range a
  obtain ⟨s, hs⟩ : ∃ s, twV a = s := ⟨_, rfl⟩
  rw [hs] at ct rg ⊢
  have hw : wrap64 s = s := by unfold wrap64; omega
  have cw : ∀ w, Calls Tryz.prog 45 #[.int .i64 s] w fun e w' => e = .returned (.int .u32 (((s % 4294967296).toNat : Nat) : Int)) ∧ w' = w := fun w => by
    have := rwrap_any s w
    rw [show s % 4294967296 = (((s % 4294967296).toNat : Nat) : Int) from anat_of.symm] at this
    exact this
  clear hs rg
  go_enter Tryz.func36, Tryz.ntmps36
  go_wp2_with (first
    | (go_at_call 49; with_reducible refine (ct _).mono ?_; rintro e wq ⟨rfl, hq⟩; replace HB : Below w.heap.size w wq := btwU hq HB)
    | (go_at_call 45; with_reducible refine (cw _).mono ?_; rintro e wq ⟨rfl, hq⟩; subst wq))
  simp [bodyPost, results, Tryz.results36]
  exact HB
theorem ru_none (op a : Nat) (w : World) (h36 : ¬ (op : Int) = 36) (h37 : ¬ (op : Int) = 37) (h38 : ¬ (op : Int) = 38) (h49 : ¬ (op : Int) = 49) (h53 : ¬ (op : Int) = 53) (h58 : ¬ (op : Int) = 58) (h59 : ¬ (op : Int) = 59) :
    Calls Tryz.prog 36 #[.int .u8 op, .int .u32 a] w fun e w' => e = .returned (.tuple #[.int .u32 0, .int .i64 61]) ∧ w' = w := by
  go_enter Tryz.func36, Tryz.ntmps36
  go_wp2
  simp [bodyPost, results, Tryz.results36]
theorem ru_any (op a : Nat) (w : World) (ha : a < 4294967296) :
    Calls Tryz.prog 36 #[.int .u8 op, .int .u32 a] w fun e w' => e = .returned (.tuple #[.int .u32 (unV op a), .int .i64 (unE op)]) ∧ Below w.heap.size w w' := by
  by_cases h36 : op = 36
  · subst h36
    rw [unV_36, show unE 36 = 0 from rfl]
    exact (ru_sex8 a w ha).mono fun e w' ⟨h1, h2⟩ => ⟨h1, h2 ▸ Below.refl _ _⟩
  by_cases h37 : op = 37
  · subst h37
    rw [unV_37, show unE 37 = 0 from rfl]
    exact (ru_sex16 a w ha).mono fun e w' ⟨h1, h2⟩ => ⟨h1, h2 ▸ Below.refl _ _⟩
  by_cases h38 : op = 38
  · subst h38
    rw [unV_38, show unE 38 = 0 from rfl]
    exact (ru_neg a w ha).mono fun e w' ⟨h1, h2⟩ => ⟨h1, h2 ▸ Below.refl _ _⟩
  by_cases h49 : op = 49
  · subst h49
    rw [unV_49, show unE 49 = 0 from rfl]
    exact (ru_not a w ha).mono fun e w' ⟨h1, h2⟩ => ⟨h1, h2 ▸ Below.refl _ _⟩
  by_cases h53 : op = 53
  · subst h53
    rw [unV_53, show unE 53 = 0 from rfl]
    exact (ru_negf a w ha).mono fun e w' ⟨h1, h2⟩ => ⟨h1, h2 ▸ Below.refl _ _⟩
  by_cases h58 : op = 58
  · subst h58
    rw [unV_58, show unE 58 = 0 from rfl]
    exact ru_cvif a w ha
  by_cases h59 : op = 59
  · subst h59
    rw [unV_59, show unE 59 = 0 from rfl]
    exact ru_cvfi a w ha
  have h0 : unV op a = 0 := by unfold unV; simp only [if_neg h36, if_neg h37, if_neg h38, if_neg h49, if_neg h53, if_neg h58, if_neg h59]
  have h1 : unE op = 61 := by unfold unE; rw [if_neg (by omega)]
  rw [h0, h1]
  exact (ru_none op a w (by omega) (by omega) (by omega) (by omega) (by omega) (by omega) (by omega)).mono fun e w' ⟨h1, h2⟩ => ⟨h1, h2 ▸ Below.refl _ _⟩
end Go.Proofs.YtjggbdlmghembaaGreat
namespace Go.Proofs.YtjggbdlmghembaaGreat
open Go.RowKit
set_option maxRecDepth 100000

set_option maxRecDepth 100000 in
set_option maxHeartbeats 4000000 in
theorem stZ (sa : Int) (ma : Bool) (na pa : Int) (sb : Int) (mb : Bool) (nb pb : Int) (X Y : Int) (w : World) (ha : (sa == 1) = false) (hb : (sb == 1) = false) (hi1 : ∀ w, Calls Tryz.prog 77 #[.agg #[.int .u8 sa, .bool ma, .int .u64 na, .int .i64 pa]] w fun e w' => e = .returned (.bool true) ∧ Below w.heap.size w w') (hi2 : ∀ w, Calls Tryz.prog 77 #[.agg #[.int .u8 sb, .bool mb, .int .u64 nb, .int .i64 pb]] w fun e w' => e = .returned (.bool true) ∧ Below w.heap.size w w') (hs1 : ∀ w, Calls Tryz.prog 78 #[.agg #[.int .u8 sa, .bool ma, .int .u64 na, .int .i64 pa]] w fun e w' => e = .returned (.int .i64 X) ∧ Below w.heap.size w w') (hs2 : ∀ w, Calls Tryz.prog 78 #[.agg #[.int .u8 sb, .bool mb, .int .u64 nb, .int .i64 pb]] w fun e w' => e = .returned (.int .i64 Y) ∧ Below w.heap.size w w')   :
    Calls Tryz.prog 55 #[.agg #[.int .u8 sa, .bool ma, .int .u64 na, .int .i64 pa], .agg #[.int .u8 sb, .bool mb, .int .u64 nb, .int .i64 pb]] w fun e w' => e = .returned (.int .u8 3) ∧ Below w.heap.size w w' := by
  have HI1 : Hid _ := hi1
  have HI2 : Hid _ := hi2
  have HS1 : Hid _ := hs1
  have HS2 : Hid _ := hs2
  have HBK : Hid _ := hs2
  clear hi1 hi2 hs1 hs2 
  have HB : Below ((w.alloc (oV sa ma na pa)).alloc (oV sb mb nb pb)).heap.size ((w.alloc (oV sa ma na pa)).alloc (oV sb mb nb pb)) ((w.alloc (oV sa ma na pa)).alloc (oV sb mb nb pb)) := Below.refl _ _
  have HW : Hid (Below w.heap.size w ((w.alloc (oV sa ma na pa)).alloc (oV sb mb nb pb))) := bel (bel (Below.refl _ _))
  go_enter Tryz.func55, Tryz.ntmps55
  go_wp2_with (first
    | (go_at_call 77; with_reducible refine (HI1.out _).mono ?_; rintro e w1 ⟨rfl, hb1⟩; replace HB := bt2 hb1 (show Below ((w.alloc (oV sa ma na pa)).alloc (oV sb mb nb pb)).heap.size ((w.alloc (oV sa ma na pa)).alloc (oV sb mb nb pb)) _ from by (repeat (first | exact HB | exact Below.refl _ _ | with_reducible refine bel ?_ | with_reducible refine Below.drew ?_ | with_reducible refine bt3 ?_))); obtain ⟨c0, c1, c2, c3, c4, c5, c6, c7⟩ := gF HB)
    | (go_at_call 77; with_reducible refine (HI2.out _).mono ?_; rintro e w1 ⟨rfl, hb1⟩; replace HB := bt2 hb1 (show Below ((w.alloc (oV sa ma na pa)).alloc (oV sb mb nb pb)).heap.size ((w.alloc (oV sa ma na pa)).alloc (oV sb mb nb pb)) _ from by (repeat (first | exact HB | exact Below.refl _ _ | with_reducible refine bel ?_ | with_reducible refine Below.drew ?_ | with_reducible refine bt3 ?_))); obtain ⟨c0, c1, c2, c3, c4, c5, c6, c7⟩ := gF HB)
    | (go_at_call 78; with_reducible refine (HS1.out _).mono ?_; rintro e w1 ⟨rfl, hb1⟩; replace HB := bt2 hb1 (show Below ((w.alloc (oV sa ma na pa)).alloc (oV sb mb nb pb)).heap.size ((w.alloc (oV sa ma na pa)).alloc (oV sb mb nb pb)) _ from by (repeat (first | exact HB | exact Below.refl _ _ | with_reducible refine bel ?_ | with_reducible refine Below.drew ?_ | with_reducible refine bt3 ?_))); obtain ⟨c0, c1, c2, c3, c4, c5, c6, c7⟩ := gF HB)
    | (go_at_call 78; with_reducible refine (HS2.out _).mono ?_; rintro e w1 ⟨rfl, hb1⟩; replace HB := bt2 hb1 (show Below ((w.alloc (oV sa ma na pa)).alloc (oV sb mb nb pb)).heap.size ((w.alloc (oV sa ma na pa)).alloc (oV sb mb nb pb)) _ from by (repeat (first | exact HB | exact Below.refl _ _ | with_reducible refine bel ?_ | with_reducible refine Below.drew ?_ | with_reducible refine bt3 ?_))); obtain ⟨c0, c1, c2, c3, c4, c5, c6, c7⟩ := gF HB)
    | (go_at_call 79; with_reducible refine (HBK.out _).mono ?_; rintro e w1 ⟨rfl, hb1⟩; replace HB := bt2 hb1 (show Below ((w.alloc (oV sa ma na pa)).alloc (oV sb mb nb pb)).heap.size ((w.alloc (oV sa ma na pa)).alloc (oV sb mb nb pb)) _ from by (repeat (first | exact HB | exact Below.refl _ _ | with_reducible refine bel ?_ | with_reducible refine Below.drew ?_ | with_reducible refine bt3 ?_))); obtain ⟨c0, c1, c2, c3, c4, c5, c6, c7⟩ := gF HB))
  go_ret
  exact ⟨rfl, HW.out.trans (HB.mono HW.out.size)⟩
set_option maxRecDepth 100000 in
set_option maxHeartbeats 4000000 in
theorem stLa (sa : Int) (ma : Bool) (na pa : Int) (sb : Int) (mb : Bool) (nb pb : Int) (X Y : Int) (z2 : Bool) (w : World) (ha : (sa == 1) = false) (hb : (sb == 1) = false) (hi1 : ∀ w, Calls Tryz.prog 77 #[.agg #[.int .u8 sa, .bool ma, .int .u64 na, .int .i64 pa]] w fun e w' => e = .returned (.bool false) ∧ Below w.heap.size w w') (hi2 : ∀ w, Calls Tryz.prog 77 #[.agg #[.int .u8 sb, .bool mb, .int .u64 nb, .int .i64 pb]] w fun e w' => e = .returned (.bool z2) ∧ Below w.heap.size w w') (hs1 : ∀ w, Calls Tryz.prog 78 #[.agg #[.int .u8 sa, .bool ma, .int .u64 na, .int .i64 pa]] w fun e w' => e = .returned (.int .i64 X) ∧ Below w.heap.size w w') (hs2 : ∀ w, Calls Tryz.prog 78 #[.agg #[.int .u8 sb, .bool mb, .int .u64 nb, .int .i64 pb]] w fun e w' => e = .returned (.int .i64 Y) ∧ Below w.heap.size w w')  (h : X < Y) :
    Calls Tryz.prog 55 #[.agg #[.int .u8 sa, .bool ma, .int .u64 na, .int .i64 pa], .agg #[.int .u8 sb, .bool mb, .int .u64 nb, .int .i64 pb]] w fun e w' => e = .returned (.int .u8 2) ∧ Below w.heap.size w w' := by
  have HI1 : Hid _ := hi1
  have HI2 : Hid _ := hi2
  have HS1 : Hid _ := hs1
  have HS2 : Hid _ := hs2
  have HBK : Hid _ := hs2
  clear hi1 hi2 hs1 hs2 
  have hne : (X != Y) = true := by simp; omega
  have HB : Below ((w.alloc (oV sa ma na pa)).alloc (oV sb mb nb pb)).heap.size ((w.alloc (oV sa ma na pa)).alloc (oV sb mb nb pb)) ((w.alloc (oV sa ma na pa)).alloc (oV sb mb nb pb)) := Below.refl _ _
  have HW : Hid (Below w.heap.size w ((w.alloc (oV sa ma na pa)).alloc (oV sb mb nb pb))) := bel (bel (Below.refl _ _))
  go_enter Tryz.func55, Tryz.ntmps55
  go_wp2_with (first
    | (go_at_call 77; with_reducible refine (HI1.out _).mono ?_; rintro e w1 ⟨rfl, hb1⟩; replace HB := bt2 hb1 (show Below ((w.alloc (oV sa ma na pa)).alloc (oV sb mb nb pb)).heap.size ((w.alloc (oV sa ma na pa)).alloc (oV sb mb nb pb)) _ from by (repeat (first | exact HB | exact Below.refl _ _ | with_reducible refine bel ?_ | with_reducible refine Below.drew ?_ | with_reducible refine bt3 ?_))); obtain ⟨c0, c1, c2, c3, c4, c5, c6, c7⟩ := gF HB)
    | (go_at_call 77; with_reducible refine (HI2.out _).mono ?_; rintro e w1 ⟨rfl, hb1⟩; replace HB := bt2 hb1 (show Below ((w.alloc (oV sa ma na pa)).alloc (oV sb mb nb pb)).heap.size ((w.alloc (oV sa ma na pa)).alloc (oV sb mb nb pb)) _ from by (repeat (first | exact HB | exact Below.refl _ _ | with_reducible refine bel ?_ | with_reducible refine Below.drew ?_ | with_reducible refine bt3 ?_))); obtain ⟨c0, c1, c2, c3, c4, c5, c6, c7⟩ := gF HB)
    | (go_at_call 78; with_reducible refine (HS1.out _).mono ?_; rintro e w1 ⟨rfl, hb1⟩; replace HB := bt2 hb1 (show Below ((w.alloc (oV sa ma na pa)).alloc (oV sb mb nb pb)).heap.size ((w.alloc (oV sa ma na pa)).alloc (oV sb mb nb pb)) _ from by (repeat (first | exact HB | exact Below.refl _ _ | with_reducible refine bel ?_ | with_reducible refine Below.drew ?_ | with_reducible refine bt3 ?_))); obtain ⟨c0, c1, c2, c3, c4, c5, c6, c7⟩ := gF HB)
    | (go_at_call 78; with_reducible refine (HS2.out _).mono ?_; rintro e w1 ⟨rfl, hb1⟩; replace HB := bt2 hb1 (show Below ((w.alloc (oV sa ma na pa)).alloc (oV sb mb nb pb)).heap.size ((w.alloc (oV sa ma na pa)).alloc (oV sb mb nb pb)) _ from by (repeat (first | exact HB | exact Below.refl _ _ | with_reducible refine bel ?_ | with_reducible refine Below.drew ?_ | with_reducible refine bt3 ?_))); obtain ⟨c0, c1, c2, c3, c4, c5, c6, c7⟩ := gF HB)
    | (go_at_call 79; with_reducible refine (HBK.out _).mono ?_; rintro e w1 ⟨rfl, hb1⟩; replace HB := bt2 hb1 (show Below ((w.alloc (oV sa ma na pa)).alloc (oV sb mb nb pb)).heap.size ((w.alloc (oV sa ma na pa)).alloc (oV sb mb nb pb)) _ from by (repeat (first | exact HB | exact Below.refl _ _ | with_reducible refine bel ?_ | with_reducible refine Below.drew ?_ | with_reducible refine bt3 ?_))); obtain ⟨c0, c1, c2, c3, c4, c5, c6, c7⟩ := gF HB))
  go_ret
  exact ⟨rfl, HW.out.trans (HB.mono HW.out.size)⟩
set_option maxRecDepth 100000 in
set_option maxHeartbeats 4000000 in
theorem stGa (sa : Int) (ma : Bool) (na pa : Int) (sb : Int) (mb : Bool) (nb pb : Int) (X Y : Int) (z2 : Bool) (w : World) (ha : (sa == 1) = false) (hb : (sb == 1) = false) (hi1 : ∀ w, Calls Tryz.prog 77 #[.agg #[.int .u8 sa, .bool ma, .int .u64 na, .int .i64 pa]] w fun e w' => e = .returned (.bool false) ∧ Below w.heap.size w w') (hi2 : ∀ w, Calls Tryz.prog 77 #[.agg #[.int .u8 sb, .bool mb, .int .u64 nb, .int .i64 pb]] w fun e w' => e = .returned (.bool z2) ∧ Below w.heap.size w w') (hs1 : ∀ w, Calls Tryz.prog 78 #[.agg #[.int .u8 sa, .bool ma, .int .u64 na, .int .i64 pa]] w fun e w' => e = .returned (.int .i64 X) ∧ Below w.heap.size w w') (hs2 : ∀ w, Calls Tryz.prog 78 #[.agg #[.int .u8 sb, .bool mb, .int .u64 nb, .int .i64 pb]] w fun e w' => e = .returned (.int .i64 Y) ∧ Below w.heap.size w w')  (h : Y < X) :
    Calls Tryz.prog 55 #[.agg #[.int .u8 sa, .bool ma, .int .u64 na, .int .i64 pa], .agg #[.int .u8 sb, .bool mb, .int .u64 nb, .int .i64 pb]] w fun e w' => e = .returned (.int .u8 4) ∧ Below w.heap.size w w' := by
  have HI1 : Hid _ := hi1
  have HI2 : Hid _ := hi2
  have HS1 : Hid _ := hs1
  have HS2 : Hid _ := hs2
  have HBK : Hid _ := hs2
  clear hi1 hi2 hs1 hs2 
  have hne : (X != Y) = true := by simp; omega
  have hlt : decide (X < Y) = false := decide_eq_false (by omega)
  have HB : Below ((w.alloc (oV sa ma na pa)).alloc (oV sb mb nb pb)).heap.size ((w.alloc (oV sa ma na pa)).alloc (oV sb mb nb pb)) ((w.alloc (oV sa ma na pa)).alloc (oV sb mb nb pb)) := Below.refl _ _
  have HW : Hid (Below w.heap.size w ((w.alloc (oV sa ma na pa)).alloc (oV sb mb nb pb))) := bel (bel (Below.refl _ _))
  go_enter Tryz.func55, Tryz.ntmps55
  go_wp2_with (first
    | (go_at_call 77; with_reducible refine (HI1.out _).mono ?_; rintro e w1 ⟨rfl, hb1⟩; replace HB := bt2 hb1 (show Below ((w.alloc (oV sa ma na pa)).alloc (oV sb mb nb pb)).heap.size ((w.alloc (oV sa ma na pa)).alloc (oV sb mb nb pb)) _ from by (repeat (first | exact HB | exact Below.refl _ _ | with_reducible refine bel ?_ | with_reducible refine Below.drew ?_ | with_reducible refine bt3 ?_))); obtain ⟨c0, c1, c2, c3, c4, c5, c6, c7⟩ := gF HB)
    | (go_at_call 77; with_reducible refine (HI2.out _).mono ?_; rintro e w1 ⟨rfl, hb1⟩; replace HB := bt2 hb1 (show Below ((w.alloc (oV sa ma na pa)).alloc (oV sb mb nb pb)).heap.size ((w.alloc (oV sa ma na pa)).alloc (oV sb mb nb pb)) _ from by (repeat (first | exact HB | exact Below.refl _ _ | with_reducible refine bel ?_ | with_reducible refine Below.drew ?_ | with_reducible refine bt3 ?_))); obtain ⟨c0, c1, c2, c3, c4, c5, c6, c7⟩ := gF HB)
    | (go_at_call 78; with_reducible refine (HS1.out _).mono ?_; rintro e w1 ⟨rfl, hb1⟩; replace HB := bt2 hb1 (show Below ((w.alloc (oV sa ma na pa)).alloc (oV sb mb nb pb)).heap.size ((w.alloc (oV sa ma na pa)).alloc (oV sb mb nb pb)) _ from by (repeat (first | exact HB | exact Below.refl _ _ | with_reducible refine bel ?_ | with_reducible refine Below.drew ?_ | with_reducible refine bt3 ?_))); obtain ⟨c0, c1, c2, c3, c4, c5, c6, c7⟩ := gF HB)
    | (go_at_call 78; with_reducible refine (HS2.out _).mono ?_; rintro e w1 ⟨rfl, hb1⟩; replace HB := bt2 hb1 (show Below ((w.alloc (oV sa ma na pa)).alloc (oV sb mb nb pb)).heap.size ((w.alloc (oV sa ma na pa)).alloc (oV sb mb nb pb)) _ from by (repeat (first | exact HB | exact Below.refl _ _ | with_reducible refine bel ?_ | with_reducible refine Below.drew ?_ | with_reducible refine bt3 ?_))); obtain ⟨c0, c1, c2, c3, c4, c5, c6, c7⟩ := gF HB)
    | (go_at_call 79; with_reducible refine (HBK.out _).mono ?_; rintro e w1 ⟨rfl, hb1⟩; replace HB := bt2 hb1 (show Below ((w.alloc (oV sa ma na pa)).alloc (oV sb mb nb pb)).heap.size ((w.alloc (oV sa ma na pa)).alloc (oV sb mb nb pb)) _ from by (repeat (first | exact HB | exact Below.refl _ _ | with_reducible refine bel ?_ | with_reducible refine Below.drew ?_ | with_reducible refine bt3 ?_))); obtain ⟨c0, c1, c2, c3, c4, c5, c6, c7⟩ := gF HB))
  go_ret
  exact ⟨rfl, HW.out.trans (HB.mono HW.out.size)⟩
set_option maxRecDepth 100000 in
set_option maxHeartbeats 4000000 in
theorem stLb (sa : Int) (ma : Bool) (na pa : Int) (sb : Int) (mb : Bool) (nb pb : Int) (X Y : Int) (w : World) (ha : (sa == 1) = false) (hb : (sb == 1) = false) (hi1 : ∀ w, Calls Tryz.prog 77 #[.agg #[.int .u8 sa, .bool ma, .int .u64 na, .int .i64 pa]] w fun e w' => e = .returned (.bool true) ∧ Below w.heap.size w w') (hi2 : ∀ w, Calls Tryz.prog 77 #[.agg #[.int .u8 sb, .bool mb, .int .u64 nb, .int .i64 pb]] w fun e w' => e = .returned (.bool false) ∧ Below w.heap.size w w') (hs1 : ∀ w, Calls Tryz.prog 78 #[.agg #[.int .u8 sa, .bool ma, .int .u64 na, .int .i64 pa]] w fun e w' => e = .returned (.int .i64 X) ∧ Below w.heap.size w w') (hs2 : ∀ w, Calls Tryz.prog 78 #[.agg #[.int .u8 sb, .bool mb, .int .u64 nb, .int .i64 pb]] w fun e w' => e = .returned (.int .i64 Y) ∧ Below w.heap.size w w')  (h : X < Y) :
    Calls Tryz.prog 55 #[.agg #[.int .u8 sa, .bool ma, .int .u64 na, .int .i64 pa], .agg #[.int .u8 sb, .bool mb, .int .u64 nb, .int .i64 pb]] w fun e w' => e = .returned (.int .u8 2) ∧ Below w.heap.size w w' := by
  have HI1 : Hid _ := hi1
  have HI2 : Hid _ := hi2
  have HS1 : Hid _ := hs1
  have HS2 : Hid _ := hs2
  have HBK : Hid _ := hs2
  clear hi1 hi2 hs1 hs2 
  have hne : (X != Y) = true := by simp; omega
  have HB : Below ((w.alloc (oV sa ma na pa)).alloc (oV sb mb nb pb)).heap.size ((w.alloc (oV sa ma na pa)).alloc (oV sb mb nb pb)) ((w.alloc (oV sa ma na pa)).alloc (oV sb mb nb pb)) := Below.refl _ _
  have HW : Hid (Below w.heap.size w ((w.alloc (oV sa ma na pa)).alloc (oV sb mb nb pb))) := bel (bel (Below.refl _ _))
  go_enter Tryz.func55, Tryz.ntmps55
  go_wp2_with (first
    | (go_at_call 77; with_reducible refine (HI1.out _).mono ?_; rintro e w1 ⟨rfl, hb1⟩; replace HB := bt2 hb1 (show Below ((w.alloc (oV sa ma na pa)).alloc (oV sb mb nb pb)).heap.size ((w.alloc (oV sa ma na pa)).alloc (oV sb mb nb pb)) _ from by (repeat (first | exact HB | exact Below.refl _ _ | with_reducible refine bel ?_ | with_reducible refine Below.drew ?_ | with_reducible refine bt3 ?_))); obtain ⟨c0, c1, c2, c3, c4, c5, c6, c7⟩ := gF HB)
    | (go_at_call 77; with_reducible refine (HI2.out _).mono ?_; rintro e w1 ⟨rfl, hb1⟩; replace HB := bt2 hb1 (show Below ((w.alloc (oV sa ma na pa)).alloc (oV sb mb nb pb)).heap.size ((w.alloc (oV sa ma na pa)).alloc (oV sb mb nb pb)) _ from by (repeat (first | exact HB | exact Below.refl _ _ | with_reducible refine bel ?_ | with_reducible refine Below.drew ?_ | with_reducible refine bt3 ?_))); obtain ⟨c0, c1, c2, c3, c4, c5, c6, c7⟩ := gF HB)
    | (go_at_call 78; with_reducible refine (HS1.out _).mono ?_; rintro e w1 ⟨rfl, hb1⟩; replace HB := bt2 hb1 (show Below ((w.alloc (oV sa ma na pa)).alloc (oV sb mb nb pb)).heap.size ((w.alloc (oV sa ma na pa)).alloc (oV sb mb nb pb)) _ from by (repeat (first | exact HB | exact Below.refl _ _ | with_reducible refine bel ?_ | with_reducible refine Below.drew ?_ | with_reducible refine bt3 ?_))); obtain ⟨c0, c1, c2, c3, c4, c5, c6, c7⟩ := gF HB)
    | (go_at_call 78; with_reducible refine (HS2.out _).mono ?_; rintro e w1 ⟨rfl, hb1⟩; replace HB := bt2 hb1 (show Below ((w.alloc (oV sa ma na pa)).alloc (oV sb mb nb pb)).heap.size ((w.alloc (oV sa ma na pa)).alloc (oV sb mb nb pb)) _ from by (repeat (first | exact HB | exact Below.refl _ _ | with_reducible refine bel ?_ | with_reducible refine Below.drew ?_ | with_reducible refine bt3 ?_))); obtain ⟨c0, c1, c2, c3, c4, c5, c6, c7⟩ := gF HB)
    | (go_at_call 79; with_reducible refine (HBK.out _).mono ?_; rintro e w1 ⟨rfl, hb1⟩; replace HB := bt2 hb1 (show Below ((w.alloc (oV sa ma na pa)).alloc (oV sb mb nb pb)).heap.size ((w.alloc (oV sa ma na pa)).alloc (oV sb mb nb pb)) _ from by (repeat (first | exact HB | exact Below.refl _ _ | with_reducible refine bel ?_ | with_reducible refine Below.drew ?_ | with_reducible refine bt3 ?_))); obtain ⟨c0, c1, c2, c3, c4, c5, c6, c7⟩ := gF HB))
  go_ret
  exact ⟨rfl, HW.out.trans (HB.mono HW.out.size)⟩
set_option maxRecDepth 100000 in
set_option maxHeartbeats 4000000 in
theorem stGb (sa : Int) (ma : Bool) (na pa : Int) (sb : Int) (mb : Bool) (nb pb : Int) (X Y : Int) (w : World) (ha : (sa == 1) = false) (hb : (sb == 1) = false) (hi1 : ∀ w, Calls Tryz.prog 77 #[.agg #[.int .u8 sa, .bool ma, .int .u64 na, .int .i64 pa]] w fun e w' => e = .returned (.bool true) ∧ Below w.heap.size w w') (hi2 : ∀ w, Calls Tryz.prog 77 #[.agg #[.int .u8 sb, .bool mb, .int .u64 nb, .int .i64 pb]] w fun e w' => e = .returned (.bool false) ∧ Below w.heap.size w w') (hs1 : ∀ w, Calls Tryz.prog 78 #[.agg #[.int .u8 sa, .bool ma, .int .u64 na, .int .i64 pa]] w fun e w' => e = .returned (.int .i64 X) ∧ Below w.heap.size w w') (hs2 : ∀ w, Calls Tryz.prog 78 #[.agg #[.int .u8 sb, .bool mb, .int .u64 nb, .int .i64 pb]] w fun e w' => e = .returned (.int .i64 Y) ∧ Below w.heap.size w w')  (h : Y < X) :
    Calls Tryz.prog 55 #[.agg #[.int .u8 sa, .bool ma, .int .u64 na, .int .i64 pa], .agg #[.int .u8 sb, .bool mb, .int .u64 nb, .int .i64 pb]] w fun e w' => e = .returned (.int .u8 4) ∧ Below w.heap.size w w' := by
  have HI1 : Hid _ := hi1
  have HI2 : Hid _ := hi2
  have HS1 : Hid _ := hs1
  have HS2 : Hid _ := hs2
  have HBK : Hid _ := hs2
  clear hi1 hi2 hs1 hs2 
  have hne : (X != Y) = true := by simp; omega
  have hlt : decide (X < Y) = false := decide_eq_false (by omega)
  have HB : Below ((w.alloc (oV sa ma na pa)).alloc (oV sb mb nb pb)).heap.size ((w.alloc (oV sa ma na pa)).alloc (oV sb mb nb pb)) ((w.alloc (oV sa ma na pa)).alloc (oV sb mb nb pb)) := Below.refl _ _
  have HW : Hid (Below w.heap.size w ((w.alloc (oV sa ma na pa)).alloc (oV sb mb nb pb))) := bel (bel (Below.refl _ _))
  go_enter Tryz.func55, Tryz.ntmps55
  go_wp2_with (first
    | (go_at_call 77; with_reducible refine (HI1.out _).mono ?_; rintro e w1 ⟨rfl, hb1⟩; replace HB := bt2 hb1 (show Below ((w.alloc (oV sa ma na pa)).alloc (oV sb mb nb pb)).heap.size ((w.alloc (oV sa ma na pa)).alloc (oV sb mb nb pb)) _ from by (repeat (first | exact HB | exact Below.refl _ _ | with_reducible refine bel ?_ | with_reducible refine Below.drew ?_ | with_reducible refine bt3 ?_))); obtain ⟨c0, c1, c2, c3, c4, c5, c6, c7⟩ := gF HB)
    | (go_at_call 77; with_reducible refine (HI2.out _).mono ?_; rintro e w1 ⟨rfl, hb1⟩; replace HB := bt2 hb1 (show Below ((w.alloc (oV sa ma na pa)).alloc (oV sb mb nb pb)).heap.size ((w.alloc (oV sa ma na pa)).alloc (oV sb mb nb pb)) _ from by (repeat (first | exact HB | exact Below.refl _ _ | with_reducible refine bel ?_ | with_reducible refine Below.drew ?_ | with_reducible refine bt3 ?_))); obtain ⟨c0, c1, c2, c3, c4, c5, c6, c7⟩ := gF HB)
    | (go_at_call 78; with_reducible refine (HS1.out _).mono ?_; rintro e w1 ⟨rfl, hb1⟩; replace HB := bt2 hb1 (show Below ((w.alloc (oV sa ma na pa)).alloc (oV sb mb nb pb)).heap.size ((w.alloc (oV sa ma na pa)).alloc (oV sb mb nb pb)) _ from by (repeat (first | exact HB | exact Below.refl _ _ | with_reducible refine bel ?_ | with_reducible refine Below.drew ?_ | with_reducible refine bt3 ?_))); obtain ⟨c0, c1, c2, c3, c4, c5, c6, c7⟩ := gF HB)
    | (go_at_call 78; with_reducible refine (HS2.out _).mono ?_; rintro e w1 ⟨rfl, hb1⟩; replace HB := bt2 hb1 (show Below ((w.alloc (oV sa ma na pa)).alloc (oV sb mb nb pb)).heap.size ((w.alloc (oV sa ma na pa)).alloc (oV sb mb nb pb)) _ from by (repeat (first | exact HB | exact Below.refl _ _ | with_reducible refine bel ?_ | with_reducible refine Below.drew ?_ | with_reducible refine bt3 ?_))); obtain ⟨c0, c1, c2, c3, c4, c5, c6, c7⟩ := gF HB)
    | (go_at_call 79; with_reducible refine (HBK.out _).mono ?_; rintro e w1 ⟨rfl, hb1⟩; replace HB := bt2 hb1 (show Below ((w.alloc (oV sa ma na pa)).alloc (oV sb mb nb pb)).heap.size ((w.alloc (oV sa ma na pa)).alloc (oV sb mb nb pb)) _ from by (repeat (first | exact HB | exact Below.refl _ _ | with_reducible refine bel ?_ | with_reducible refine Below.drew ?_ | with_reducible refine bt3 ?_))); obtain ⟨c0, c1, c2, c3, c4, c5, c6, c7⟩ := gF HB))
  go_ret
  exact ⟨rfl, HW.out.trans (HB.mono HW.out.size)⟩
end Go.Proofs.YtjggbdlmghembaaGreat
