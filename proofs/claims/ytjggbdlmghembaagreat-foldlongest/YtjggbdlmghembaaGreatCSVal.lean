import Derived.Test.YtjggbdlmghembaaGreatCPKp
import Derived.Laws.StructEq
import Derived.Deep.RegionWith
namespace Go.Proofs.YtjggbdlmghembaaGreat
open Go.RowKit
set_option maxRecDepth 100000

@[go_sem] theorem bV1 (s : Int) (w : World) : (Instr.build 94 #[(0, .int .u8 s)]).run Tryz.prog w = .ok (.agg #[.int .u8 s, .bool false, .int .u64 0, .int .i64 0]) w := run_build w 94 _ _ (by kernel_rfl)
@[go_sem] theorem bV2 (s : Int) (m : Bool) (w : World) : (Instr.build 94 #[(0, .int .u8 s), (1, .bool m)]).run Tryz.prog w = .ok (.agg #[.int .u8 s, .bool m, .int .u64 0, .int .i64 0]) w := run_build w 94 _ _ (by kernel_rfl)
@[go_sem] theorem bV4 (s : Int) (m : Bool) (n p : Int) (w : World) : (Instr.build 94 #[(0, .int .u8 s), (1, .bool m), (2, .int .u64 n), (3, .int .i64 p)]).run Tryz.prog w = .ok (.agg #[.int .u8 s, .bool m, .int .u64 n, .int .i64 p]) w := run_build w 94 _ _ (by kernel_rfl)
@[go_sem] theorem bF3 (a b c : Int) (w : World) : (Instr.build 103 #[(0, .int .i64 a), (1, .int .i64 b), (2, .int .i64 c)]).run Tryz.prog w = .ok (.agg #[.int .i64 a, .int .i64 b, .int .i64 c]) w := run_build w 103 _ _ (by kernel_rfl)

theorem form_any (w : World) :
    Calls Tryz.prog 69 #[] w fun e w' => e = .returned (.agg #[.int .i64 24, .int .i64 (-149), .int .i64 104]) ∧ w' = w.alloc (.cells #[.int .i64 24, .int .i64 (-149), .int .i64 104] 103) := by
  go_enter Tryz.func69, Tryz.ntmps69
  go_wp2
  refine bodyPost_ret (v := .agg #[.int .i64 24, .int .i64 (-149), .int .i64 104]) (by simp [results, Tryz.f69, go_sem]) rfl ?_
  exact ⟨rfl, rfl⟩
theorem vnone_any (w : World) :
    Calls Tryz.prog 99 #[] w fun e w' => e = .returned (.agg #[.int .u8 1, .bool false, .int .u64 0, .int .i64 0]) ∧ w' = w.alloc (.cells #[.int .u8 1, .bool false, .int .u64 0, .int .i64 0] 94) := by
  go_enter Tryz.func99, Tryz.ntmps99
  go_wp2
  refine bodyPost_ret (v := .agg #[.int .u8 1, .bool false, .int .u64 0, .int .i64 0]) (by simp [results, Tryz.f99, go_sem]) rfl ?_
  exact ⟨rfl, rfl⟩
theorem vendless_any (m : Bool) (w : World) :
    Calls Tryz.prog 100 #[.bool m] w fun e w' => e = .returned (.agg #[.int .u8 2, .bool m, .int .u64 0, .int .i64 0]) ∧ w' = w.alloc (.cells #[.int .u8 2, .bool m, .int .u64 0, .int .i64 0] 94) := by
  go_enter Tryz.func100, Tryz.ntmps100
  go_wp2
  refine bodyPost_ret (v := .agg #[.int .u8 2, .bool m, .int .u64 0, .int .i64 0]) (by simp [results, Tryz.f100, go_sem]) rfl ?_
  exact ⟨rfl, rfl⟩
theorem most_any (w : World) :
    Calls Tryz.prog 97 #[.agg #[.int .i64 24, .int .i64 (-149), .int .i64 104]] w fun e w' => e = .returned (.int .i64 255) ∧ w' = w.alloc (.cells #[.int .i64 24, .int .i64 (-149), .int .i64 104] 103) := by
  go_enter Tryz.func97, Tryz.ntmps97
  go_wp2
  go_ret
  exact ⟨rfl, rfl⟩
theorem bitsof_any (w : World) :
    Calls Tryz.prog 98 #[.int .i64 255] w fun e w' => e = .returned (.int .i64 8) ∧ w' = w := by
  go_enter Tryz.func98, Tryz.ntmps98
  go_wp2
  go_loop [0, 3] (fun x n => ∃ k : Nat, k ≤ 8 ∧ x = .int .i64 ((255 / 2 ^ k : Nat) : Int) ∧ n = .int .i64 (k : Int)) (fun _ n => 8 - (intOf n).toNat)
  case atStart => exact ⟨0, by decide, rfl, rfl⟩
  case round =>
    obtain ⟨k, hk, rfl, rfl⟩ := hrel
    have : k = 0 ∨ k = 1 ∨ k = 2 ∨ k = 3 ∨ k = 4 ∨ k = 5 ∨ k = 6 ∨ k = 7 ∨ k = 8 := by omega
    rcases this with rfl | rfl | rfl | rfl | rfl | rfl | rfl | rfl | rfl
    iterate 8
      · go_wp2
        go_round
        case rel => exact ⟨_, by decide, rfl, rfl⟩
        case measure => decide
    · go_wp2
      go_ret
      exact ⟨rfl, rfl⟩
theorem b64_and (n : Nat) (h : n < 18446744073709551616) : bits .and .u64 (n : Int) 255 = ((n % 256 : Nat) : Int) := by
  have := u64_and_nat n 255 h (by omega)
  rw [show n &&& 255 = n % 256 from Nat.and_two_pow_sub_one_eq_mod n 8] at this
  exact this
theorem b64_frac (n : Nat) (h : n < 18446744073709551616) : bits .and .u64 (n : Int) 8388607 = ((n % 8388608 : Nat) : Int) := by
  have := u64_and_nat n 8388607 h (by omega)
  rw [show n &&& 8388607 = n % 8388608 from Nat.and_two_pow_sub_one_eq_mod n 23] at this
  exact this
theorem b64_one (n : Nat) (h : n < 18446744073709551616) : bits .and .u64 (n : Int) 1 = ((n % 2 : Nat) : Int) := by
  have := u64_and_nat n 1 h (by omega)
  rw [show n &&& 1 = n % 2 from Nat.and_two_pow_sub_one_eq_mod n 1] at this
  exact this
/-- the sign -/
def sg (a : Nat) : Bool := decide (2147483648 ≤ a)
set_option maxRecDepth 100000 in
set_option maxHeartbeats 1000000 in
theorem open_none (a : Nat) (w : World) (h : a < 4294967296) (hn : 2139095040 < a % 2147483648) :
    Calls Tryz.prog 80 #[.agg #[.int .i64 24, .int .i64 (-149), .int .i64 104], .int .u64 a] w fun e w' => e = .returned (.agg #[.int .u8 1, .bool false, .int .u64 0, .int .i64 0]) ∧ ∃ o0 o1 o2 o3 o4 o5, w' = ((((((w.alloc o0).alloc o1).alloc o2).alloc o3).alloc o4).alloc o5) := by
  have h1 : bits .and .u64 ((a : Int) / 8388608) 255 = 255 := by
    have := b64_and (a / 8388608) (by omega)
    rw [Int.natCast_ediv, show a / 8388608 % 256 = 255 by omega] at this
    exact this
  have h2 := b64_frac a (by omega)
  have h3 : bits .and .u64 ((a : Int) / 8388608 / 256) 1 = ((a / 2147483648 : Nat) : Int) := by
    have := b64_one (a / 8388608 / 256) (by omega)
    rw [Int.natCast_ediv, Int.natCast_ediv, show a / 8388608 / 256 % 2 = a / 2147483648 by omega] at this
    exact this
  have hs : ((a : Int) / 2147483648 == 1) = sg a := by
    unfold sg
    by_cases h' : 2147483648 ≤ a
    · rw [decide_eq_true h', show (a : Int) / 2147483648 = 1 by omega]; rfl
    · rw [decide_eq_false h', show (a : Int) / 2147483648 = 0 by omega]; rfl
  have g1 : (((a % 8388608 : Nat) : Int) != 0) = true := by simp; omega
  go_enter Tryz.func80, Tryz.ntmps80
  go_wp2_with (first
    | (go_at_call 97; refine (most_any _).mono ?_; rintro e wq ⟨rfl, hq⟩; subst wq)
    | (go_at_call 98; refine (bitsof_any _).mono ?_; rintro e wq ⟨rfl, hq⟩; subst wq)
    | (go_at_call 99; refine (vnone_any _).mono ?_; rintro e wq ⟨rfl, hq⟩; subst wq))
  refine bodyPost_ret (v := .agg #[.int .u8 1, .bool false, .int .u64 0, .int .i64 0]) (by simp [results, Tryz.f80, go_sem]) rfl ?_
  exact ⟨rfl, _, _, _, _, _, _, rfl⟩
set_option maxRecDepth 100000 in
set_option maxHeartbeats 1000000 in
theorem open_endless (a : Nat) (w : World) (h : a < 4294967296) (hn : a % 2147483648 = 2139095040) :
    Calls Tryz.prog 80 #[.agg #[.int .i64 24, .int .i64 (-149), .int .i64 104], .int .u64 a] w fun e w' => e = .returned (.agg #[.int .u8 2, .bool (sg a), .int .u64 0, .int .i64 0]) ∧ ∃ o0 o1 o2 o3 o4 o5 o6, w' = (((((((w.alloc o0).alloc o1).alloc o2).alloc o3).alloc o4).alloc o5).alloc o6) := by
  have h1 : bits .and .u64 ((a : Int) / 8388608) 255 = 255 := by
    have := b64_and (a / 8388608) (by omega)
    rw [Int.natCast_ediv, show a / 8388608 % 256 = 255 by omega] at this
    exact this
  have h2 := b64_frac a (by omega)
  have h3 : bits .and .u64 ((a : Int) / 8388608 / 256) 1 = ((a / 2147483648 : Nat) : Int) := by
    have := b64_one (a / 8388608 / 256) (by omega)
    rw [Int.natCast_ediv, Int.natCast_ediv, show a / 8388608 / 256 % 2 = a / 2147483648 by omega] at this
    exact this
  have hs : ((a : Int) / 2147483648 == 1) = sg a := by
    unfold sg
    by_cases h' : 2147483648 ≤ a
    · rw [decide_eq_true h', show (a : Int) / 2147483648 = 1 by omega]; rfl
    · rw [decide_eq_false h', show (a : Int) / 2147483648 = 0 by omega]; rfl
  rw [show a % 8388608 = 0 by omega] at h2
  go_enter Tryz.func80, Tryz.ntmps80
  go_wp2_with (first
    | (go_at_call 97; refine (most_any _).mono ?_; rintro e wq ⟨rfl, hq⟩; subst wq)
    | (go_at_call 98; refine (bitsof_any _).mono ?_; rintro e wq ⟨rfl, hq⟩; subst wq)
    | (go_at_call 100; refine (vendless_any _ _).mono ?_; rintro e wq ⟨rfl, hq⟩; subst wq))
  refine bodyPost_ret (v := .agg #[.int .u8 2, .bool (sg a), .int .u64 0, .int .i64 0]) (by simp [results, Tryz.f80, go_sem]) rfl ?_
  exact ⟨rfl, _, _, _, _, _, _, _, rfl⟩
set_option maxRecDepth 100000 in
set_option maxHeartbeats 1000000 in
theorem open_small (a : Nat) (w : World) (h : a < 4294967296) (hn : a % 2147483648 < 8388608) :
    Calls Tryz.prog 80 #[.agg #[.int .i64 24, .int .i64 (-149), .int .i64 104], .int .u64 a] w fun e w' => e = .returned (.agg #[.int .u8 3, .bool (sg a), .int .u64 ((a % 2147483648 : Nat) : Int), .int .i64 (-149)]) ∧ ∃ o0 o1 o2 o3 o4 o5, w' = ((((((w.alloc o0).alloc o1).alloc o2).alloc o3).alloc o4).alloc o5) := by
  have h1 : bits .and .u64 ((a : Int) / 8388608) 255 = 0 := by
    have := b64_and (a / 8388608) (by omega)
    rw [Int.natCast_ediv, show a / 8388608 % 256 = 0 by omega] at this
    exact this
  have h2 := b64_frac a (by omega)
  have h3 : bits .and .u64 ((a : Int) / 8388608 / 256) 1 = ((a / 2147483648 : Nat) : Int) := by
    have := b64_one (a / 8388608 / 256) (by omega)
    rw [Int.natCast_ediv, Int.natCast_ediv, show a / 8388608 / 256 % 2 = a / 2147483648 by omega] at this
    exact this
  have hs : ((a : Int) / 2147483648 == 1) = sg a := by
    unfold sg
    by_cases h' : 2147483648 ≤ a
    · rw [decide_eq_true h', show (a : Int) / 2147483648 = 1 by omega]; rfl
    · rw [decide_eq_false h', show (a : Int) / 2147483648 = 0 by omega]; rfl
  rw [show a % 8388608 = a % 2147483648 by omega] at h2
  go_enter Tryz.func80, Tryz.ntmps80
  go_wp2_with (first
    | (go_at_call 97; refine (most_any _).mono ?_; rintro e wq ⟨rfl, hq⟩; subst wq)
    | (go_at_call 98; refine (bitsof_any _).mono ?_; rintro e wq ⟨rfl, hq⟩; subst wq))
  refine bodyPost_ret (v := .agg #[.int .u8 3, .bool (sg a), .int .u64 ((a % 2147483648 : Nat) : Int), .int .i64 (-149)]) (by simp [results, Tryz.f80, go_sem]) rfl ?_
  exact ⟨rfl, _, _, _, _, _, _, rfl⟩
set_option maxRecDepth 100000 in
set_option maxHeartbeats 1000000 in
theorem open_norm (a : Nat) (w : World) (h : a < 4294967296) (hn : 8388608 ≤ a % 2147483648) (hn2 : a % 2147483648 < 2139095040) :
    Calls Tryz.prog 80 #[.agg #[.int .i64 24, .int .i64 (-149), .int .i64 104], .int .u64 a] w fun e w' => e = .returned (.agg #[.int .u8 3, .bool (sg a), .int .u64 ((8388608 + a % 8388608 : Nat) : Int), .int .i64 (-149 + ((a % 2147483648 / 8388608 - 1 : Nat) : Int))]) ∧ ∃ o0 o1 o2 o3 o4 o5, w' = ((((((w.alloc o0).alloc o1).alloc o2).alloc o3).alloc o4).alloc o5) := by
  obtain ⟨E, hE⟩ : ∃ E, a % 2147483648 / 8388608 = E + 1 := ⟨a % 2147483648 / 8388608 - 1, by omega⟩
  have h1 : bits .and .u64 ((a : Int) / 8388608) 255 = ((E + 1 : Nat) : Int) := by
    have := b64_and (a / 8388608) (by omega)
    rw [Int.natCast_ediv, show a / 8388608 % 256 = E + 1 by omega] at this
    exact this
  have hE2 : E < 254 := by omega
  rw [show a % 2147483648 / 8388608 - 1 = E by omega, show ((8388608 + a % 8388608 : Nat) : Int) = ((a % 8388608 : Nat) : Int) + 8388608 by omega]
  have hF : a % 8388608 < 8388608 := by omega
  have g1 : (((E + 1 : Nat) : Int) == 255) = false := by simp; omega
  have g2 : (((E + 1 : Nat) : Int) == 0) = false := by simp; omega
  have h2 := b64_frac a (by omega)
  have h3 : bits .and .u64 ((a : Int) / 8388608 / 256) 1 = ((a / 2147483648 : Nat) : Int) := by
    have := b64_one (a / 8388608 / 256) (by omega)
    rw [Int.natCast_ediv, Int.natCast_ediv, show a / 8388608 / 256 % 2 = a / 2147483648 by omega] at this
    exact this
  have hs : ((a : Int) / 2147483648 == 1) = sg a := by
    unfold sg
    by_cases h' : 2147483648 ≤ a
    · rw [decide_eq_true h', show (a : Int) / 2147483648 = 1 by omega]; rfl
    · rw [decide_eq_false h', show (a : Int) / 2147483648 = 0 by omega]; rfl
  generalize a % 8388608 = G at *
  go_enter Tryz.func80, Tryz.ntmps80
  go_wp2_with (first
    | (go_at_call 97; refine (most_any _).mono ?_; rintro e wq ⟨rfl, hq⟩; subst wq)
    | (go_at_call 98; refine (bitsof_any _).mono ?_; rintro e wq ⟨rfl, hq⟩; subst wq))
  refine bodyPost_ret (v := .agg #[.int .u8 3, .bool (sg a), .int .u64 ((G : Int) + 8388608), .int .i64 (-149 + (E : Int))]) (by simp [results, Tryz.f80, go_sem]; omega) rfl ?_
  exact ⟨rfl, _, _, _, _, _, _, rfl⟩
/-- a sign and a rung -/
def wrd (m : Bool) (r : Nat) : Nat := (if m then 2147483648 else 0) + r
def rdm (a : Nat) : Nat := if a % 2147483648 < 8388608 then a % 2147483648 else 8388608 + a % 8388608
def rdk (a : Nat) : Nat := if a % 2147483648 < 8388608 then 0 else a % 2147483648 / 8388608 - 1
theorem rd_rung (a : Nat) : a % 2147483648 = rdk a * 8388608 + rdm a ∧ rdm a < 16777216 ∧ (rdk a = 0 ∨ 8388608 ≤ rdm a) := by
  unfold rdm rdk
  split
  · exact ⟨by omega, by omega, Or.inl rfl⟩
  · exact ⟨by omega, by omega, Or.inr (by omega)⟩
theorem bel {a w : World} {o : Obj} (h : Below a.heap.size a w) : Below a.heap.size a (w.alloc o) := h.alloc h.size o
theorem wrd_sg (a : Nat) (h : a < 4294967296) : wrd (sg a) (a % 2147483648) = a := by
  unfold wrd sg
  by_cases h' : 2147483648 ≤ a
  · rw [decide_eq_true h']; simp; omega
  · rw [decide_eq_false h']; simp; omega
theorem take_none (a : Nat) (w : World) (h : a < 4294967296) (hn : ok a = false) :
    Calls Tryz.prog 56 #[.int .u32 a] w fun e w' => e = .returned (.agg #[.int .u8 1, .bool false, .int .u64 0, .int .i64 0]) ∧ Below w.heap.size w w' := by
  have hm : 2139095040 < a % 2147483648 := by simpa [ok] using hn
  go_enter Tryz.func56, Tryz.ntmps56
  go_wp2_with (first
    | (go_at_call 69; refine (form_any _).mono ?_; rintro e wq ⟨rfl, hq⟩; subst wq)
    | (go_at_call 80; refine (open_none _ _ h hm).mono ?_; rintro e wq ⟨rfl, o0, o1, o2, o3, o4, o5, hq⟩; subst wq))
  refine bodyPost_ret (v := .agg #[.int .u8 1, .bool false, .int .u64 0, .int .i64 0]) (by simp [results, Tryz.f56, go_sem]) rfl ?_
  exact ⟨rfl, by repeat (first | exact Below.refl _ _ | refine bel ?_)⟩
theorem take_endless (a : Nat) (w : World) (h : a < 4294967296) (hm : a % 2147483648 = 2139095040) :
    Calls Tryz.prog 56 #[.int .u32 a] w fun e w' => e = .returned (.agg #[.int .u8 2, .bool (sg a), .int .u64 0, .int .i64 0]) ∧ Below w.heap.size w w' := by
  go_enter Tryz.func56, Tryz.ntmps56
  go_wp2_with (first
    | (go_at_call 69; refine (form_any _).mono ?_; rintro e wq ⟨rfl, hq⟩; subst wq)
    | (go_at_call 80; refine (open_endless _ _ h hm).mono ?_; rintro e wq ⟨rfl, o0, o1, o2, o3, o4, o5, o6, hq⟩; subst wq))
  refine bodyPost_ret (v := .agg #[.int .u8 2, .bool (sg a), .int .u64 0, .int .i64 0]) (by simp [results, Tryz.f56, go_sem]) rfl ?_
  exact ⟨rfl, by repeat (first | exact Below.refl _ _ | refine bel ?_)⟩
theorem open_fin (a : Nat) (w : World) (h : a < 4294967296) (hm : a % 2147483648 < 2139095040) :
    Calls Tryz.prog 80 #[.agg #[.int .i64 24, .int .i64 (-149), .int .i64 104], .int .u64 a] w fun e w' => e = .returned (.agg #[.int .u8 3, .bool (sg a), .int .u64 (rdm a), .int .i64 (-149 + (rdk a : Int))]) ∧ ∃ o0 o1 o2 o3 o4 o5, w' = (((((w.alloc o0).alloc o1).alloc o2).alloc o3).alloc o4).alloc o5 := by
  unfold rdm rdk
  by_cases hs : a % 2147483648 < 8388608
  · rw [if_pos hs, if_pos hs]; exact open_small a w h hs
  · rw [if_neg hs, if_neg hs]; exact open_norm a w h (by omega) hm
theorem take_fin (a : Nat) (w : World) (h : a < 4294967296) (hm : a % 2147483648 < 2139095040) :
    Calls Tryz.prog 56 #[.int .u32 a] w fun e w' => e = .returned (.agg #[.int .u8 3, .bool (sg a), .int .u64 (rdm a), .int .i64 (-149 + (rdk a : Int))]) ∧ Below w.heap.size w w' := by
  go_enter Tryz.func56, Tryz.ntmps56
  go_wp2_with (first
    | (go_at_call 69; refine (form_any _).mono ?_; rintro e wq ⟨rfl, hq⟩; subst wq)
    | (go_at_call 80; refine (open_fin _ _ h hm).mono ?_; rintro e wq ⟨rfl, o0, o1, o2, o3, o4, o5, hq⟩; subst wq))
  refine bodyPost_ret (v := .agg #[.int .u8 3, .bool (sg a), .int .u64 (rdm a), .int .i64 (-149 + (rdk a : Int))]) (by simp [results, Tryz.f56, go_sem]) rfl ?_
  exact ⟨rfl, by repeat (first | exact Below.refl _ _ | refine bel ?_)⟩

/-! a value laid down -/
theorem b64_or (i x y : Nat) (hx : x % 2 ^ i = 0) (hy : y < 2 ^ i) (h : x + y < 18446744073709551616) : bits .or .u64 (x : Int) (y : Int) = ((x + y : Nat) : Int) := by
  have := u64_or_nat x y (by omega) (by omega)
  rwa [nat_join i x y hx hy] at this
end Go.Proofs.YtjggbdlmghembaaGreat
namespace Go.Proofs.YtjggbdlmghembaaGreat
open Go.RowKit
set_option maxRecDepth 100000

set_option maxRecDepth 100000 in
set_option maxHeartbeats 1000000 in
theorem shut_none (o1 : bits .or .u64 2139095040 4194304 = 2143289344) (w : World) :
    Calls Tryz.prog 83 #[.agg #[.int .i64 24, .int .i64 (-149), .int .i64 104], .agg #[.int .u8 1, .bool false, .int .u64 0, .int .i64 0]] w fun e w' => e = .returned (.int .u64 2143289344) ∧ Below w.heap.size w w' := by
  go_enter Tryz.func83, Tryz.ntmps83
  go_wp2_with (first
    | (go_at_call 97; refine (most_any _).mono ?_; rintro e wq ⟨rfl, hq⟩; subst wq)
    | (go_at_call 98; refine (bitsof_any _).mono ?_; rintro e wq ⟨rfl, hq⟩; subst wq))
  go_ret
  exact ⟨rfl, by repeat (first | exact Below.refl _ _ | refine bel ?_)⟩
set_option maxRecDepth 100000 in
set_option maxHeartbeats 1000000 in
theorem shut_endless0 (X : Int) (o1 : bits .or .u64 0 2139095040 = X) (w : World) :
    Calls Tryz.prog 83 #[.agg #[.int .i64 24, .int .i64 (-149), .int .i64 104], .agg #[.int .u8 2, .bool false, .int .u64 0, .int .i64 0]] w fun e w' => e = .returned (.int .u64 X) ∧ Below w.heap.size w w' := by
  go_enter Tryz.func83, Tryz.ntmps83
  go_wp2_with (first
    | (go_at_call 97; refine (most_any _).mono ?_; rintro e wq ⟨rfl, hq⟩; subst wq)
    | (go_at_call 98; refine (bitsof_any _).mono ?_; rintro e wq ⟨rfl, hq⟩; subst wq))
  go_ret
  exact ⟨rfl, by repeat (first | exact Below.refl _ _ | refine bel ?_)⟩
set_option maxRecDepth 100000 in
set_option maxHeartbeats 1000000 in
theorem shut_small0 (n : Nat) (p : Int) (h : (n : Int) < 8388608) (X : Int) (o1 : bits .or .u64 0 (n : Int) = X) (w : World) :
    Calls Tryz.prog 83 #[.agg #[.int .i64 24, .int .i64 (-149), .int .i64 104], .agg #[.int .u8 3, .bool false, .int .u64 n, .int .i64 p]] w fun e w' => e = .returned (.int .u64 X) ∧ Below w.heap.size w w' := by
  go_enter Tryz.func83, Tryz.ntmps83
  go_wp2_with (first
    | (go_at_call 97; refine (most_any _).mono ?_; rintro e wq ⟨rfl, hq⟩; subst wq)
    | (go_at_call 98; refine (bitsof_any _).mono ?_; rintro e wq ⟨rfl, hq⟩; subst wq))
  go_ret
  exact ⟨rfl, by repeat (first | exact Below.refl _ _ | refine bel ?_)⟩
set_option maxRecDepth 100000 in
set_option maxHeartbeats 1000000 in
theorem shut_norm0 (g k : Nat) (h : g < 8388608) (hk : k < 254) (g1 : decide ((g : Int) + 8388608 < 8388608) = false) (X Y : Int) (o1 : bits .or .u64 0 ((-149 + (k : Int) + 149 + 1) * 8388608) = Y) (o2 : bits .or .u64 Y (g : Int) = X) (w : World) :
    Calls Tryz.prog 83 #[.agg #[.int .i64 24, .int .i64 (-149), .int .i64 104], .agg #[.int .u8 3, .bool false, .int .u64 ((g : Int) + 8388608), .int .i64 (-149 + (k : Int))]] w fun e w' => e = .returned (.int .u64 X) ∧ Below w.heap.size w w' := by
  go_enter Tryz.func83, Tryz.ntmps83
  go_wp2_with (first
    | (go_at_call 97; refine (most_any _).mono ?_; rintro e wq ⟨rfl, hq⟩; subst wq)
    | (go_at_call 98; refine (bitsof_any _).mono ?_; rintro e wq ⟨rfl, hq⟩; subst wq))
  go_ret
  exact ⟨rfl, by repeat (first | exact Below.refl _ _ | refine bel ?_)⟩
set_option maxRecDepth 100000 in
set_option maxHeartbeats 1000000 in
theorem shut_endless1 (X : Int) (o1 : bits .or .u64 2147483648 2139095040 = X) (w : World) :
    Calls Tryz.prog 83 #[.agg #[.int .i64 24, .int .i64 (-149), .int .i64 104], .agg #[.int .u8 2, .bool true, .int .u64 0, .int .i64 0]] w fun e w' => e = .returned (.int .u64 X) ∧ Below w.heap.size w w' := by
  go_enter Tryz.func83, Tryz.ntmps83
  go_wp2_with (first
    | (go_at_call 97; refine (most_any _).mono ?_; rintro e wq ⟨rfl, hq⟩; subst wq)
    | (go_at_call 98; refine (bitsof_any _).mono ?_; rintro e wq ⟨rfl, hq⟩; subst wq))
  go_ret
  exact ⟨rfl, by repeat (first | exact Below.refl _ _ | refine bel ?_)⟩
set_option maxRecDepth 100000 in
set_option maxHeartbeats 1000000 in
theorem shut_small1 (n : Nat) (p : Int) (h : (n : Int) < 8388608) (X : Int) (o1 : bits .or .u64 2147483648 (n : Int) = X) (w : World) :
    Calls Tryz.prog 83 #[.agg #[.int .i64 24, .int .i64 (-149), .int .i64 104], .agg #[.int .u8 3, .bool true, .int .u64 n, .int .i64 p]] w fun e w' => e = .returned (.int .u64 X) ∧ Below w.heap.size w w' := by
  go_enter Tryz.func83, Tryz.ntmps83
  go_wp2_with (first
    | (go_at_call 97; refine (most_any _).mono ?_; rintro e wq ⟨rfl, hq⟩; subst wq)
    | (go_at_call 98; refine (bitsof_any _).mono ?_; rintro e wq ⟨rfl, hq⟩; subst wq))
  go_ret
  exact ⟨rfl, by repeat (first | exact Below.refl _ _ | refine bel ?_)⟩
set_option maxRecDepth 100000 in
set_option maxHeartbeats 1000000 in
theorem shut_norm1 (g k : Nat) (h : g < 8388608) (hk : k < 254) (g1 : decide ((g : Int) + 8388608 < 8388608) = false) (X Y : Int) (o1 : bits .or .u64 2147483648 ((-149 + (k : Int) + 149 + 1) * 8388608) = Y) (o2 : bits .or .u64 Y (g : Int) = X) (w : World) :
    Calls Tryz.prog 83 #[.agg #[.int .i64 24, .int .i64 (-149), .int .i64 104], .agg #[.int .u8 3, .bool true, .int .u64 ((g : Int) + 8388608), .int .i64 (-149 + (k : Int))]] w fun e w' => e = .returned (.int .u64 X) ∧ Below w.heap.size w w' := by
  go_enter Tryz.func83, Tryz.ntmps83
  go_wp2_with (first
    | (go_at_call 97; refine (most_any _).mono ?_; rintro e wq ⟨rfl, hq⟩; subst wq)
    | (go_at_call 98; refine (bitsof_any _).mono ?_; rintro e wq ⟨rfl, hq⟩; subst wq))
  go_ret
  exact ⟨rfl, by repeat (first | exact Below.refl _ _ | refine bel ?_)⟩
theorem lay_of (v : Value) (r : Nat) (w : World) (hr : r < 4294967296) (hs : ∀ w, Calls Tryz.prog 83 #[.agg #[.int .i64 24, .int .i64 (-149), .int .i64 104], v] w fun e w' => e = .returned (.int .u64 (r : Int)) ∧ Below w.heap.size w w') (hv : ∃ s m n p, v = .agg #[.int .u8 s, .bool m, .int .u64 n, .int .i64 p]) :
    Calls Tryz.prog 67 #[v] w fun e w' => e = .returned (.int .u32 (r : Int)) ∧ Below w.heap.size w w' := by
  obtain ⟨s, m, n, p, rfl⟩ := hv
  have hw : IntKind.u32.wrap (r : Int) = (r : Int) := by rw [IntKind.wrap_u32']; omega
  go_enter Tryz.func67, Tryz.ntmps67
  go_wp2
  go_region_with (first
    | (go_at_call 69; refine (form_any _).mono ?_; rintro e wq ⟨rfl, hq⟩; subst wq)
    | (go_at_call 83; refine (hs _).mono ?_; rintro e wq ⟨rfl, hq⟩))
  all_goals go_wp2
  all_goals go_ret
  all_goals exact ⟨by first | rfl | (rw [← hw]; rfl), Below.trans (by repeat (first | exact Below.refl _ _ | refine bel ?_ | refine Below.drew ?_)) (hq.mono (by simp; omega))⟩
theorem wrd_lt (m : Bool) (r : Nat) (h : r < 2147483648) : wrd m r < 4294967296 := by
  unfold wrd; split <;> omega
theorem kg_lt {k g : Nat} (hk : k < 254) (hg : g < 8388608) : k * 8388608 + (g + 8388608) < 2147483648 := by omega
theorem kg1 {k g : Nat} (hk : k < 254) (hg : g < 8388608) : (k + 1) * 8388608 % 2 ^ 23 = 0 ∧ g < 2 ^ 23 ∧ (k + 1) * 8388608 + g < 18446744073709551616 ∧ (2147483648 + (k + 1) * 8388608) % 2 ^ 23 = 0 ∧ 2147483648 + (k + 1) * 8388608 + g < 18446744073709551616 := by omega
theorem kg2 {k : Nat} (hk : k < 254) : (k + 1) * 8388608 < 2 ^ 31 ∧ 0 + (k + 1) * 8388608 < 18446744073709551616 ∧ 2147483648 + (k + 1) * 8388608 < 18446744073709551616 := by omega
theorem kg3 (k g : Nat) : (k + 1) * 8388608 + g = wrd false (k * 8388608 + (g + 8388608)) := by
  show _ = 0 + (k * 8388608 + (g + 8388608)); omega
theorem kg4 (k g : Nat) : 2147483648 + (k + 1) * 8388608 + g = wrd true (k * 8388608 + (g + 8388608)) := by
  show _ = 2147483648 + (k * 8388608 + (g + 8388608)); omega
theorem lay_none (w : World) :
    Calls Tryz.prog 67 #[.agg #[.int .u8 1, .bool false, .int .u64 0, .int .i64 0]] w fun e w' => e = .returned (.int .u32 2143289344) ∧ Below w.heap.size w w' :=
  lay_of _ 2143289344 w (by decide) (fun w => shut_none (b64_or 23 2139095040 4194304 (by decide) (by decide) (by decide)) w) ⟨_, _, _, _, rfl⟩
theorem lay_endless (m : Bool) (w : World) :
    Calls Tryz.prog 67 #[.agg #[.int .u8 2, .bool m, .int .u64 0, .int .i64 0]] w fun e w' => e = .returned (.int .u32 (wrd m 2139095040 : Nat)) ∧ Below w.heap.size w w' := by
  cases m
  · exact lay_of _ 2139095040 w (by decide) (fun w => shut_endless0 _ (b64_or 31 0 2139095040 (by decide) (by decide) (by decide)) w) ⟨_, _, _, _, rfl⟩
  · exact lay_of _ 4286578688 w (by decide) (fun w => shut_endless1 _ (b64_or 31 2147483648 2139095040 (by decide) (by decide) (by decide)) w) ⟨_, _, _, _, rfl⟩
/-- a finite one: its rung -/
theorem lay_fin (m : Bool) (n k : Nat) (w : World) (hn : n < 16777216) (hk : k < 254) (hnk : k = 0 ∨ 8388608 ≤ n) :
    Calls Tryz.prog 67 #[.agg #[.int .u8 3, .bool m, .int .u64 n, .int .i64 (-149 + (k : Int))]] w fun e w' => e = .returned (.int .u32 (wrd m (k * 8388608 + n) : Nat)) ∧ Below w.heap.size w w' := by
  by_cases hs : n < 8388608
  · have hk0 : k = 0 := by omega
    subst hk0
    rw [Nat.zero_mul, Nat.zero_add]
    cases m
    · refine lay_of _ (wrd false n) w (wrd_lt _ _ (by omega)) (fun w => shut_small0 n _ (by omega) _ ?_ w) ⟨_, _, _, _, rfl⟩
      exact b64_or 31 0 n (by decide) (by omega) (by omega)
    · refine lay_of _ (wrd true n) w (wrd_lt _ _ (by omega)) (fun w => shut_small1 n _ (by omega) _ ?_ w) ⟨_, _, _, _, rfl⟩
      exact b64_or 31 2147483648 n (by decide) (by omega) (by omega)
  · obtain ⟨g, rfl⟩ : ∃ g, n = g + 8388608 := ⟨n - 8388608, by omega⟩
    have hg : g < 8388608 := by omega
    have e : (-149 + (k : Int) + 149 + 1) * 8388608 = (((k + 1) * 8388608 : Nat) : Int) := by omega
    have e2 : ((g + 8388608 : Nat) : Int) = (g : Int) + 8388608 := by omega
    rw [e2]
    cases m
    · refine lay_of _ (wrd false (k * 8388608 + (g + 8388608))) w (wrd_lt _ _ (kg_lt hk hg)) (fun w => shut_norm0 g k hg hk (decide_eq_false (by omega)) _ (((k + 1) * 8388608 : Nat) : Int) ?_ ?_ w) ⟨_, _, _, _, rfl⟩
      · rw [e]
        have := b64_or 31 0 ((k + 1) * 8388608) (by decide) (kg2 hk).1 (kg2 hk).2.1
        rwa [Nat.zero_add] at this
      · have := b64_or 23 ((k + 1) * 8388608) g (kg1 hk hg).1 (kg1 hk hg).2.1 (kg1 hk hg).2.2.1
        rw [this]; exact congrArg Nat.cast (kg3 k g)
    · refine lay_of _ (wrd true (k * 8388608 + (g + 8388608))) w (wrd_lt _ _ (kg_lt hk hg)) (fun w => shut_norm1 g k hg hk (decide_eq_false (by omega)) _ ((2147483648 + (k + 1) * 8388608 : Nat) : Int) ?_ ?_ w) ⟨_, _, _, _, rfl⟩
      · rw [e]
        exact b64_or 31 2147483648 ((k + 1) * 8388608) (by decide) (kg2 hk).1 (kg2 hk).2.2
      · have := b64_or 23 (2147483648 + (k + 1) * 8388608) g (kg1 hk hg).2.2.2.1 (kg1 hk hg).2.1 (kg1 hk hg).2.2.2.2
        rw [this]; exact congrArg Nat.cast (kg4 k g)
end Go.Proofs.YtjggbdlmghembaaGreat
