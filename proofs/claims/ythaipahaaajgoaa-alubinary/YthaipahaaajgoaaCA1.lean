import Derived.Test.YthaipahaaajgoaaCA0
import Derived.Laws.StructEq
import Derived.Deep.RegionWith
import Derived.Test.YthaipahaaajgoaaRows
import Derived.WalkKit
import Derived.WalkLawsBesides
import Derived.Laws.BitsAllLaws
import Derived.Deep.QuietTactic
import Derived.BigQuiet
import Derived.WalkSmall
import Derived.Laws.AppendOwn
namespace Go.Proofs.Ythaipahaaajgoaa
open Go.RowKit

@[go_sem] theorem bV1 (s : Int) (w : World) : (Instr.build 41 #[(0, .int .u8 s)]).run Try.prog w = .ok (.agg #[.int .u8 s, .bool false, .int .u64 0, .int .i64 0]) w := run_build w 41 _ _ (by kernel_rfl)
@[go_sem] theorem bV2 (s : Int) (m : Bool) (w : World) : (Instr.build 41 #[(0, .int .u8 s), (1, .bool m)]).run Try.prog w = .ok (.agg #[.int .u8 s, .bool m, .int .u64 0, .int .i64 0]) w := run_build w 41 _ _ (by kernel_rfl)
@[go_sem] theorem bV4 (s : Int) (m : Bool) (n p : Int) (w : World) : (Instr.build 41 #[(0, .int .u8 s), (1, .bool m), (2, .int .u64 n), (3, .int .i64 p)]).run Try.prog w = .ok (.agg #[.int .u8 s, .bool m, .int .u64 n, .int .i64 p]) w := run_build w 41 _ _ (by kernel_rfl)
@[go_sem] theorem bF3 (a b c : Int) (w : World) : (Instr.build 44 #[(0, .int .i64 a), (1, .int .i64 b), (2, .int .i64 c)]).run Try.prog w = .ok (.agg #[.int .i64 a, .int .i64 b, .int .i64 c]) w := run_build w 44 _ _ (by kernel_rfl)

theorem form_any (w : World) :
    Calls Try.prog 30 #[] w fun e w' => e = .returned (.agg #[.int .i64 24, .int .i64 (-149), .int .i64 104]) ∧ w' = w.alloc (.cells #[.int .i64 24, .int .i64 (-149), .int .i64 104] 44) := by
  go_enter Try.func30, Try.ntmps30
  go_wp2
  refine bodyPost_ret (v := .agg #[.int .i64 24, .int .i64 (-149), .int .i64 104]) (by simp [results, Try.f30, go_sem]) rfl ?_
  exact ⟨rfl, rfl⟩
theorem vnone_any (w : World) :
    Calls Try.prog 36 #[] w fun e w' => e = .returned (.agg #[.int .u8 1, .bool false, .int .u64 0, .int .i64 0]) ∧ w' = w.alloc (.cells #[.int .u8 1, .bool false, .int .u64 0, .int .i64 0] 41) := by
  go_enter Try.func36, Try.ntmps36
  go_wp2
  refine bodyPost_ret (v := .agg #[.int .u8 1, .bool false, .int .u64 0, .int .i64 0]) (by simp [results, Try.f36, go_sem]) rfl ?_
  exact ⟨rfl, rfl⟩
theorem vendless_any (m : Bool) (w : World) :
    Calls Try.prog 46 #[.bool m] w fun e w' => e = .returned (.agg #[.int .u8 2, .bool m, .int .u64 0, .int .i64 0]) ∧ w' = w.alloc (.cells #[.int .u8 2, .bool m, .int .u64 0, .int .i64 0] 41) := by
  go_enter Try.func46, Try.ntmps46
  go_wp2
  refine bodyPost_ret (v := .agg #[.int .u8 2, .bool m, .int .u64 0, .int .i64 0]) (by simp [results, Try.f46, go_sem]) rfl ?_
  exact ⟨rfl, rfl⟩
theorem most_any (w : World) :
    Calls Try.prog 50 #[.agg #[.int .i64 24, .int .i64 (-149), .int .i64 104]] w fun e w' => e = .returned (.int .i64 255) ∧ w' = w.alloc (.cells #[.int .i64 24, .int .i64 (-149), .int .i64 104] 44) := by
  go_enter Try.func50, Try.ntmps50
  go_wp2
  go_ret
  exact ⟨rfl, rfl⟩
theorem bitsof_any (w : World) :
    Calls Try.prog 49 #[.int .i64 255] w fun e w' => e = .returned (.int .i64 8) ∧ w' = w := by
  go_enter Try.func49, Try.ntmps49
  go_wp2
  go_loop [0, 3] (fun x n => ∃ k : Nat, k ≤ 8 ∧ x = .int .i64 ((255 / 2 ^ k : Nat) : Int) ∧ n = .int .i64 (k : Int)) (fun _ n => 8 - (intOf n).toNat)
  case atStart => exact ⟨0, by decide, rfl, rfl⟩
  case round =>
    obtain ⟨k, hk, rfl, rfl⟩ := hrel
    have : k = 0 ∨ k = 1 ∨ k = 2 ∨ k = 3 ∨ k = 4 ∨ k = 5 ∨ k = 6 ∨ k = 7 ∨ k = 8 := by omega
    rcases this with rfl | rfl | rfl | rfl | rfl | rfl | rfl | rfl | rfl
    iterate 8
      · go_wp2
        go_round
        case rel => exact ⟨_, by decide, rfl, rfl⟩
        case measure => decide
    · go_wp2
      go_ret
      exact ⟨rfl, rfl⟩
theorem b64_and (n : Nat) (h : n < 18446744073709551616) : bits .and .u64 (n : Int) 255 = ((n % 256 : Nat) : Int) := by
  have := u64_and_nat n 255 h (by omega)
  rw [show n &&& 255 = n % 256 from Nat.and_two_pow_sub_one_eq_mod n 8] at this
  exact this
theorem b64_frac (n : Nat) (h : n < 18446744073709551616) : bits .and .u64 (n : Int) 8388607 = ((n % 8388608 : Nat) : Int) := by
  have := u64_and_nat n 8388607 h (by omega)
  rw [show n &&& 8388607 = n % 8388608 from Nat.and_two_pow_sub_one_eq_mod n 23] at this
  exact this
theorem b64_one (n : Nat) (h : n < 18446744073709551616) : bits .and .u64 (n : Int) 1 = ((n % 2 : Nat) : Int) := by
  have := u64_and_nat n 1 h (by omega)
  rw [show n &&& 1 = n % 2 from Nat.and_two_pow_sub_one_eq_mod n 1] at this
  exact this
/-- the sign -/
def sg (a : Nat) : Bool := decide (2147483648 ≤ a)
set_option maxRecDepth 100000 in
set_option maxHeartbeats 1000000 in
theorem open_none (a : Nat) (w : World) (h : a < 4294967296) (hn : 2139095040 < a % 2147483648) :
    Calls Try.prog 44 #[.agg #[.int .i64 24, .int .i64 (-149), .int .i64 104], .int .u64 a] w fun e w' => e = .returned (.agg #[.int .u8 1, .bool false, .int .u64 0, .int .i64 0]) ∧ ∃ o0 o1 o2 o3 o4 o5, w' = ((((((w.alloc o0).alloc o1).alloc o2).alloc o3).alloc o4).alloc o5) := by
  have h1 : bits .and .u64 ((a : Int) / 8388608) 255 = 255 := by
    have := b64_and (a / 8388608) (by omega)
    rw [Int.natCast_ediv, show a / 8388608 % 256 = 255 by omega] at this
    exact this
  have h2 := b64_frac a (by omega)
  have h3 : bits .and .u64 ((a : Int) / 8388608 / 256) 1 = ((a / 2147483648 : Nat) : Int) := by
    have := b64_one (a / 8388608 / 256) (by omega)
    rw [Int.natCast_ediv, Int.natCast_ediv, show a / 8388608 / 256 % 2 = a / 2147483648 by omega] at this
    exact this
  have hs : ((a : Int) / 2147483648 == 1) = sg a := by
    unfold sg
    by_cases h' : 2147483648 ≤ a
    · rw [decide_eq_true h', show (a : Int) / 2147483648 = 1 by omega]; rfl
    · rw [decide_eq_false h', show (a : Int) / 2147483648 = 0 by omega]; rfl
  have g1 : (((a % 8388608 : Nat) : Int) != 0) = true := by simp; omega
  go_enter Try.func44, Try.ntmps44
  go_wp2_with (first
    | (go_at_call 50; refine (most_any _).mono ?_; rintro e wq ⟨rfl, hq⟩; subst wq)
    | (go_at_call 49; refine (bitsof_any _).mono ?_; rintro e wq ⟨rfl, hq⟩; subst wq)
    | (go_at_call 36; refine (vnone_any _).mono ?_; rintro e wq ⟨rfl, hq⟩; subst wq))
  refine bodyPost_ret (v := .agg #[.int .u8 1, .bool false, .int .u64 0, .int .i64 0]) (by simp [results, Try.f44, go_sem]) rfl ?_
  exact ⟨rfl, _, _, _, _, _, _, rfl⟩
set_option maxRecDepth 100000 in
set_option maxHeartbeats 1000000 in
theorem open_endless (a : Nat) (w : World) (h : a < 4294967296) (hn : a % 2147483648 = 2139095040) :
    Calls Try.prog 44 #[.agg #[.int .i64 24, .int .i64 (-149), .int .i64 104], .int .u64 a] w fun e w' => e = .returned (.agg #[.int .u8 2, .bool (sg a), .int .u64 0, .int .i64 0]) ∧ ∃ o0 o1 o2 o3 o4 o5 o6, w' = (((((((w.alloc o0).alloc o1).alloc o2).alloc o3).alloc o4).alloc o5).alloc o6) := by
  have h1 : bits .and .u64 ((a : Int) / 8388608) 255 = 255 := by
    have := b64_and (a / 8388608) (by omega)
    rw [Int.natCast_ediv, show a / 8388608 % 256 = 255 by omega] at this
    exact this
  have h2 := b64_frac a (by omega)
  have h3 : bits .and .u64 ((a : Int) / 8388608 / 256) 1 = ((a / 2147483648 : Nat) : Int) := by
    have := b64_one (a / 8388608 / 256) (by omega)
    rw [Int.natCast_ediv, Int.natCast_ediv, show a / 8388608 / 256 % 2 = a / 2147483648 by omega] at this
    exact this
  have hs : ((a : Int) / 2147483648 == 1) = sg a := by
    unfold sg
    by_cases h' : 2147483648 ≤ a
    · rw [decide_eq_true h', show (a : Int) / 2147483648 = 1 by omega]; rfl
    · rw [decide_eq_false h', show (a : Int) / 2147483648 = 0 by omega]; rfl
  rw [show a % 8388608 = 0 by omega] at h2
  go_enter Try.func44, Try.ntmps44
  go_wp2_with (first
    | (go_at_call 50; refine (most_any _).mono ?_; rintro e wq ⟨rfl, hq⟩; subst wq)
    | (go_at_call 49; refine (bitsof_any _).mono ?_; rintro e wq ⟨rfl, hq⟩; subst wq)
    | (go_at_call 46; refine (vendless_any _ _).mono ?_; rintro e wq ⟨rfl, hq⟩; subst wq))
  refine bodyPost_ret (v := .agg #[.int .u8 2, .bool (sg a), .int .u64 0, .int .i64 0]) (by simp [results, Try.f44, go_sem]) rfl ?_
  exact ⟨rfl, _, _, _, _, _, _, _, rfl⟩
set_option maxRecDepth 100000 in
set_option maxHeartbeats 1000000 in
theorem open_small (a : Nat) (w : World) (h : a < 4294967296) (hn : a % 2147483648 < 8388608) :
    Calls Try.prog 44 #[.agg #[.int .i64 24, .int .i64 (-149), .int .i64 104], .int .u64 a] w fun e w' => e = .returned (.agg #[.int .u8 3, .bool (sg a), .int .u64 ((a % 2147483648 : Nat) : Int), .int .i64 (-149)]) ∧ ∃ o0 o1 o2 o3 o4 o5, w' = ((((((w.alloc o0).alloc o1).alloc o2).alloc o3).alloc o4).alloc o5) := by
  have h1 : bits .and .u64 ((a : Int) / 8388608) 255 = 0 := by
    have := b64_and (a / 8388608) (by omega)
    rw [Int.natCast_ediv, show a / 8388608 % 256 = 0 by omega] at this
    exact this
  have h2 := b64_frac a (by omega)
  have h3 : bits .and .u64 ((a : Int) / 8388608 / 256) 1 = ((a / 2147483648 : Nat) : Int) := by
    have := b64_one (a / 8388608 / 256) (by omega)
    rw [Int.natCast_ediv, Int.natCast_ediv, show a / 8388608 / 256 % 2 = a / 2147483648 by omega] at this
    exact this
  have hs : ((a : Int) / 2147483648 == 1) = sg a := by
    unfold sg
    by_cases h' : 2147483648 ≤ a
    · rw [decide_eq_true h', show (a : Int) / 2147483648 = 1 by omega]; rfl
    · rw [decide_eq_false h', show (a : Int) / 2147483648 = 0 by omega]; rfl
  rw [show a % 8388608 = a % 2147483648 by omega] at h2
  go_enter Try.func44, Try.ntmps44
  go_wp2_with (first
    | (go_at_call 50; refine (most_any _).mono ?_; rintro e wq ⟨rfl, hq⟩; subst wq)
    | (go_at_call 49; refine (bitsof_any _).mono ?_; rintro e wq ⟨rfl, hq⟩; subst wq))
  refine bodyPost_ret (v := .agg #[.int .u8 3, .bool (sg a), .int .u64 ((a % 2147483648 : Nat) : Int), .int .i64 (-149)]) (by simp [results, Try.f44, go_sem]) rfl ?_
  exact ⟨rfl, _, _, _, _, _, _, rfl⟩
set_option maxRecDepth 100000 in
set_option maxHeartbeats 1000000 in
theorem open_norm (a : Nat) (w : World) (h : a < 4294967296) (hn : 8388608 ≤ a % 2147483648) (hn2 : a % 2147483648 < 2139095040) :
    Calls Try.prog 44 #[.agg #[.int .i64 24, .int .i64 (-149), .int .i64 104], .int .u64 a] w fun e w' => e = .returned (.agg #[.int .u8 3, .bool (sg a), .int .u64 ((8388608 + a % 8388608 : Nat) : Int), .int .i64 (-149 + ((a % 2147483648 / 8388608 - 1 : Nat) : Int))]) ∧ ∃ o0 o1 o2 o3 o4 o5, w' = ((((((w.alloc o0).alloc o1).alloc o2).alloc o3).alloc o4).alloc o5) := by
  obtain ⟨E, hE⟩ : ∃ E, a % 2147483648 / 8388608 = E + 1 := ⟨a % 2147483648 / 8388608 - 1, by omega⟩
  have h1 : bits .and .u64 ((a : Int) / 8388608) 255 = ((E + 1 : Nat) : Int) := by
    have := b64_and (a / 8388608) (by omega)
    rw [Int.natCast_ediv, show a / 8388608 % 256 = E + 1 by omega] at this
    exact this
  have hE2 : E < 254 := by omega
  rw [show a % 2147483648 / 8388608 - 1 = E by omega, show ((8388608 + a % 8388608 : Nat) : Int) = ((a % 8388608 : Nat) : Int) + 8388608 by omega]
  have hF : a % 8388608 < 8388608 := by omega
  have g1 : (((E + 1 : Nat) : Int) == 255) = false := by simp; omega
  have g2 : (((E + 1 : Nat) : Int) == 0) = false := by simp; omega
  have h2 := b64_frac a (by omega)
  have h3 : bits .and .u64 ((a : Int) / 8388608 / 256) 1 = ((a / 2147483648 : Nat) : Int) := by
    have := b64_one (a / 8388608 / 256) (by omega)
    rw [Int.natCast_ediv, Int.natCast_ediv, show a / 8388608 / 256 % 2 = a / 2147483648 by omega] at this
    exact this
  have hs : ((a : Int) / 2147483648 == 1) = sg a := by
    unfold sg
    by_cases h' : 2147483648 ≤ a
    · rw [decide_eq_true h', show (a : Int) / 2147483648 = 1 by omega]; rfl
    · rw [decide_eq_false h', show (a : Int) / 2147483648 = 0 by omega]; rfl
  generalize a % 8388608 = G at *
  go_enter Try.func44, Try.ntmps44
  go_wp2_with (first
    | (go_at_call 50; refine (most_any _).mono ?_; rintro e wq ⟨rfl, hq⟩; subst wq)
    | (go_at_call 49; refine (bitsof_any _).mono ?_; rintro e wq ⟨rfl, hq⟩; subst wq))
  refine bodyPost_ret (v := .agg #[.int .u8 3, .bool (sg a), .int .u64 ((G : Int) + 8388608), .int .i64 (-149 + (E : Int))]) (by simp [results, Try.f44, go_sem]; omega) rfl ?_
  exact ⟨rfl, _, _, _, _, _, _, rfl⟩
/-- a sign and a rung -/
def wrd (m : Bool) (r : Nat) : Nat := (if m then 2147483648 else 0) + r
def rdm (a : Nat) : Nat := if a % 2147483648 < 8388608 then a % 2147483648 else 8388608 + a % 8388608
def rdk (a : Nat) : Nat := if a % 2147483648 < 8388608 then 0 else a % 2147483648 / 8388608 - 1
theorem rd_rung (a : Nat) : a % 2147483648 = rdk a * 8388608 + rdm a ∧ rdm a < 16777216 ∧ (rdk a = 0 ∨ 8388608 ≤ rdm a) := by
  unfold rdm rdk
  split
  · exact ⟨by omega, by omega, Or.inl rfl⟩
  · exact ⟨by omega, by omega, Or.inr (by omega)⟩
theorem bel {a w : World} {o : Obj} (h : Below a.heap.size a w) : Below a.heap.size a (w.alloc o) := h.alloc h.size o
theorem wrd_sg (a : Nat) (h : a < 4294967296) : wrd (sg a) (a % 2147483648) = a := by
  unfold wrd sg
  by_cases h' : 2147483648 ≤ a
  · rw [decide_eq_true h']; simp; omega
  · rw [decide_eq_false h']; simp; omega
theorem take_none (a : Nat) (w : World) (h : a < 4294967296) (hn : ok a = false) :
    Calls Try.prog 31 #[.int .u32 a] w fun e w' => e = .returned (.agg #[.int .u8 1, .bool false, .int .u64 0, .int .i64 0]) ∧ Below w.heap.size w w' := by
  have hm : 2139095040 < a % 2147483648 := by simpa [ok] using hn
  go_enter Try.func31, Try.ntmps31
  go_wp2_with (first
    | (go_at_call 30; refine (form_any _).mono ?_; rintro e wq ⟨rfl, hq⟩; subst wq)
    | (go_at_call 44; refine (open_none _ _ h hm).mono ?_; rintro e wq ⟨rfl, o0, o1, o2, o3, o4, o5, hq⟩; subst wq))
  refine bodyPost_ret (v := .agg #[.int .u8 1, .bool false, .int .u64 0, .int .i64 0]) (by simp [results, Try.f31, go_sem]) rfl ?_
  exact ⟨rfl, by repeat (first | exact Below.refl _ _ | refine bel ?_)⟩
theorem take_endless (a : Nat) (w : World) (h : a < 4294967296) (hm : a % 2147483648 = 2139095040) :
    Calls Try.prog 31 #[.int .u32 a] w fun e w' => e = .returned (.agg #[.int .u8 2, .bool (sg a), .int .u64 0, .int .i64 0]) ∧ Below w.heap.size w w' := by
  go_enter Try.func31, Try.ntmps31
  go_wp2_with (first
    | (go_at_call 30; refine (form_any _).mono ?_; rintro e wq ⟨rfl, hq⟩; subst wq)
    | (go_at_call 44; refine (open_endless _ _ h hm).mono ?_; rintro e wq ⟨rfl, o0, o1, o2, o3, o4, o5, o6, hq⟩; subst wq))
  refine bodyPost_ret (v := .agg #[.int .u8 2, .bool (sg a), .int .u64 0, .int .i64 0]) (by simp [results, Try.f31, go_sem]) rfl ?_
  exact ⟨rfl, by repeat (first | exact Below.refl _ _ | refine bel ?_)⟩
theorem open_fin (a : Nat) (w : World) (h : a < 4294967296) (hm : a % 2147483648 < 2139095040) :
    Calls Try.prog 44 #[.agg #[.int .i64 24, .int .i64 (-149), .int .i64 104], .int .u64 a] w fun e w' => e = .returned (.agg #[.int .u8 3, .bool (sg a), .int .u64 (rdm a), .int .i64 (-149 + (rdk a : Int))]) ∧ ∃ o0 o1 o2 o3 o4 o5, w' = (((((w.alloc o0).alloc o1).alloc o2).alloc o3).alloc o4).alloc o5 := by
  unfold rdm rdk
  by_cases hs : a % 2147483648 < 8388608
  · rw [if_pos hs, if_pos hs]; exact open_small a w h hs
  · rw [if_neg hs, if_neg hs]; exact open_norm a w h (by omega) hm
theorem take_fin (a : Nat) (w : World) (h : a < 4294967296) (hm : a % 2147483648 < 2139095040) :
    Calls Try.prog 31 #[.int .u32 a] w fun e w' => e = .returned (.agg #[.int .u8 3, .bool (sg a), .int .u64 (rdm a), .int .i64 (-149 + (rdk a : Int))]) ∧ Below w.heap.size w w' := by
  go_enter Try.func31, Try.ntmps31
  go_wp2_with (first
    | (go_at_call 30; refine (form_any _).mono ?_; rintro e wq ⟨rfl, hq⟩; subst wq)
    | (go_at_call 44; refine (open_fin _ _ h hm).mono ?_; rintro e wq ⟨rfl, o0, o1, o2, o3, o4, o5, hq⟩; subst wq))
  refine bodyPost_ret (v := .agg #[.int .u8 3, .bool (sg a), .int .u64 (rdm a), .int .i64 (-149 + (rdk a : Int))]) (by simp [results, Try.f31, go_sem]) rfl ?_
  exact ⟨rfl, by repeat (first | exact Below.refl _ _ | refine bel ?_)⟩

/-! a value laid down -/
theorem b64_or (i x y : Nat) (hx : x % 2 ^ i = 0) (hy : y < 2 ^ i) (h : x + y < 18446744073709551616) : bits .or .u64 (x : Int) (y : Int) = ((x + y : Nat) : Int) := by
  have := u64_or_nat x y (by omega) (by omega)
  rwa [nat_join i x y hx hy] at this
end Go.Proofs.Ythaipahaaajgoaa
namespace Go.Proofs.Ythaipahaaajgoaa
open Go.RowKit

set_option maxRecDepth 100000 in
set_option maxHeartbeats 1000000 in
theorem shut_none (o1 : bits .or .u64 2139095040 4194304 = 2143289344) (w : World) :
    Calls Try.prog 35 #[.agg #[.int .i64 24, .int .i64 (-149), .int .i64 104], .agg #[.int .u8 1, .bool false, .int .u64 0, .int .i64 0]] w fun e w' => e = .returned (.int .u64 2143289344) ∧ Below w.heap.size w w' := by
  go_enter Try.func35, Try.ntmps35
  go_wp2_with (first
    | (go_at_call 50; refine (most_any _).mono ?_; rintro e wq ⟨rfl, hq⟩; subst wq)
    | (go_at_call 49; refine (bitsof_any _).mono ?_; rintro e wq ⟨rfl, hq⟩; subst wq))
  go_ret
  exact ⟨rfl, by repeat (first | exact Below.refl _ _ | refine bel ?_)⟩
set_option maxRecDepth 100000 in
set_option maxHeartbeats 1000000 in
theorem shut_endless0 (X : Int) (o1 : bits .or .u64 0 2139095040 = X) (w : World) :
    Calls Try.prog 35 #[.agg #[.int .i64 24, .int .i64 (-149), .int .i64 104], .agg #[.int .u8 2, .bool false, .int .u64 0, .int .i64 0]] w fun e w' => e = .returned (.int .u64 X) ∧ Below w.heap.size w w' := by
  go_enter Try.func35, Try.ntmps35
  go_wp2_with (first
    | (go_at_call 50; refine (most_any _).mono ?_; rintro e wq ⟨rfl, hq⟩; subst wq)
    | (go_at_call 49; refine (bitsof_any _).mono ?_; rintro e wq ⟨rfl, hq⟩; subst wq))
  go_ret
  exact ⟨rfl, by repeat (first | exact Below.refl _ _ | refine bel ?_)⟩
set_option maxRecDepth 100000 in
set_option maxHeartbeats 1000000 in
theorem shut_small0 (n : Nat) (p : Int) (h : (n : Int) < 8388608) (X : Int) (o1 : bits .or .u64 0 (n : Int) = X) (w : World) :
    Calls Try.prog 35 #[.agg #[.int .i64 24, .int .i64 (-149), .int .i64 104], .agg #[.int .u8 3, .bool false, .int .u64 n, .int .i64 p]] w fun e w' => e = .returned (.int .u64 X) ∧ Below w.heap.size w w' := by
  go_enter Try.func35, Try.ntmps35
  go_wp2_with (first
    | (go_at_call 50; refine (most_any _).mono ?_; rintro e wq ⟨rfl, hq⟩; subst wq)
    | (go_at_call 49; refine (bitsof_any _).mono ?_; rintro e wq ⟨rfl, hq⟩; subst wq))
  go_ret
  exact ⟨rfl, by repeat (first | exact Below.refl _ _ | refine bel ?_)⟩
set_option maxRecDepth 100000 in
set_option maxHeartbeats 1000000 in
theorem shut_norm0 (g k : Nat) (h : g < 8388608) (hk : k < 254) (g1 : decide ((g : Int) + 8388608 < 8388608) = false) (X Y : Int) (o1 : bits .or .u64 0 ((-149 + (k : Int) + 149 + 1) * 8388608) = Y) (o2 : bits .or .u64 Y (g : Int) = X) (w : World) :
    Calls Try.prog 35 #[.agg #[.int .i64 24, .int .i64 (-149), .int .i64 104], .agg #[.int .u8 3, .bool false, .int .u64 ((g : Int) + 8388608), .int .i64 (-149 + (k : Int))]] w fun e w' => e = .returned (.int .u64 X) ∧ Below w.heap.size w w' := by
  go_enter Try.func35, Try.ntmps35
  go_wp2_with (first
    | (go_at_call 50; refine (most_any _).mono ?_; rintro e wq ⟨rfl, hq⟩; subst wq)
    | (go_at_call 49; refine (bitsof_any _).mono ?_; rintro e wq ⟨rfl, hq⟩; subst wq))
  go_ret
  exact ⟨rfl, by repeat (first | exact Below.refl _ _ | refine bel ?_)⟩
set_option maxRecDepth 100000 in
set_option maxHeartbeats 1000000 in
theorem shut_endless1 (X : Int) (o1 : bits .or .u64 2147483648 2139095040 = X) (w : World) :
    Calls Try.prog 35 #[.agg #[.int .i64 24, .int .i64 (-149), .int .i64 104], .agg #[.int .u8 2, .bool true, .int .u64 0, .int .i64 0]] w fun e w' => e = .returned (.int .u64 X) ∧ Below w.heap.size w w' := by
  go_enter Try.func35, Try.ntmps35
  go_wp2_with (first
    | (go_at_call 50; refine (most_any _).mono ?_; rintro e wq ⟨rfl, hq⟩; subst wq)
    | (go_at_call 49; refine (bitsof_any _).mono ?_; rintro e wq ⟨rfl, hq⟩; subst wq))
  go_ret
  exact ⟨rfl, by repeat (first | exact Below.refl _ _ | refine bel ?_)⟩
set_option maxRecDepth 100000 in
set_option maxHeartbeats 1000000 in
theorem shut_small1 (n : Nat) (p : Int) (h : (n : Int) < 8388608) (X : Int) (o1 : bits .or .u64 2147483648 (n : Int) = X) (w : World) :
    Calls Try.prog 35 #[.agg #[.int .i64 24, .int .i64 (-149), .int .i64 104], .agg #[.int .u8 3, .bool true, .int .u64 n, .int .i64 p]] w fun e w' => e = .returned (.int .u64 X) ∧ Below w.heap.size w w' := by
  go_enter Try.func35, Try.ntmps35
  go_wp2_with (first
    | (go_at_call 50; refine (most_any _).mono ?_; rintro e wq ⟨rfl, hq⟩; subst wq)
    | (go_at_call 49; refine (bitsof_any _).mono ?_; rintro e wq ⟨rfl, hq⟩; subst wq))
  go_ret
  exact ⟨rfl, by repeat (first | exact Below.refl _ _ | refine bel ?_)⟩
set_option maxRecDepth 100000 in
set_option maxHeartbeats 1000000 in
theorem shut_norm1 (g k : Nat) (h : g < 8388608) (hk : k < 254) (g1 : decide ((g : Int) + 8388608 < 8388608) = false) (X Y : Int) (o1 : bits .or .u64 2147483648 ((-149 + (k : Int) + 149 + 1) * 8388608) = Y) (o2 : bits .or .u64 Y (g : Int) = X) (w : World) :
    Calls Try.prog 35 #[.agg #[.int .i64 24, .int .i64 (-149), .int .i64 104], .agg #[.int .u8 3, .bool true, .int .u64 ((g : Int) + 8388608), .int .i64 (-149 + (k : Int))]] w fun e w' => e = .returned (.int .u64 X) ∧ Below w.heap.size w w' := by
  go_enter Try.func35, Try.ntmps35
  go_wp2_with (first
    | (go_at_call 50; refine (most_any _).mono ?_; rintro e wq ⟨rfl, hq⟩; subst wq)
    | (go_at_call 49; refine (bitsof_any _).mono ?_; rintro e wq ⟨rfl, hq⟩; subst wq))
  go_ret
  exact ⟨rfl, by repeat (first | exact Below.refl _ _ | refine bel ?_)⟩
theorem lay_of (v : Value) (r : Nat) (w : World) (hr : r < 4294967296) (hs : ∀ w, Calls Try.prog 35 #[.agg #[.int .i64 24, .int .i64 (-149), .int .i64 104], v] w fun e w' => e = .returned (.int .u64 (r : Int)) ∧ Below w.heap.size w w') (hv : ∃ s m n p, v = .agg #[.int .u8 s, .bool m, .int .u64 n, .int .i64 p]) :
    Calls Try.prog 28 #[v] w fun e w' => e = .returned (.int .u32 (r : Int)) ∧ Below w.heap.size w w' := by
  obtain ⟨s, m, n, p, rfl⟩ := hv
  have hw : IntKind.u32.wrap (r : Int) = (r : Int) := by rw [IntKind.wrap_u32']; omega
  go_enter Try.func28, Try.ntmps28
  go_wp2
  go_region_with (first
    | (go_at_call 30; refine (form_any _).mono ?_; rintro e wq ⟨rfl, hq⟩; subst wq)
    | (go_at_call 35; refine (hs _).mono ?_; rintro e wq ⟨rfl, hq⟩))
  all_goals go_wp2
  all_goals go_ret
  all_goals exact ⟨by first | rfl | (rw [← hw]; rfl), Below.trans (by repeat (first | exact Below.refl _ _ | refine bel ?_ | refine Below.drew ?_)) (hq.mono (by simp; omega))⟩
theorem wrd_lt (m : Bool) (r : Nat) (h : r < 2147483648) : wrd m r < 4294967296 := by
  unfold wrd; split <;> omega
theorem kg_lt {k g : Nat} (hk : k < 254) (hg : g < 8388608) : k * 8388608 + (g + 8388608) < 2147483648 := by omega
theorem kg1 {k g : Nat} (hk : k < 254) (hg : g < 8388608) : (k + 1) * 8388608 % 2 ^ 23 = 0 ∧ g < 2 ^ 23 ∧ (k + 1) * 8388608 + g < 18446744073709551616 ∧ (2147483648 + (k + 1) * 8388608) % 2 ^ 23 = 0 ∧ 2147483648 + (k + 1) * 8388608 + g < 18446744073709551616 := by omega
theorem kg2 {k : Nat} (hk : k < 254) : (k + 1) * 8388608 < 2 ^ 31 ∧ 0 + (k + 1) * 8388608 < 18446744073709551616 ∧ 2147483648 + (k + 1) * 8388608 < 18446744073709551616 := by omega
theorem kg3 (k g : Nat) : (k + 1) * 8388608 + g = wrd false (k * 8388608 + (g + 8388608)) := by
  show _ = 0 + (k * 8388608 + (g + 8388608)); omega
theorem kg4 (k g : Nat) : 2147483648 + (k + 1) * 8388608 + g = wrd true (k * 8388608 + (g + 8388608)) := by
  show _ = 2147483648 + (k * 8388608 + (g + 8388608)); omega
theorem lay_none (w : World) :
    Calls Try.prog 28 #[.agg #[.int .u8 1, .bool false, .int .u64 0, .int .i64 0]] w fun e w' => e = .returned (.int .u32 2143289344) ∧ Below w.heap.size w w' :=
  lay_of _ 2143289344 w (by decide) (fun w => shut_none (b64_or 23 2139095040 4194304 (by decide) (by decide) (by decide)) w) ⟨_, _, _, _, rfl⟩
theorem lay_endless (m : Bool) (w : World) :
    Calls Try.prog 28 #[.agg #[.int .u8 2, .bool m, .int .u64 0, .int .i64 0]] w fun e w' => e = .returned (.int .u32 (wrd m 2139095040 : Nat)) ∧ Below w.heap.size w w' := by
  cases m
  · exact lay_of _ 2139095040 w (by decide) (fun w => shut_endless0 _ (b64_or 31 0 2139095040 (by decide) (by decide) (by decide)) w) ⟨_, _, _, _, rfl⟩
  · exact lay_of _ 4286578688 w (by decide) (fun w => shut_endless1 _ (b64_or 31 2147483648 2139095040 (by decide) (by decide) (by decide)) w) ⟨_, _, _, _, rfl⟩
/-- a finite one: its rung -/
theorem lay_fin (m : Bool) (n k : Nat) (w : World) (hn : n < 16777216) (hk : k < 254) (hnk : k = 0 ∨ 8388608 ≤ n) :
    Calls Try.prog 28 #[.agg #[.int .u8 3, .bool m, .int .u64 n, .int .i64 (-149 + (k : Int))]] w fun e w' => e = .returned (.int .u32 (wrd m (k * 8388608 + n) : Nat)) ∧ Below w.heap.size w w' := by
  by_cases hs : n < 8388608
  · have hk0 : k = 0 := by omega
    subst hk0
    rw [Nat.zero_mul, Nat.zero_add]
    cases m
    · refine lay_of _ (wrd false n) w (wrd_lt _ _ (by omega)) (fun w => shut_small0 n _ (by omega) _ ?_ w) ⟨_, _, _, _, rfl⟩
      exact b64_or 31 0 n (by decide) (by omega) (by omega)
    · refine lay_of _ (wrd true n) w (wrd_lt _ _ (by omega)) (fun w => shut_small1 n _ (by omega) _ ?_ w) ⟨_, _, _, _, rfl⟩
      exact b64_or 31 2147483648 n (by decide) (by omega) (by omega)
  · obtain ⟨g, rfl⟩ : ∃ g, n = g + 8388608 := ⟨n - 8388608, by omega⟩
    have hg : g < 8388608 := by omega
    have e : (-149 + (k : Int) + 149 + 1) * 8388608 = (((k + 1) * 8388608 : Nat) : Int) := by omega
    have e2 : ((g + 8388608 : Nat) : Int) = (g : Int) + 8388608 := by omega
    rw [e2]
    cases m
    · refine lay_of _ (wrd false (k * 8388608 + (g + 8388608))) w (wrd_lt _ _ (kg_lt hk hg)) (fun w => shut_norm0 g k hg hk (decide_eq_false (by omega)) _ (((k + 1) * 8388608 : Nat) : Int) ?_ ?_ w) ⟨_, _, _, _, rfl⟩
      · rw [e]
        have := b64_or 31 0 ((k + 1) * 8388608) (by decide) (kg2 hk).1 (kg2 hk).2.1
        rwa [Nat.zero_add] at this
      · have := b64_or 23 ((k + 1) * 8388608) g (kg1 hk hg).1 (kg1 hk hg).2.1 (kg1 hk hg).2.2.1
        rw [this]; exact congrArg Nat.cast (kg3 k g)
    · refine lay_of _ (wrd true (k * 8388608 + (g + 8388608))) w (wrd_lt _ _ (kg_lt hk hg)) (fun w => shut_norm1 g k hg hk (decide_eq_false (by omega)) _ ((2147483648 + (k + 1) * 8388608 : Nat) : Int) ?_ ?_ w) ⟨_, _, _, _, rfl⟩
      · rw [e]
        exact b64_or 31 2147483648 ((k + 1) * 8388608) (by decide) (kg2 hk).1 (kg2 hk).2.2
      · have := b64_or 23 (2147483648 + (k + 1) * 8388608) g (kg1 hk hg).2.2.2.1 (kg1 hk hg).2.1 (kg1 hk hg).2.2.2.2
        rw [this]; exact congrArg Nat.cast (kg4 k g)
end Go.Proofs.Ythaipahaaajgoaa
namespace Go.Proofs.Ythaipahaaajgoaa
open Go.RowKit

/-! numbers as lists of words of 32 bits, the lowest first -/
def nv : List Nat → Nat
  | [] => 0
  | z :: zs => z + 4294967296 * nv zs
/-- what a slice of words that is read holds -/
def ReadsU (w : World) (ao : Option Addr) (zs : List Nat) (B : Nat) : Prop :=
  0 < zs.length → ∃ b off, ao = some ⟨b, off, none⟩ ∧ b < B ∧ ∀ j, j < zs.length → w.cell? ⟨b, off + j, none⟩ = some (.int .u32 (zs.getD j 0 : Nat))
theorem ReadsU.below {w w' : World} {ao : Option Addr} {zs : List Nat} {B : Nat} (h : ReadsU w ao zs B) (hb : Below B w w') : ReadsU w' ao zs B := by
  intro hl
  obtain ⟨b, off, e, hlt, hc⟩ := h hl
  exact ⟨b, off, e, hlt, fun j hj => (hb.cell (p := ⟨b, off + j, none⟩) hlt).trans (hc j hj)⟩
theorem ReadsU.mono {w : World} {ao : Option Addr} {zs : List Nat} {B C : Nat} (h : ReadsU w ao zs B) (hb : B ≤ C) : ReadsU w ao zs C := by
  intro hl
  obtain ⟨b, off, e, hlt, hc⟩ := h hl
  exact ⟨b, off, e, Nat.lt_of_lt_of_le hlt hb, hc⟩
theorem ReadsU.take {w : World} {ao : Option Addr} {zs : List Nat} {B : Nat} (h : ReadsU w ao zs B) (n : Nat) (hn : n ≤ zs.length) : ReadsU w ao (zs.take n) B := by
  intro hl
  have e1 : (zs.take n).length = n := by simp; omega
  rw [e1] at hl
  obtain ⟨b, off, e, hlt, hc⟩ := h (by omega)
  refine ⟨b, off, e, hlt, fun j hj => ?_⟩
  rw [e1] at hj
  rw [hc j (by omega)]
  simp [List.getD, hj]
/-- the last word is not nought -/
def Norm (zs : List Nat) : Prop := zs.length = 0 ∨ zs.getD (zs.length - 1) 0 ≠ 0
def Words (zs : List Nat) : Prop := ∀ z ∈ zs, z < 4294967296
theorem words_get {zs : List Nat} (h : Words zs) (j : Nat) : zs.getD j 0 < 4294967296 := by
  by_cases hj : j < zs.length
  · simp only [List.getD, List.getElem?_eq_getElem hj, Option.getD_some]; exact h _ (List.getElem_mem hj)
  · simp [List.getD, List.getElem?_eq_none (Nat.le_of_not_lt hj)]
theorem nv_append (xs ys : List Nat) : nv (xs ++ ys) = nv xs + 4294967296 ^ xs.length * nv ys := by
  induction xs with
  | nil => simp [nv]
  | cons x xs ih =>
    simp only [List.cons_append, nv, ih, List.length_cons, Nat.pow_succ]
    rw [Nat.mul_add, Nat.mul_comm (4294967296 ^ xs.length) 4294967296, Nat.mul_assoc, Nat.add_assoc]
theorem nv_zero {zs : List Nat} (h : ∀ z ∈ zs, z = 0) : nv zs = 0 := by
  induction zs with
  | nil => rfl
  | cons z zs ih =>
    simp only [nv]
    rw [h z (by simp), ih (fun y hy => h y (by simp [hy]))]
theorem nv_lt {zs : List Nat} (h : Words zs) : nv zs < 4294967296 ^ zs.length := by
  induction zs with
  | nil => simp [nv]
  | cons z zs ih =>
    simp only [nv, List.length_cons, Nat.pow_succ]
    have h1 := h z (by simp)
    have h2 := ih (fun y hy => h y (by simp [hy]))
    have h3 : 4294967296 * (nv zs + 1) ≤ 4294967296 * 4294967296 ^ zs.length := Nat.mul_le_mul_left _ h2
    rw [Nat.mul_comm (4294967296 ^ zs.length)]
    omega
/-- what is cut off is noughts -/
theorem nv_take {zs : List Nat} (n : Nat) (hn : n ≤ zs.length) (h : ∀ j, n ≤ j → j < zs.length → zs.getD j 0 = 0) : nv (zs.take n) = nv zs := by
  have e : zs = zs.take n ++ zs.drop n := (List.take_append_drop n zs).symm
  have hz : nv (zs.drop n) = 0 := by
    apply nv_zero
    intro z hz
    obtain ⟨i, hi, rfl⟩ := List.getElem_of_mem hz
    have hi' : n + i < zs.length := by simp at hi; omega
    have := h (n + i) (by omega) hi'
    simp only [List.getD, List.getElem?_eq_getElem hi', Option.getD_some] at this
    rw [List.getElem_drop]; exact this
  have : nv zs = nv (zs.take n ++ zs.drop n) := by rw [← e]
  rw [this, nv_append, hz, Nat.mul_zero, Nat.add_zero]

set_option maxHeartbeats 1000000 in
set_option maxRecDepth 100000 in
theorem cut_any (ao : Option Addr) (cap : Nat) (zs : List Nat) (w : World) (hcap : zs.length ≤ cap) (hn : zs.length ≤ 1000000) (hr : ReadsU w ao zs w.heap.size) (hnil : ao = none → cap = 0) :
    Calls Try.prog 51 #[.slice ao zs.length cap] w fun e w' => (∃ n, n ≤ zs.length ∧ e = .returned (.slice ao n cap) ∧ nv (zs.take n) = nv zs ∧ Norm (zs.take n)) ∧ w' = w := by
  go_enter Try.func51, Try.ntmps51
  go_wp2
  go_loop [3] (fun n => ∃ k : Nat, k ≤ zs.length ∧ n = .int .i64 (k : Int) ∧ ∀ j, k ≤ j → j < zs.length → zs.getD j 0 = 0) (fun n => (intOf n).toNat)
  case atStart => exact ⟨zs.length, Nat.le_refl _, rfl, fun j h1 h2 => by omega⟩
  case round =>
    obtain ⟨k, hk, rfl, hz⟩ := hrel
    have hnorm : ∀ n, n ≤ zs.length → (n = 0 ∨ zs.getD (n - 1) 0 ≠ 0) → Norm (zs.take n) := by
      intro n hn1 hn2
      have e1 : (zs.take n).length = n := by simp; omega
      unfold Norm
      rw [e1]
      rcases hn2 with h | h
      · exact Or.inl h
      · by_cases h0 : n = 0
        · exact Or.inl h0
        · refine Or.inr ?_
          rw [show (zs.take n).getD (n - 1) 0 = zs.getD (n - 1) 0 by simp [List.getD, show n - 1 < n by omega]]
          exact h
    by_cases hk0 : k = 0
    · subst hk0
      have ht := nv_take 0 (Nat.zero_le _) hz
      have hN := hnorm 0 (Nat.zero_le _) (Or.inl rfl)
      clear hz hnorm
      cases ao with
      | none =>
        have hc0 := hnil rfl
        subst hc0
        go_wp2
        go_ret
        exact ⟨⟨0, Nat.zero_le _, rfl, ht, hN⟩, rfl⟩
      | some ad =>
        by_cases hc : cap = 0
        · subst hc
          go_wp2
          go_ret
          exact ⟨⟨0, Nat.zero_le _, rfl, ht, hN⟩, rfl⟩
        · have g1 : ¬ (0 : Int) = (cap : Int) := by omega
          have g2 : ¬ 0 = cap := by omega
          have g3 : (0 : Int) ≤ (cap : Int) := by omega
          go_wp2
          go_ret
          exact ⟨⟨0, Nat.zero_le _, rfl, ht, hN⟩, rfl⟩
    · obtain ⟨j, rfl⟩ : ∃ j, k = j + 1 := ⟨k - 1, by omega⟩
      obtain ⟨b, off, rfl, hbl, hcs⟩ := hr (by omega)
      have hcj := hcs j (by omega)
      have hin := hnorm (j + 1) hk
      rw [Nat.add_sub_cancel] at hin
      have hte := nv_take (j + 1) hk hz
      by_cases hc0 : zs.getD j 0 = 0
      · rw [hc0] at hcj
        have hz' : ∀ i, j ≤ i → i < zs.length → zs.getD i 0 = 0 := fun i h1 h2 => by
          by_cases e : i = j
          · rw [e]; exact hc0
          · exact hz i (by omega) h2
        clear hcs hin hte hc0 hz hnorm
        have g1 : (0 : Int) ≤ (j : Int) := by omega
        have g2 : (j : Int) < (zs.length : Int) := by omega
        go_wp2
        go_round
        case rel => exact ⟨j, by omega, by go_num, hz'⟩
        case measure => simp [intOf]
      · have hN := hin (Or.inr hc0)
        have gc : (((zs.getD j 0 : Nat) : Int) == 0) = false := by simp; simpa using hc0
        generalize zs.getD j 0 = c at *
        clear hcs hin hz hnorm hc0
        have g1 : (0 : Int) ≤ (j : Int) := by omega
        have g2 : (j : Int) < (zs.length : Int) := by omega
        have g3 : ¬ (0 : Int) = (cap : Int) := by omega
        have g4 : ¬ 0 = cap := by omega
        have g5 : (j : Int) + 1 ≤ (cap : Int) := by omega
        go_wp2
        go_ret
        exact ⟨⟨j + 1, hk, by first | rfl | simp, hte, hN⟩, rfl⟩
end Go.Proofs.Ythaipahaaajgoaa
namespace Go.Proofs.Ythaipahaaajgoaa
open Go.RowKit

theorem nv_split (zs : List Nat) (j : Nat) (hj : j < zs.length) : nv zs = nv (zs.take j) + 4294967296 ^ j * (zs.getD j 0 + 4294967296 * nv (zs.drop (j + 1))) := by
  have e : zs = zs.take j ++ (zs.getD j 0 :: zs.drop (j + 1)) := by
    have h1 := (List.take_append_drop j zs).symm
    rw [List.drop_eq_getElem_cons hj] at h1
    have e2 : zs.getD j 0 = zs[j] := by simp [List.getD, List.getElem?_eq_getElem hj]
    rw [e2]; exact h1
  have h2 : nv zs = nv (zs.take j ++ (zs.getD j 0 :: zs.drop (j + 1))) := by rw [← e]
  rw [h2, nv_append, show (zs.take j).length = j by simp; omega]
  rfl
theorem words_take {zs : List Nat} (h : Words zs) (n : Nat) : Words (zs.take n) := fun z hz => h z (List.mem_of_mem_take hz)
theorem nv_below {zs ys : List Nat} (hz : Words zs) (j : Nat) (h1 : j < zs.length) (h2 : j < ys.length) (hd : zs.drop (j + 1) = ys.drop (j + 1)) (hlt : zs.getD j 0 < ys.getD j 0) : nv zs < nv ys := by
  rw [nv_split zs j h1, nv_split ys j h2, hd]
  have h3 := nv_lt (words_take hz j)
  rw [show (zs.take j).length = j by simp; omega] at h3
  generalize zs.getD j 0 = x at *
  generalize ys.getD j 0 = y at *
  have h4 : 4294967296 ^ j * (x + 4294967296 * nv (ys.drop (j + 1)) + 1) ≤ 4294967296 ^ j * (y + 4294967296 * nv (ys.drop (j + 1))) := Nat.mul_le_mul_left _ (by omega)
  rw [Nat.mul_add _ _ 1, Nat.mul_one] at h4
  omega
theorem nv_ge {ys : List Nat} (n : Nat) (hl : ys.length = n + 1) (hN : Norm ys) : 4294967296 ^ n ≤ nv ys := by
  rw [nv_split ys n (by omega)]
  have : ys.getD n 0 ≠ 0 := by
    rcases hN with h | h
    · omega
    · rwa [hl, Nat.add_sub_cancel] at h
  have h2 : 4294967296 ^ n * 1 ≤ 4294967296 ^ n * (ys.getD n 0 + 4294967296 * nv (ys.drop (n + 1))) := Nat.mul_le_mul_left _ (by omega)
  omega
theorem nv_len {zs ys : List Nat} (hz : Words zs) (hN : Norm ys) (h : zs.length < ys.length) : nv zs < nv ys := by
  obtain ⟨n, hn⟩ : ∃ n, ys.length = n + 1 := ⟨ys.length - 1, by omega⟩
  have h1 := nv_lt hz
  have h2 := nv_ge n hn hN
  have h3 : 4294967296 ^ zs.length ≤ 4294967296 ^ n := Nat.pow_le_pow_right (by decide) (by omega)
  omega
/-- how two numbers stand -/
def ag (x y : Nat) : Int := if x < y then -1 else if x = y then 0 else 1
set_option maxHeartbeats 1000000 in
set_option maxRecDepth 100000 in
theorem against_any (ao bo : Option Addr) (ca cb : Nat) (zs ys : List Nat) (w : World) (hzl : zs.length ≤ 1000000) (_ : ys.length ≤ 1000000) (hrz : ReadsU w ao zs w.heap.size) (hry : ReadsU w bo ys w.heap.size) (wz : Words zs) (wy : Words ys) (nz : Norm zs) (ny : Norm ys) :
    Calls Try.prog 41 #[.slice ao zs.length ca, .slice bo ys.length cb] w fun e w' => e = .returned (.int .i64 (ag (nv zs) (nv ys))) ∧ ∃ k, w' = w.drewN k := by
  by_cases hl : zs.length = ys.length
  · have g0 : ((zs.length : Int) != (ys.length : Int)) = false := by simp; omega
    have HL : Hid (zs.length = ys.length) := hl
    clear hl
    go_enter Try.func41, Try.ntmps41
    go_wp2
    go_loopw [5] (fun i wr => ∃ k m : Nat, k ≤ zs.length ∧ i = .int .i64 ((k : Int) - 1) ∧ wr = w.drewN m ∧ zs.drop k = ys.drop k)
      (fun i _ => (intOf i + 1).toNat)
    case atStart => exact ⟨zs.length, 0, Nat.le_refl _, rfl, rfl, by rw [List.drop_length, HL.out, List.drop_length]⟩
    case round =>
      obtain ⟨k, m, hk, rfl, hw2, hpre⟩ := hrel
      have HP : Hid (zs.drop k = ys.drop k) := hpre
      clear hpre
      have HW2 : Hid (wr = w.drewN m) := hw2
      by_cases hk0 : k = 0
      · subst hk0
        have HA : Hid (ag (nv zs) (nv ys) = 0) := by
          have e1 := HP.out
          rw [List.drop_zero, List.drop_zero] at e1
          show ag (nv zs) (nv ys) = 0
          unfold ag; rw [e1, if_neg (by omega), if_pos rfl]
        clear hw2 HP
        go_wp2
        go_ret
        exact ⟨by rw [HA.out]; rfl, _, HW2.out⟩
      · obtain ⟨j, rfl⟩ : ∃ j, k = j + 1 := ⟨k - 1, by omega⟩
        rw [show ((j + 1 : Nat) : Int) - 1 = (j : Int) by omega]
        have hl := HL.out
        obtain ⟨b, off, rfl, hbl, hc⟩ := hry (by omega)
        obtain ⟨b2, off2, rfl, hbl2, hc2⟩ := hrz (by omega)
        have hck : wr.cell? ⟨b, off + j, none⟩ = some (.int .u32 (ys.getD j 0 : Nat)) := by rw [hw2]; exact hc j (by omega)
        have hck2 : wr.cell? ⟨b2, off2 + j, none⟩ = some (.int .u32 (zs.getD j 0 : Nat)) := by rw [hw2]; exact hc2 j (by omega)
        clear hc hc2 hw2
        have hj1 : (j : Int) < (zs.length : Int) := by omega
        have hj2 : (j : Int) < (ys.length : Int) := by omega
        have hb1 := fun h => nv_below wz j (by omega) (by omega) HP.out h
        have hb2 := fun h => nv_below wy j (by omega) (by omega) HP.out.symm h
        have HT : Hid (zs.getD j 0 = ys.getD j 0 → zs.drop j = ys.drop j) := by
          intro h
          have hj3 : j < zs.length := by omega
          have hj4 : j < ys.length := by omega
          rw [List.drop_eq_getElem_cons hj3, List.drop_eq_getElem_cons hj4, HP.out]
          simp only [List.getD, List.getElem?_eq_getElem hj3, List.getElem?_eq_getElem hj4, Option.getD_some] at h
          rw [h]
        clear HP hl
        generalize zs.getD j 0 = x at *
        generalize ys.getD j 0 = y at *
        by_cases h1 : x < y
        · have HA : Hid (ag (nv zs) (nv ys) = -1) := by show ag (nv zs) (nv ys) = -1; unfold ag; rw [if_pos (hb1 h1)]
          have g5 : decide ((x : Int) < (y : Int)) = true := decide_eq_true (by omega)
          have g5n : decide (x < y) = true := decide_eq_true h1
          have h1i : (x : Int) < (y : Int) := by omega
          clear hb1 hb2 HT
          go_wp2
          go_quiet (fail)
          go_wp2
          go_ret
          exact ⟨by rw [HA.out]; rfl, _, by rw [HW2.out, World.drewN_drewN]⟩
        · by_cases h2 : y < x
          · have HA : Hid (ag (nv zs) (nv ys) = 1) := by show ag (nv zs) (nv ys) = 1; unfold ag; have := hb2 h2; rw [if_neg (by omega), if_neg (by omega)]
            have g5 : decide ((x : Int) < (y : Int)) = false := decide_eq_false (by omega)
            have g6 : decide ((y : Int) < (x : Int)) = true := decide_eq_true (by omega)
            have g5n : decide (x < y) = false := decide_eq_false h1
            have g6n : decide (y < x) = true := decide_eq_true h2
            have h1i : ¬ (x : Int) < (y : Int) := by omega
            have h2i : (y : Int) < (x : Int) := by omega
            clear hb1 hb2 HT
            go_wp2
            go_quiet (fail)
            go_wp2
            go_quiet (fail)
            go_wp2
            go_ret
            refine ⟨by rw [HA.out]; rfl, ?_⟩
            rw [HW2.out, World.drewN_drewN, World.drewN_drewN]
            exact ⟨_, rfl⟩
          · have hxy : x = y := by omega
            have HT2 : Hid (zs.drop j = ys.drop j) := HT.out hxy
            subst hxy
            clear hb1 hb2 HT h1 h2
            go_wp2
            go_quiet (fail)
            go_wp2
            go_quiet (fail)
            go_wp2
            go_roundw
            case rel => exact ⟨j, _, by omega, by go_num, by rw [HW2.out, World.drewN_drewN], HT2.out⟩
            case measure => simp [intOf]
  · have g0 : ((zs.length : Int) != (ys.length : Int)) = true := by simp; omega
    by_cases hlt : zs.length < ys.length
    · have h1 := nv_len wz ny hlt
      have ha : ag (nv zs) (nv ys) = -1 := by unfold ag; rw [if_pos h1]
      rw [ha]
      have g1 : decide ((zs.length : Int) < (ys.length : Int)) = true := decide_eq_true (by omega)
      clear hl
      go_enter Try.func41, Try.ntmps41
      go_wp2
      go_ret
      exact ⟨rfl, 0, rfl⟩
    · have h1 := nv_len wy nz (by omega)
      have ha : ag (nv zs) (nv ys) = 1 := by unfold ag; rw [if_neg (by omega), if_neg (by omega)]
      rw [ha]
      have g1 : decide ((zs.length : Int) < (ys.length : Int)) = false := decide_eq_false (by omega)
      clear hl
      go_enter Try.func41, Try.ntmps41
      go_wp2
      go_ret
      exact ⟨rfl, 0, rfl⟩
end Go.Proofs.Ythaipahaaajgoaa
namespace Go.Proofs.Ythaipahaaajgoaa
open Go.RowKit

/-- a value that is a number -/
def NatV (w : World) (v : Value) (x : Nat) : Prop :=
  ∃ ao cap zs, v = .slice ao (List.length zs) cap ∧ List.length zs ≤ cap ∧ (ao = none → cap = 0) ∧ nv zs = x ∧ Norm zs ∧ Words zs ∧ ReadsU w ao zs w.heap.size
theorem NatV.below {w w' : World} {v : Value} {x : Nat} (h : NatV w v x) (hb : Below w.heap.size w w') : NatV w' v x := by
  obtain ⟨ao, cap, zs, e, h1, h2, h3, h4, h5, h6⟩ := h
  exact ⟨ao, cap, zs, e, h1, h2, h3, h4, h5, (h6.below hb).mono hb.size⟩
theorem NatV.drewN {w : World} {v : Value} {x : Nat} (h : NatV w v x) (n : Nat) : NatV (w.drewN n) v x := h.below ⟨rfl, rfl, rfl, Nat.le_refl _, fun _ _ => rfl⟩
/-- a number is not longer than it is great -/
theorem norm_len {zs : List Nat} (hN : Norm zs) (n : Nat) (h : nv zs < 4294967296 ^ n) : zs.length ≤ n := by
  apply Nat.le_of_not_lt
  intro hlt
  obtain ⟨m, hm⟩ : ∃ m, zs.length = m + 1 := ⟨zs.length - 1, by omega⟩
  have h1 := nv_ge m hm hN
  have h2 : 4294967296 ^ n ≤ 4294967296 ^ m := Nat.pow_le_pow_right (by decide) (by omega)
  omega
theorem belU {a w : World} {o : Obj} (h : Below a.heap.size a w) : Below a.heap.size a (w.alloc o) := h.alloc h.size o
set_option maxRecDepth 100000 in
set_option maxHeartbeats 1000000 in
theorem nat_any (x : Nat) (w : World) (hx : x < 18446744073709551616) :
    Calls Try.prog 38 #[.int .u64 x] w fun e w' => (∃ v, e = .returned v ∧ NatV w' v x) ∧ Below w.heap.size w w' := by
  obtain ⟨lo, hlo⟩ : ∃ lo, lo = x % 4294967296 := ⟨_, rfl⟩
  obtain ⟨hi, hhi⟩ : ∃ hi, hi = x / 4294967296 := ⟨_, rfl⟩
  have e1 : IntKind.u32.wrap (x : Int) = (lo : Int) := by rw [IntKind.wrap_u32', hlo]; omega
  have e2 : (x : Int) % 4294967296 = (lo : Int) := by omega
  have e3 : (x : Int) / 4294967296 = (hi : Int) := by omega
  have hl2 : lo < 4294967296 := by omega
  have hh2 : hi < 4294967296 := by omega
  have hnv : nv [lo, hi] = x := by simp only [nv]; omega
  have hW : Words [lo, hi] := by intro z hz; simp at hz; omega
  clear hlo hhi
  have HR : ReadsU (w.alloc (.cells #[.int .u32 (lo : Int), .int .u32 (hi : Int)] 22)) (some ⟨w.heap.size, 0, none⟩) [lo, hi] (w.alloc (.cells #[.int .u32 (lo : Int), .int .u32 (hi : Int)] 22)).heap.size := by
    intro _
    refine ⟨w.heap.size, 0, rfl, by simp, fun j hj => ?_⟩
    have : j = 0 ∨ j = 1 := by simp at hj; omega
    rcases this with rfl | rfl <;> simp
  have cc := cut_any (some ⟨w.heap.size, 0, none⟩) 2 [lo, hi] (w.alloc (.cells #[.int .u32 (lo : Int), .int .u32 (hi : Int)] 22)) (by simp) (by simp) HR (by simp)
  have HRH : Hid (ReadsU (w.alloc (.cells #[.int .u32 (lo : Int), .int .u32 (hi : Int)] 22)) (some ⟨w.heap.size, 0, none⟩) [lo, hi] (w.alloc (.cells #[.int .u32 (lo : Int), .int .u32 (hi : Int)] 22)).heap.size) := HR
  have HNV : Hid (nv [lo, hi] = x ∧ Words [lo, hi]) := ⟨hnv, hW⟩
  clear HR hnv hW
  go_enter Try.func38, Try.ntmps38
  go_wp2_with (go_at_call 51; refine cc.mono ?_; rintro e wq ⟨⟨n, hn, rfl, ht, hN⟩, hq⟩; subst wq)
  go_ret
  obtain ⟨h1, h2⟩ := HNV.out
  simp only [List.length_cons, List.length_nil] at hn
  have hlen : ([lo, hi].take n).length = n := by simp; omega
  refine ⟨⟨_, rfl, some ⟨w.heap.size, 0, none⟩, 2, [lo, hi].take n, by rw [hlen]; rfl, by rw [hlen]; omega, by simp, by rw [ht]; exact h1, hN, words_take h2 n, HRH.out.take n (by simp; omega)⟩, belU (Below.refl _ w)⟩
end Go.Proofs.Ythaipahaaajgoaa
namespace Go.Proofs.Ythaipahaaajgoaa
open Go.RowKit

theorem Try.infoU : (Try.prog.info? 22).map (fun i => (i.zero, i.size, i.bytes)) = some (some (.int .u32 0), 1, 4) := by kernel_rfl
/-- words as values -/
def uk (L : List Nat) : List Value := L.map (fun (z : Nat) => Value.int .u32 ((z : Nat) : Int))
theorem uk_append (L M : List Nat) : uk (L ++ M) = uk L ++ uk M := by simp [uk]
theorem own_snocU {w1 : World} {B e : Nat} {v' : Value} {L : List Nat} {n : Nat} {x : Nat}
    (h : w1.ownsRow B e 1 v' (n + 1) (uk L ++ [.int .u32 (x : Int)])) : w1.ownsRow B e 1 v' (n + 1) (uk (L ++ [x])) := by
  rw [uk_append]; exact h
theorem grown_belowU {B e sz : Nat} {a w w' : World} {xs : List Value} {v : Value} {n : Nat} {o : Obj} (h : Below B a w) (hB : B ≤ w.heap.size) (hown : w.ownsRow B e sz v n xs) (hg : (w.alloc o).grownBy w' v.ownBlock) : Below B a w' :=
  (h.alloc hB o).grown hg (by simp; omega) (fun k e => (hown.lt k e).1)
theorem own_cellU {w1 : World} {B e g n cap : Nat} {L : List Nat} (h : w1.ownsRow B e 1 (.slice (some ⟨g, 0, none⟩) n cap) L.length (uk L)) {i : Nat} (hi : i < L.length) : w1.cell? ⟨g, 0 + i, none⟩ = some (.int .u32 (L.getD i 0 : Nat)) := by
  have := h.cells (g := g) rfl i (.int .u32 (L.getD i 0 : Nat)) (by simp [uk, List.getD, List.getElem?_eq_getElem hi])
  have hadd : (⟨g, 0, none⟩ : Addr).add i = ⟨g, 0 + i, none⟩ := by unfold Addr.add; split <;> simp_all
  rw [← hadd]; exact this
theorem own_readsU {w : World} {B e : Nat} {v : Value} {zs : List Nat} (h : w.ownsRow B e 1 v zs.length (uk zs)) : ∃ ao cap, v = .slice ao zs.length cap ∧ ReadsU w ao zs w.heap.size := by
  have h' := h
  have hlt := h.lt
  rcases h.2 with ⟨rfl, hz⟩ | ⟨g, cap, cur, rfl, _⟩
  · have hl : zs.length = 0 := by simpa using hz
    exact ⟨none, 0, by rw [hl], fun hp => by omega⟩
  · exact ⟨_, cap, rfl, fun _ => ⟨g, 0, rfl, (hlt g rfl).2, fun j hj => own_cellU h' hj⟩⟩
theorem own_cap {w : World} {B e : Nat} {ao : Option Addr} {cap : Nat} {zs : List Nat} (h : w.ownsRow B e 1 (.slice ao zs.length cap) zs.length (uk zs)) : zs.length ≤ cap ∧ (ao = none → cap = 0) := by
  rcases h.2 with ⟨hv, hz⟩ | ⟨g, cap', cur, hv, hrest⟩
  · simp only [Value.slice.injEq] at hv
    exact ⟨by omega, fun _ => hv.2.2⟩
  · simp only [Value.slice.injEq] at hv
    obtain ⟨h1, -, h3⟩ := hv
    refine ⟨?_, fun h => by rw [h1] at h; cases h⟩
    rw [h3]; exact hrest.2.2.1
theorem rep_snoc (k : Nat) : List.replicate (k + 1) (0 : Nat) = List.replicate k 0 ++ [0] := by
  rw [List.replicate_succ']
theorem nv_rep (k : Nat) (L : List Nat) : nv (List.replicate k 0 ++ L) = 4294967296 ^ k * nv L := by
  rw [nv_append, List.length_replicate, nv_zero (fun z hz => List.eq_of_mem_replicate hz), Nat.zero_add]

set_option maxRecDepth 100000 in
set_option maxHeartbeats 4000000 in
theorem up_any (ao : Option Addr) (cap : Nat) (zs : List Nat) (n : Nat) (w : World) (hl : zs.length ≤ 1000) (hn : n ≤ 10000) (hr : ReadsU w ao zs w.heap.size) (hW : Words zs) :
    Calls Try.prog 37 #[.slice ao zs.length cap, .int .i64 n] w fun e w' => (∃ v, e = .returned v ∧ NatV w' v (nv zs * 2 ^ n)) ∧ Below w.heap.size w w' := by
  obtain ⟨i0, hi, hz0, hz1, hz2⟩ := info_parts Try.infoU
  obtain ⟨q, hq⟩ : ∃ q, q = n / 32 := ⟨_, rfl⟩
  obtain ⟨s, hs⟩ : ∃ s, s = n % 32 := ⟨_, rfl⟩
  have eq1 : (n : Int).tdiv 32 = (q : Int) := by rw [Int.tdiv_eq_ediv_of_nonneg (by omega)]; omega
  have eq2 : (n : Int) / 32 = (q : Int) := by omega
  have es1 : (n : Int).tmod 32 = (s : Int) := by rw [Int.tmod_eq_emod_of_nonneg (by omega)]; omega
  have es2 : (n : Int) % 32 = (s : Int) := by omega
  have hs32 : s < 32 := by omega
  have hq2 : q ≤ 313 := by omega
  have HN : Hid (n = 32 * q + s) := by show n = 32 * q + s; omega
  clear hq hs hn
  go_enter Try.func37, Try.ntmps37
  go_wp2
  go_loopw [5, 6] (fun v i wr => ∃ k : Nat, k ≤ q ∧ i = .int .i64 k ∧ wr.ownsRow w.heap.size 22 1 v k (uk (List.replicate k 0)) ∧ Below w.heap.size w wr)
    (fun _ i _ => q - (intOf i).toNat)
  case atStart => exact ⟨0, Nat.zero_le _, rfl, World.ownsRow_nil _ _ _ _, Below.refl _ _⟩
  case round =>
    obtain ⟨k, hk, rfl, hown, hb⟩ := hrel
    by_cases hlt : k < q
    · have hB := hb.size
      have hlt' : (k : Int) < (q : Int) := by omega
      go_wp2_with (at_builtin; refine wpList_append_own _ rfl _ _ 50 rfl w.heap.size 22 i0 (.int .u32 0) 1 4 Try.underlying50 hi hz0 hz1 hz2 rfl (by decide) _ _ _ rfl (hown.alloc _) ⟨_, 0, none⟩ 1 1 [.int .u32 0] rfl rfl ?c1 ?c2 ?c3 ?c4 ?c5 ?_)
      case c1 =>
        intro j u hj
        match j, hj with
        | 0, hj => simp at hj; subst hj; simp [Addr.add]
      case c2 => intro u hu; simp at hu; subst hu; rfl
      case c3 => unfold maxLen; omega
      case c4 => omega
      case c5 => simp; omega
      intro v' w1 hown' hgrow _
      have R1 : w1.ownsRow w.heap.size 22 1 v' (k + 1) (uk (List.replicate (k + 1) 0)) := by
        rw [rep_snoc]; exact own_snocU (x := 0) hown'
      have R2 := grown_belowU hb hB hown hgrow
      clear hown' hgrow hown
      go_wp2
      go_roundw
      case rel => exact ⟨k + 1, by omega, by go_num, R1, R2⟩
      case measure => simp [intOf]; omega
    · obtain rfl : q = k := by omega
      go_wp2
      go_loopw [5, 7, 9] (fun v c i wr => ∃ k cr : Nat, ∃ L : List Nat, k ≤ zs.length ∧ i = .int .i64 k ∧ c = .int .u32 (cr : Int) ∧ cr < 2 ^ s ∧ L.length = k ∧ Words L ∧ nv L + 4294967296 ^ k * cr = nv (zs.take k) * 2 ^ s ∧ wr.ownsRow w.heap.size 22 1 v (q + k) (uk (List.replicate q 0 ++ L)) ∧ Below w.heap.size w wr)
        (fun _ _ i _ => zs.length - (intOf i).toNat)
      case atStart => exact ⟨0, 0, [], Nat.zero_le _, rfl, rfl, Nat.two_pow_pos _, rfl, (fun z hz => by simp at hz), by simp [nv], by simpa using hown, hb⟩
      case round =>
        obtain ⟨k, cr, L, hk, rfl, rfl, hcr, hLl, hLW, hval, hown, hb⟩ := hrel
        have hs31 : 2 ^ s ≤ 2147483648 := Nat.pow_le_pow_right (by decide) (show s ≤ 31 by omega)
        by_cases hlt : k < zs.length
        · obtain ⟨b, off, rfl, hbl, hc⟩ := (hr.below hb) (by omega)
          have hck := hc k hlt
          have hB := hb.size
          clear hc
          have hzw := words_get hW k
          have hsp : nv (zs.take (k + 1)) = nv (zs.take k) + 4294967296 ^ k * zs.getD k 0 := by
            have e1 : zs.take (k + 1) = zs.take k ++ [zs.getD k 0] := by
              rw [List.take_succ_eq_append_getElem hlt]
              simp [List.getD, List.getElem?_eq_getElem hlt]
            rw [e1, nv_append, show (zs.take k).length = k by simp; omega]
            simp [nv]
          generalize zs.getD k 0 = z at *
          obtain ⟨X, hX⟩ : ∃ X, X = z * 2 ^ s := ⟨_, rfl⟩
          have hXlt : X < 9223372036854775808 := by
            rw [hX]
            have := Nat.mul_le_mul (show z ≤ 4294967295 by omega) hs31
            omega
          obtain ⟨lo, hlo⟩ : ∃ lo, lo = X % 4294967296 := ⟨_, rfl⟩
          obtain ⟨hh, hhi⟩ : ∃ hh, hh = X / 4294967296 := ⟨_, rfl⟩
          have hdiv : lo % 2 ^ s = 0 := by
            rw [hlo, hX]
            have hd : 2 ^ s ∣ 4294967296 := ⟨2 ^ (32 - s), by rw [← Nat.pow_add, show s + (32 - s) = 32 by omega]⟩
            rw [Nat.mod_mod_of_dvd _ hd, Nat.mul_mod_left]
          have hhlt : hh < 2 ^ s := by
            rw [hhi, Nat.div_lt_iff_lt_mul (by decide), hX, Nat.mul_comm (2 ^ s)]
            exact Nat.mul_lt_mul_of_pos_right hzw (Nat.two_pow_pos _)
          have e1 : (z : Int) * 2 ^ s = (X : Int) := by rw [hX]; simp
          have e2 : (X : Int) % 4294967296 = (lo : Int) := by omega
          have e2' : IntKind.u32.wrap (X : Int) = (lo : Int) := by rw [IntKind.wrap_u32']; omega
          have e3 : (X : Int) / 4294967296 = (hh : Int) := by omega
          have e4 : bits .or .u32 (lo : Int) (cr : Int) = ((lo + cr : Nat) : Int) := by
            have := u32_or_nat lo cr (by omega) (by omega)
            rwa [nat_join s lo cr hdiv hcr] at this
          have e5 : IntKind.u64.wrap (X : Int) = (X : Int) := by
            show (X : Int) % 18446744073709551616 = _
            omega
          have hsum : lo + cr < 4294967296 := by
            have h1 := Nat.div_add_mod lo (2 ^ s)
            rw [hdiv] at h1
            have h2 : lo < 2 ^ s * 2 ^ (32 - s) := by rw [← Nat.pow_add, show s + (32 - s) = 32 by omega]; omega
            have h3 : lo / 2 ^ s < 2 ^ (32 - s) := (Nat.div_lt_iff_lt_mul (Nat.two_pow_pos _)).2 (by rw [Nat.mul_comm]; exact h2)
            have h4 : 2 ^ s * (lo / 2 ^ s + 1) ≤ 2 ^ s * 2 ^ (32 - s) := Nat.mul_le_mul_left _ h3
            rw [← Nat.pow_add, show s + (32 - s) = 32 by omega, Nat.mul_add, Nat.mul_one] at h4
            omega
          have HV : Hid (nv (L ++ [lo + cr]) + 4294967296 ^ (k + 1) * hh = nv (zs.take (k + 1)) * 2 ^ s) := by
            show nv (L ++ [lo + cr]) + 4294967296 ^ (k + 1) * hh = nv (zs.take (k + 1)) * 2 ^ s
            rw [nv_append, hLl, hsp, Nat.add_mul, ← hval, Nat.mul_assoc, ← hX, Nat.pow_succ, Nat.mul_assoc]
            have : X = lo + 4294967296 * hh := by omega
            have h5 : 4294967296 ^ k * X = 4294967296 ^ k * lo + 4294967296 ^ k * (4294967296 * hh) := by rw [← Nat.mul_add, ← this]
            rw [h5]
            simp only [nv, Nat.mul_zero, Nat.add_zero, Nat.mul_add]
            omega
          have HLW : Hid (Words (L ++ [lo + cr])) := by
            intro y hy
            rcases List.mem_append.1 hy with h | h
            · exact hLW y h
            · simp at h; omega
          have HLL : Hid ((L ++ [lo + cr]).length = k + 1) := by show (L ++ [lo + cr]).length = k + 1; simp [hLl]
          have HHH : Hid (hh < 2 ^ s) := hhlt
          clear hval hsp hLW hdiv hlo hhi hLl hhlt hX
          generalize lo + cr = LC at *
          have hlt' : (k : Int) < (zs.length : Int) := by omega
          go_wp2_with (at_builtin; refine wpList_append_own _ rfl _ _ 50 rfl w.heap.size 22 i0 (.int .u32 0) 1 4 Try.underlying50 hi hz0 hz1 hz2 rfl (by decide) _ _ _ rfl (hown.alloc _) ⟨_, 0, none⟩ 1 1 [.int .u32 (LC : Int)] rfl rfl ?c1 ?c2 ?c3 ?c4 ?c5 ?_)
          case c1 =>
            intro j u hj
            match j, hj with
            | 0, hj => simp at hj; subst hj; simp [Addr.add]
          case c2 => intro u hu; simp at hu; subst hu; rfl
          case c3 => unfold maxLen; omega
          case c4 => omega
          case c5 => simp; omega
          intro v' w1 hown' hgrow _
          have R1 : w1.ownsRow w.heap.size 22 1 v' (q + k + 1) (uk (List.replicate q 0 ++ (L ++ [LC]))) := by
            rw [← List.append_assoc]; exact own_snocU hown'
          have R2 := grown_belowU hb hB hown hgrow
          clear hown' hgrow hown hck
          go_wp2
          go_roundw
          case rel => exact ⟨k + 1, hh, L ++ [LC], by omega, by go_num, rfl, HHH.out, HLL.out, HLW.out, HV.out, R1, R2⟩
          case measure => simp [intOf]; omega
        · obtain rfl : k = zs.length := by omega
          rw [List.take_length] at hval
          have hB := hb.size
          have HV : Hid (nv (List.replicate q 0 ++ (L ++ [cr])) = nv zs * 2 ^ n) := by
            show nv (List.replicate q 0 ++ (L ++ [cr])) = nv zs * 2 ^ n
            rw [nv_rep, nv_append, hLl, show nv [cr] = cr by simp [nv], hval, HN.out, Nat.pow_add, Nat.pow_mul, show (2 : Nat) ^ 32 = 4294967296 from rfl, Nat.mul_comm (4294967296 ^ q), Nat.mul_assoc, Nat.mul_comm (2 ^ s)]
          have HLW : Hid (Words (List.replicate q 0 ++ (L ++ [cr]))) := by
            intro y hy
            rcases List.mem_append.1 hy with h | h
            · rw [List.eq_of_mem_replicate h]; decide
            · rcases List.mem_append.1 h with h | h
              · exact hLW y h
              · simp at h; omega
          have HLL : Hid ((List.replicate q 0 ++ (L ++ [cr])).length = q + zs.length + 1) := by
            show (List.replicate q 0 ++ (L ++ [cr])).length = q + zs.length + 1
            simp [hLl]; omega
          clear hval hLW hLl
          go_wp2_with (at_builtin; refine wpList_append_own _ rfl _ _ 50 rfl w.heap.size 22 i0 (.int .u32 0) 1 4 Try.underlying50 hi hz0 hz1 hz2 rfl (by decide) _ _ _ rfl (hown.alloc _) ⟨_, 0, none⟩ 1 1 [.int .u32 (cr : Int)] rfl rfl ?c1 ?c2 ?c3 ?c4 ?c5 ?_)
          case c1 =>
            intro j u hj
            match j, hj with
            | 0, hj => simp at hj; subst hj; simp [Addr.add]
          case c2 => intro u hu; simp at hu; subst hu; rfl
          case c3 => unfold maxLen; omega
          case c4 => omega
          case c5 => simp; omega
          intro v' w1 hown' hgrow _
          have R1 : w1.ownsRow w.heap.size 22 1 v' (q + zs.length + 1) (uk (List.replicate q 0 ++ (L ++ [cr]))) := by
            rw [← List.append_assoc]; exact own_snocU hown'
          have R2 := grown_belowU hb hB hown hgrow
          clear hown' hgrow hown hb hB
          rw [← HLL.out] at R1
          obtain ⟨ao', cap', rfl, hrd⟩ := own_readsU R1
          have hcap : (List.replicate q 0 ++ (L ++ [cr])).length ≤ cap' ∧ (ao' = none → cap' = 0) := own_cap R1
          have hlen : (List.replicate q 0 ++ (L ++ [cr])).length ≤ 1000000 := by rw [HLL.out]; omega
          have HRD : Hid (ReadsU w1 ao' (List.replicate q 0 ++ (L ++ [cr])) w1.heap.size) := hrd
          have cc := cut_any ao' cap' (List.replicate q 0 ++ (L ++ [cr])) w1 hcap.1 hlen hrd hcap.2
          clear R1 hrd hlen
          generalize List.replicate q 0 ++ (L ++ [cr]) = ZZ at *
          go_wp2_with (go_at_call 51; refine cc.mono ?_; rintro e wq ⟨⟨nn, hnn, rfl, ht, hN⟩, hq⟩; subst wq)
          go_ret
          have hl3 : (ZZ.take nn).length = nn := by simp; omega
          exact ⟨⟨_, rfl, ao', cap', ZZ.take nn, by rw [hl3]; rfl, by rw [hl3]; omega, hcap.2, by rw [ht]; exact HV.out, hN, words_take HLW.out nn, HRD.out.take nn hnn⟩, R2⟩
end Go.Proofs.Ythaipahaaajgoaa
namespace Go.Proofs.Ythaipahaaajgoaa
open Go.RowKit

/-- how many bits -/
def nbits (x : Nat) : Nat := if x = 0 then 0 else x.log2 + 1
theorem nbits_spec (x : Nat) (k : Nat) : nbits x = k ↔ (k = 0 ∧ x = 0) ∨ (∃ j, k = j + 1 ∧ 2 ^ j ≤ x ∧ x < 2 ^ (j + 1)) := by
  unfold nbits
  by_cases h : x = 0
  · subst h
    rw [if_pos rfl]
    constructor
    · intro e; exact Or.inl ⟨e.symm, rfl⟩
    · rintro (⟨e, -⟩ | ⟨j, -, h1, -⟩)
      · exact e.symm
      · have := Nat.two_pow_pos j; omega
  · rw [if_neg h]
    have h1 : 2 ^ x.log2 ≤ x := Nat.log2_self_le h
    have h2 : x < 2 ^ (x.log2 + 1) := Nat.lt_log2_self
    constructor
    · intro e; exact Or.inr ⟨x.log2, e.symm, h1, h2⟩
    · rintro (⟨-, e⟩ | ⟨j, rfl, h3, h4⟩)
      · exact absurd e h
      · have a1 := (Nat.pow_lt_pow_iff_right (a := 2) (by decide)).1 (Nat.lt_of_le_of_lt h1 h4)
        have a2 := (Nat.pow_lt_pow_iff_right (a := 2) (by decide)).1 (Nat.lt_of_le_of_lt h3 h2)
        omega
theorem nbits_high (r t : Nat) (m : Nat) (hr : r < 4294967296 ^ m) (ht : 0 < t) : nbits (r + 4294967296 ^ m * t) = 32 * m + nbits t := by
  have e32 : 4294967296 ^ m = 2 ^ (32 * m) := by rw [Nat.pow_mul]
  rw [e32] at hr ⊢
  obtain ⟨j, hj⟩ : ∃ j, nbits t = j + 1 := by
    unfold nbits; rw [if_neg (by omega)]; exact ⟨_, rfl⟩
  obtain ⟨h1, h2⟩ : 2 ^ j ≤ t ∧ t < 2 ^ (j + 1) := by
    rcases (nbits_spec t (j + 1)).1 hj with ⟨h, -⟩ | ⟨i, h, h1, h2⟩
    · omega
    · obtain rfl : i = j := by omega
      exact ⟨h1, h2⟩
  rw [hj]
  refine (nbits_spec _ _).2 (Or.inr ⟨32 * m + j, by omega, ?_, ?_⟩)
  · rw [Nat.pow_add]
    have := Nat.mul_le_mul_left (2 ^ (32 * m)) h1
    omega
  · rw [show 32 * m + j + 1 = 32 * m + (j + 1) by omega, Nat.pow_add]
    have : 2 ^ (32 * m) * (t + 1) ≤ 2 ^ (32 * m) * 2 ^ (j + 1) := Nat.mul_le_mul_left _ h2
    rw [Nat.mul_add, Nat.mul_one] at this
    omega
theorem nbits_half (c : Nat) (h : 0 < c) : nbits c = nbits (c / 2) + 1 := by
  obtain ⟨j, hj⟩ : ∃ j, nbits c = j + 1 := by
    unfold nbits; rw [if_neg (by omega)]; exact ⟨_, rfl⟩
  obtain ⟨h1, h2⟩ : 2 ^ j ≤ c ∧ c < 2 ^ (j + 1) := by
    rcases (nbits_spec c (j + 1)).1 hj with ⟨h, -⟩ | ⟨i, h, h1, h2⟩
    · omega
    · obtain rfl : i = j := by omega
      exact ⟨h1, h2⟩
  rw [hj]
  congr 1
  symm
  refine (nbits_spec _ _).2 ?_
  cases j with
  | zero => exact Or.inl ⟨rfl, by omega⟩
  | succ i =>
    refine Or.inr ⟨i, rfl, ?_, ?_⟩
    · rw [Nat.pow_succ] at h1; omega
    · rw [Nat.pow_succ] at h2; omega
set_option maxRecDepth 100000 in
set_option maxHeartbeats 1000000 in
theorem size_any (ao : Option Addr) (cap : Nat) (zs : List Nat) (w : World) (hl : zs.length ≤ 1000000) (hr : ReadsU w ao zs w.heap.size) (hW : Words zs) (hN : Norm zs) :
    Calls Try.prog 52 #[.slice ao zs.length cap] w fun e w' => e = .returned (.int .i64 (nbits (nv zs))) ∧ w' = w := by
  by_cases h0 : zs.length = 0
  · have hz : zs = [] := List.length_eq_zero_iff.1 h0
    subst hz
    have hb : nbits (nv []) = 0 := by simp [nv, nbits]
    rw [hb]
    go_enter Try.func52, Try.ntmps52
    go_wp2
    go_ret
    exact ⟨rfl, rfl⟩
  · obtain ⟨m, hm⟩ : ∃ m, zs.length = m + 1 := ⟨zs.length - 1, by omega⟩
    obtain ⟨b, off, rfl, hbl, hc⟩ := hr (by omega)
    have hcm := hc m (by omega)
    have ht0 : zs.getD m 0 ≠ 0 := by
      rcases hN with h | h
      · omega
      · rwa [hm, Nat.add_sub_cancel] at h
    have htw := words_get hW m
    have hnb : nbits (nv zs) = 32 * m + nbits (zs.getD m 0) := by
      have hsp := nv_split zs m (by omega)
      rw [List.drop_eq_nil_of_le (by omega)] at hsp
      simp only [nv, Nat.mul_zero, Nat.add_zero] at hsp
      rw [hsp]
      have h1 := nv_lt (words_take hW m)
      rw [show (zs.take m).length = m by simp; omega] at h1
      exact nbits_high _ _ m h1 (by omega)
    rw [hnb]
    generalize zs.getD m 0 = t at *
    have g0 : ((zs.length : Int) == 0) = false := by simp; intro h; subst h; simp at hm
    have hlI : (zs.length : Int) = (m : Int) + 1 := by omega
    have hm2 : m ≤ 1000000 := by omega
    clear hc hnb hN hW hl h0
    go_enter Try.func52, Try.ntmps52
    go_wp2
    have HT : Hid (nbits t ≤ 32) := by
      show nbits t ≤ 32
      apply Nat.le_of_not_lt
      intro hlt
      rcases (nbits_spec t (nbits t)).1 rfl with ⟨h, -⟩ | ⟨i, h, h1, -⟩
      · omega
      · have : 2 ^ 32 ≤ 2 ^ i := Nat.pow_le_pow_right (by decide) (by omega)
        omega
    go_loop [3, 4] (fun n top => ∃ j c : Nat, n = .int .i64 (32 * (m : Int) + (j : Int)) ∧ top = .int .u32 (c : Int) ∧ nbits t = j + nbits c ∧ c < 4294967296) (fun _ top => (intOf top).toNat)
    case atStart => exact ⟨0, t, by first | rfl | (simp; done) | (go_num), rfl, by omega, by omega⟩
    case round =>
      obtain ⟨j, c, rfl, rfl, hj, hc4⟩ := hrel
      have hj32 := HT.out
      by_cases hc0 : c = 0
      · subst hc0
        have HJ : Hid (nbits t = j) := by
          show nbits t = j
          rw [hj]; simp [nbits]
        clear hj hj32
        go_wp2
        go_ret
        exact ⟨by rw [HJ.out]; first | rfl | (simp; done), rfl⟩
      · have hh := nbits_half c (by omega)
        have HJ : Hid (nbits t = j + 1 + nbits (c / 2)) := by
          show nbits t = j + 1 + nbits (c / 2)
          omega
        have hjb : j ≤ 32 := by omega
        have g1 : decide ((0 : Int) < (c : Int)) = true := decide_eq_true (by omega)
        have hcI : (0 : Int) < (c : Int) := by omega
        clear hj hj32 hh
        go_wp2
        go_round
        case rel => exact ⟨j + 1, c / 2, by first | go_num | (simp; omega), by first | go_num | (simp; done), HJ.out, by omega⟩
        case measure => simp [intOf]; omega
end Go.Proofs.Ythaipahaaajgoaa
namespace Go.Proofs.Ythaipahaaajgoaa
open Go.RowKit

theorem or64_hi (x y : Nat) (hx : x < 4294967296) (hy : y < 4294967296) : bits .or .u64 (x : Int) ((y : Int) * 4294967296) = ((x + y * 4294967296 : Nat) : Int) := by
  have := u64_or_nat x (y * 4294967296) (by omega) (by omega)
  rw [Nat.or_comm, nat_join 32 (y * 4294967296) x (by omega) (by omega), Nat.add_comm, Int.natCast_mul] at this
  exact this
set_option maxRecDepth 100000 in
set_option maxHeartbeats 1000000 in
theorem low_any (ao : Option Addr) (cap : Nat) (zs : List Nat) (w : World) (hl : zs.length ≤ 1000000) (hr : ReadsU w ao zs w.heap.size) (hW : Words zs) :
    Calls Try.prog 54 #[.slice ao zs.length cap] w fun e w' => e = .returned (.int .u64 (nv zs % 18446744073709551616 : Nat)) ∧ w' = w := by
  match zs, hl, hr, hW with
  | [], _, _, _ =>
    have hb : nv [] % 18446744073709551616 = 0 := rfl
    rw [hb]
    go_enter Try.func54, Try.ntmps54
    go_wp2
    go_ret
    exact ⟨rfl, rfl⟩
  | [z], _, hr, hW =>
    obtain ⟨b, off, rfl, hbl, hc⟩ := hr (by simp)
    have hc0 := hc 0 (by simp)
    have hz := hW z (by simp)
    have hb : nv [z] % 18446744073709551616 = z := by simp only [nv]; omega
    rw [hb]
    simp only [List.getD, List.getElem?_cons_zero, Option.getD_some, Nat.add_zero] at hc0
    clear hc hr hW hb
    go_enter Try.func54, Try.ntmps54
    go_wp2
    go_ret
    exact ⟨rfl, rfl⟩
  | z :: y :: zs, hl, hr, hW =>
    obtain ⟨b, off, rfl, hbl, hc⟩ := hr (by simp)
    have hc0 := hc 0 (by simp)
    have hc1 := hc 1 (by simp)
    have hz := hW z (by simp)
    have hy := hW y (by simp)
    have hb : nv (z :: y :: zs) % 18446744073709551616 = z + y * 4294967296 := by simp only [nv]; omega
    rw [hb]
    simp only [List.getD, List.getElem?_cons_zero, List.getElem?_cons_succ, Option.getD_some, Nat.add_zero] at hc0 hc1
    have ho := or64_hi z y hz hy
    obtain ⟨n, hn⟩ : ∃ n, (z :: y :: zs).length = n + 2 := ⟨zs.length, rfl⟩
    rw [hn] at hl ⊢
    have g1 : decide ((0 : Int) < (n : Int) + 2) = true := decide_eq_true (by omega)
    have g2 : decide ((1 : Int) < (n : Int) + 2) = true := decide_eq_true (by omega)
    have g3 : (0 : Int) < (n : Int) + 2 := by omega
    have g4 : (1 : Int) < (n : Int) + 2 := by omega
    generalize z + y * 4294967296 = R at *
    clear hc hr hW hb hn
    go_enter Try.func54, Try.ntmps54
    go_wp2
    go_ret
    exact ⟨rfl, rfl⟩
end Go.Proofs.Ythaipahaaajgoaa
namespace Go.Proofs.Ythaipahaaajgoaa
open Go.RowKit

theorem take_step (zs : List Nat) (k : Nat) : nv (zs.take (k + 1)) = nv (zs.take k) + 4294967296 ^ k * zs.getD k 0 := by
  by_cases hlt : k < zs.length
  · have e1 : zs.take (k + 1) = zs.take k ++ [zs.getD k 0] := by
      rw [List.take_succ_eq_append_getElem hlt]
      simp [List.getD, List.getElem?_eq_getElem hlt]
    rw [e1, nv_append, show (zs.take k).length = k by simp; omega]
    simp [nv]
  · rw [List.take_of_length_le (by omega), List.take_of_length_le (by omega)]
    simp [List.getD, List.getElem?_eq_none (Nat.le_of_not_lt hlt)]
theorem getD_off {zs : List Nat} {k : Nat} (h : ¬ k < zs.length) : zs.getD k 0 = 0 := by
  simp [List.getD, List.getElem?_eq_none (Nat.le_of_not_lt h)]
/-- from an own row to a number that is cut -/
theorem cut_own {w w1 : World} {v' : Value} {ZZ : List Nat} {n x : Nat} (R1 : w1.ownsRow w.heap.size 22 1 v' n (uk ZZ)) (hn : ZZ.length = n) (hlen : n ≤ 1000000) (hx : nv ZZ = x) (hW : Words ZZ) :
    ∃ ao cap, v' = .slice ao n cap ∧ Calls Try.prog 51 #[.slice ao n cap] w1 fun e w' => (∃ v, e = .returned v ∧ NatV w1 v x) ∧ w' = w1 := by
  subst hn
  obtain ⟨ao', cap', rfl, hrd⟩ := own_readsU R1
  have hcap := own_cap R1
  refine ⟨ao', cap', rfl, (cut_any ao' cap' ZZ w1 hcap.1 hlen hrd hcap.2).mono ?_⟩
  rintro e wq ⟨⟨nn, hnn, rfl, ht, hN⟩, hq⟩
  have hl3 : (ZZ.take nn).length = nn := by simp; omega
  exact ⟨⟨_, rfl, ao', cap', ZZ.take nn, by rw [hl3], by rw [hl3]; omega, hcap.2, by rw [ht]; exact hx, hN, words_take hW nn, hrd.take nn hnn⟩, hq⟩
set_option maxRecDepth 100000 in
set_option maxHeartbeats 4000000 in
theorem plus_any (ao bo : Option Addr) (ca cb : Nat) (zs ys : List Nat) (w : World) (hl : zs.length ≤ 1000) (hl2 : ys.length ≤ 1000) (hr : ReadsU w ao zs w.heap.size) (hr2 : ReadsU w bo ys w.heap.size) (hW : Words zs) (hW2 : Words ys) :
    Calls Try.prog 40 #[.slice ao zs.length ca, .slice bo ys.length cb] w fun e w' => (∃ v, e = .returned v ∧ NatV w' v (nv zs + nv ys)) ∧ Below w.heap.size w w' := by
  obtain ⟨i0, hi, hz0, hz1, hz2⟩ := info_parts Try.infoU
  go_enter Try.func40, Try.ntmps40
  go_wp2
  go_loopw [5, 6, 7] (fun v c i wr => ∃ k cr : Nat, ∃ L : List Nat, (k ≤ zs.length ∨ k ≤ ys.length) ∧ i = .int .i64 k ∧ c = .int .u64 (cr : Int) ∧ cr ≤ 1 ∧ L.length = k ∧ Words L ∧ nv L + 4294967296 ^ k * cr = nv (zs.take k) + nv (ys.take k) ∧ wr.ownsRow w.heap.size 22 1 v k (uk L) ∧ Below w.heap.size w wr)
    (fun _ _ i _ => zs.length + ys.length - (intOf i).toNat)
  case atStart => exact ⟨0, 0, [], Or.inl (Nat.zero_le _), rfl, rfl, by decide, rfl, (fun z hz => by simp at hz), by simp [nv], World.ownsRow_nil _ _ _ _, Below.refl _ _⟩
  case round =>
    obtain ⟨k, cr, L, hk, rfl, rfl, hcr, hLl, hLW, hval, hown, hb⟩ := hrel
    have hB := hb.size
    have st1 := take_step zs k
    have st2 := take_step ys k
    have zw := words_get hW k
    have yw := words_get hW2 k
    have key : ∀ z y X lo hh : Nat, zs.getD k 0 = z → ys.getD k 0 = y → X = cr + z + y → lo = X % 4294967296 → hh = X / 4294967296 → hh ≤ 1 ∧ lo < 4294967296 ∧ Words (L ++ [lo]) ∧ (L ++ [lo]).length = k + 1 ∧ nv (L ++ [lo]) + 4294967296 ^ (k + 1) * hh = nv (zs.take (k + 1)) + nv (ys.take (k + 1)) := by
      intro z y X lo hh e1 e2 e3 e4 e5
      rw [e1] at st1 zw
      rw [e2] at st2 yw
      refine ⟨by omega, by omega, ?_, by simp [hLl], ?_⟩
      · intro u hu
        rcases List.mem_append.1 hu with h | h
        · exact hLW u h
        · simp at h; omega
      · rw [st1, st2, nv_append, hLl, Nat.pow_succ, Nat.mul_assoc, show nv [lo] = lo by simp [nv]]
        have h6 : lo + 4294967296 * hh = cr + z + y := by omega
        have h7 : 4294967296 ^ k * (lo + 4294967296 * hh) = 4294967296 ^ k * cr + 4294967296 ^ k * z + 4294967296 ^ k * y := by rw [h6, Nat.mul_add, Nat.mul_add]
        rw [Nat.mul_add] at h7
        omega
    by_cases h1 : k < zs.length
    · by_cases h2 : k < ys.length
      · obtain ⟨z, hz⟩ : ∃ z, zs.getD k 0 = z := ⟨_, rfl⟩
        obtain ⟨y, hy⟩ : ∃ y, ys.getD k 0 = y := ⟨_, rfl⟩
        rw [hz] at zw
        rw [hy] at yw
        obtain ⟨X, hX⟩ : ∃ X, X = cr + z + y := ⟨_, rfl⟩
        obtain ⟨lo, hlo⟩ : ∃ lo, lo = X % 4294967296 := ⟨_, rfl⟩
        obtain ⟨hh, hhh⟩ : ∃ hh, hh = X / 4294967296 := ⟨_, rfl⟩
        have HK : Hid _ := key z y X lo hh hz hy hX hlo hhh
        obtain ⟨b1, off1, rfl, hbl1, hc1⟩ := (hr.below hb) (by omega)
        have hck1 := hc1 k h1
        rw [hz] at hck1
        have hi1 : (k : Int) < (zs.length : Int) := by omega
        clear hc1
        obtain ⟨b2, off2, rfl, hbl2, hc2⟩ := (hr2.below hb) (by omega)
        have hck2 := hc2 k h2
        rw [hy] at hck2
        have hi2 : (k : Int) < (ys.length : Int) := by omega
        clear hc2
        have e1 : (cr : Int) + (z : Int) + (y : Int) = (X : Int) := by omega
        have e2 : (X : Int) % 4294967296 = (lo : Int) := by omega
        have e2' : IntKind.u32.wrap (X : Int) = (lo : Int) := by rw [IntKind.wrap_u32']; omega
        have e3 : (X : Int) / 4294967296 = (hh : Int) := by omega
        have hkb : k ≤ 1000 := by omega
        have hXb : X < 18446744073709551616 := by omega
        clear key st1 st2 hval hLW hLl hX hlo hhh hz hy
        go_wp2_with (at_builtin; refine wpList_append_own _ rfl _ _ 50 rfl w.heap.size 22 i0 (.int .u32 0) 1 4 Try.underlying50 hi hz0 hz1 hz2 rfl (by decide) _ _ _ rfl (hown.alloc _) ⟨_, 0, none⟩ 1 1 [.int .u32 (lo : Int)] rfl rfl ?c1 ?c2 ?c3 ?c4 ?c5 ?_)
        case c1 =>
          intro j u hj
          match j, hj with
          | 0, hj => simp at hj; subst hj; simp [Addr.add]
        case c2 => first | rfl | (intro u hu; simp at hu; subst hu; rfl)
        case c3 => unfold maxLen; omega
        case c4 => omega
        case c5 => first | omega | (simp; omega)
        intro v' w1 hown' hgrow _
        obtain ⟨k1, k2, k3, k4, k5⟩ := HK.out
        have HKK : Hid (hh ≤ 1 ∧ Words (L ++ [lo]) ∧ (L ++ [lo]).length = k + 1 ∧ nv (L ++ [lo]) + 4294967296 ^ (k + 1) * hh = nv (zs.take (k + 1)) + nv (ys.take (k + 1))) := ⟨k1, k3, k4, k5⟩
        have R1 : w1.ownsRow w.heap.size 22 1 v' (k + 1) (uk (L ++ [lo])) := own_snocU hown'
        have R2 := grown_belowU hb hB hown hgrow
        clear hown' hgrow hown k1 k2 k3 k4 k5 HK
        go_wp2
        go_roundw
        case rel => exact ⟨k + 1, hh, L ++ [lo], by omega, by go_num, rfl, HKK.out.1, HKK.out.2.2.1, HKK.out.2.1, HKK.out.2.2.2, R1, R2⟩
        case measure => simp [intOf]; omega
      · obtain ⟨z, hz⟩ : ∃ z, zs.getD k 0 = z := ⟨_, rfl⟩
        obtain ⟨y, hy⟩ : ∃ y, ys.getD k 0 = y := ⟨_, rfl⟩
        rw [hz] at zw
        rw [hy] at yw
        have y0 : y = 0 := by rw [← hy]; exact getD_off h2
        obtain ⟨X, hX⟩ : ∃ X, X = cr + z + y := ⟨_, rfl⟩
        obtain ⟨lo, hlo⟩ : ∃ lo, lo = X % 4294967296 := ⟨_, rfl⟩
        obtain ⟨hh, hhh⟩ : ∃ hh, hh = X / 4294967296 := ⟨_, rfl⟩
        have HK : Hid _ := key z y X lo hh hz hy hX hlo hhh
        obtain ⟨b1, off1, rfl, hbl1, hc1⟩ := (hr.below hb) (by omega)
        have hck1 := hc1 k h1
        rw [hz] at hck1
        have hi1 : (k : Int) < (zs.length : Int) := by omega
        clear hc1
        have hi2 : ¬ (k : Int) < (ys.length : Int) := by omega
        have hi2b : decide ((k : Int) < (ys.length : Int)) = false := decide_eq_false hi2
        have e1 : (cr : Int) + (z : Int) = (X : Int) := by omega
        have e2 : (X : Int) % 4294967296 = (lo : Int) := by omega
        have e2' : IntKind.u32.wrap (X : Int) = (lo : Int) := by rw [IntKind.wrap_u32']; omega
        have e3 : (X : Int) / 4294967296 = (hh : Int) := by omega
        have hkb : k ≤ 1000 := by omega
        have hXb : X < 18446744073709551616 := by omega
        clear key st1 st2 hval hLW hLl hX hlo hhh hz hy
        go_wp2_with (at_builtin; refine wpList_append_own _ rfl _ _ 50 rfl w.heap.size 22 i0 (.int .u32 0) 1 4 Try.underlying50 hi hz0 hz1 hz2 rfl (by decide) _ _ _ rfl (hown.alloc _) ⟨_, 0, none⟩ 1 1 [.int .u32 (lo : Int)] rfl rfl ?p1 ?p2 ?p3 ?p4 ?p5 ?_)
        case p2 => first | rfl | (intro u hu; simp at hu; subst hu; rfl)
        case p3 => unfold maxLen; omega
        case p4 => omega
        case p5 => first | omega | (simp; omega)
        intro v' w1 hown' hgrow _
        obtain ⟨k1, k2, k3, k4, k5⟩ := HK.out
        have HKK : Hid (hh ≤ 1 ∧ Words (L ++ [lo]) ∧ (L ++ [lo]).length = k + 1 ∧ nv (L ++ [lo]) + 4294967296 ^ (k + 1) * hh = nv (zs.take (k + 1)) + nv (ys.take (k + 1))) := ⟨k1, k3, k4, k5⟩
        have R1 : w1.ownsRow w.heap.size 22 1 v' (k + 1) (uk (L ++ [lo])) := own_snocU hown'
        have R2 := grown_belowU hb hB hown hgrow
        clear hown' hgrow hown k1 k2 k3 k4 k5 HK
        go_wp2
        go_roundw
        case rel => exact ⟨k + 1, hh, L ++ [lo], by omega, by go_num, rfl, HKK.out.1, HKK.out.2.2.1, HKK.out.2.1, HKK.out.2.2.2, R1, R2⟩
        case measure => simp [intOf]; omega
    · by_cases h2 : k < ys.length
      · obtain ⟨z, hz⟩ : ∃ z, zs.getD k 0 = z := ⟨_, rfl⟩
        obtain ⟨y, hy⟩ : ∃ y, ys.getD k 0 = y := ⟨_, rfl⟩
        rw [hz] at zw
        rw [hy] at yw
        have z0 : z = 0 := by rw [← hz]; exact getD_off h1
        obtain ⟨X, hX⟩ : ∃ X, X = cr + z + y := ⟨_, rfl⟩
        obtain ⟨lo, hlo⟩ : ∃ lo, lo = X % 4294967296 := ⟨_, rfl⟩
        obtain ⟨hh, hhh⟩ : ∃ hh, hh = X / 4294967296 := ⟨_, rfl⟩
        have HK : Hid _ := key z y X lo hh hz hy hX hlo hhh
        have hi1 : ¬ (k : Int) < (zs.length : Int) := by omega
        have hi1b : decide ((k : Int) < (zs.length : Int)) = false := decide_eq_false hi1
        obtain ⟨b2, off2, rfl, hbl2, hc2⟩ := (hr2.below hb) (by omega)
        have hck2 := hc2 k h2
        rw [hy] at hck2
        have hi2 : (k : Int) < (ys.length : Int) := by omega
        clear hc2
        have e1 : (cr : Int) + (y : Int) = (X : Int) := by omega
        have e2 : (X : Int) % 4294967296 = (lo : Int) := by omega
        have e2' : IntKind.u32.wrap (X : Int) = (lo : Int) := by rw [IntKind.wrap_u32']; omega
        have e3 : (X : Int) / 4294967296 = (hh : Int) := by omega
        have hkb : k ≤ 1000 := by omega
        have hXb : X < 18446744073709551616 := by omega
        clear key st1 st2 hval hLW hLl hX hlo hhh hz hy
        go_wp2_with (at_builtin; refine wpList_append_own _ rfl _ _ 50 rfl w.heap.size 22 i0 (.int .u32 0) 1 4 Try.underlying50 hi hz0 hz1 hz2 rfl (by decide) _ _ _ rfl (hown.alloc _) ⟨_, 0, none⟩ 1 1 [.int .u32 (lo : Int)] rfl rfl ?q1 ?q2 ?q3 ?q4 ?q5 ?_)
        case q2 => first | rfl | (intro u hu; simp at hu; subst hu; rfl)
        case q3 => unfold maxLen; omega
        case q4 => omega
        case q5 => first | omega | (simp; omega)
        intro v' w1 hown' hgrow _
        obtain ⟨k1, k2, k3, k4, k5⟩ := HK.out
        have HKK : Hid (hh ≤ 1 ∧ Words (L ++ [lo]) ∧ (L ++ [lo]).length = k + 1 ∧ nv (L ++ [lo]) + 4294967296 ^ (k + 1) * hh = nv (zs.take (k + 1)) + nv (ys.take (k + 1))) := ⟨k1, k3, k4, k5⟩
        have R1 : w1.ownsRow w.heap.size 22 1 v' (k + 1) (uk (L ++ [lo])) := own_snocU hown'
        have R2 := grown_belowU hb hB hown hgrow
        clear hown' hgrow hown k1 k2 k3 k4 k5 HK
        go_wp2
        go_roundw
        case rel => exact ⟨k + 1, hh, L ++ [lo], by omega, by go_num, rfl, HKK.out.1, HKK.out.2.2.1, HKK.out.2.1, HKK.out.2.2.2, R1, R2⟩
        case measure => simp [intOf]; omega
      · have hi1b : decide ((k : Int) < (zs.length : Int)) = false := decide_eq_false (by omega)
        have hi2b : decide ((k : Int) < (ys.length : Int)) = false := decide_eq_false (by omega)
        rw [List.take_of_length_le (by omega), List.take_of_length_le (by omega)] at hval
        have HV : Hid (nv (L ++ [cr]) = nv zs + nv ys ∧ Words (L ++ [cr]) ∧ (L ++ [cr]).length = k + 1) := by
          refine ⟨?_, ?_, by simp [hLl]⟩
          · rw [nv_append, hLl, show nv [cr] = cr by simp [nv]]; exact hval
          · intro u hu
            rcases List.mem_append.1 hu with h | h
            · exact hLW u h
            · simp at h; omega
        have e2' : IntKind.u32.wrap (cr : Int) = (cr : Int) := by rw [IntKind.wrap_u32']; omega
        have hkb : k ≤ 1000 := by omega
        clear key st1 st2 hval hLW hLl zw yw
        go_wp2_with (at_builtin; refine wpList_append_own _ rfl _ _ 50 rfl w.heap.size 22 i0 (.int .u32 0) 1 4 Try.underlying50 hi hz0 hz1 hz2 rfl (by decide) _ _ _ rfl (hown.alloc _) ⟨_, 0, none⟩ 1 1 [.int .u32 (cr : Int)] rfl rfl ?s1 ?s2 ?s3 ?s4 ?s5 ?_)
        case s1 =>
          intro j u hj
          match j, hj with
          | 0, hj => simp at hj; subst hj; simp [Addr.add]
        case s2 => first | rfl | (intro u hu; simp at hu; subst hu; rfl)
        case s3 => unfold maxLen; omega
        case s4 => omega
        case s5 => first | omega | (simp; omega)
        intro v' w1 hown' hgrow _
        have R1 : w1.ownsRow w.heap.size 22 1 v' (k + 1) (uk (L ++ [cr])) := own_snocU hown'
        have R2 := grown_belowU hb hB hown hgrow
        clear hown' hgrow hown
        obtain ⟨ao', cap', rfl, cc⟩ := cut_own R1 HV.out.2.2 (by omega) HV.out.1 HV.out.2.1
        clear R1
        go_wp2_with (go_at_call 51; refine cc.mono ?_; rintro e wq ⟨⟨vv, rfl, hvv⟩, hq⟩; subst wq)
        go_ret
        exact ⟨⟨_, rfl, hvv⟩, R2⟩
end Go.Proofs.Ythaipahaaajgoaa
