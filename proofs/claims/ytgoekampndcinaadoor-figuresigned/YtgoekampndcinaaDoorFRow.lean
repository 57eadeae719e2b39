import Derived.Test.YtgoekampndcinaaDoorFBase
namespace Go.Proofs.YtgoekampndcinaaDoor
open Go.RowKit

/-- the digits from a place on, the value ahead of them: the value, the place and the error -/
def rwf (s : ByteArray) (base most : Nat) : Nat → Nat → Nat → Nat × Nat × Nat
  | 0, _, v => (v, 0, 0)
  | f + 1, at', v => if base ≤ dg (bt s at') then (0, at', 40) else if most < v * base + dg (bt s at') then (0, at', 41) else rwf s base most f (at' + 1) (v * base + dg (bt s at'))
def rowV (s : ByteArray) (i base most : Nat) : Nat × Nat × Nat := if s.size = i then (0, i, 40) else rwf s base most (s.size - i) i 0
def trip (x : Nat × Nat × Nat) : Ending := .returned (.tuple #[.int .u32 x.1, .int .i64 x.2.1, .int .i64 x.2.2])
theorem trip3 {a b c : Int} {x : Nat × Nat × Nat} (h1 : a = x.1) (h2 : b = x.2.1) (h3 : c = x.2.2) : Ending.returned (.tuple #[.int .u32 a, .int .i64 b, .int .i64 c]) = trip x := by rw [h1, h2, h3]; rfl

set_option maxRecDepth 100000 in
set_option maxHeartbeats 4000000 in
theorem row_any (s : ByteArray) (i base most : Nat) (w : World) (hs : s.size ≤ 64) (hi : i ≤ s.size) (hb : 2 ≤ base) (hb' : base ≤ 16) (hm : most ≤ 4294967295) :
    Calls Tryd.prog 17 #[.string s, .int .i64 i, .int .u64 base, .int .u64 most] w fun e w' => e = trip (rowV s i base most) ∧ w' = w := by
  go_enter Tryd.func17, Tryd.ntmps17
  go_wp2
  go_loop [11, 12, 13] (fun x k _ => ∃ m v : Nat, i ≤ m ∧ m ≤ s.size ∧ k = .int .i64 m ∧ x = .int .u64 v ∧ v ≤ most ∧ Hid (rwf s base most (s.size - i) i 0 = rwf s base most (s.size - m) m v)) (fun _ k _ => s.size - (intOf k).toNat)
  case atStart => exact ⟨i, 0, Nat.le_refl _, hi, rfl, rfl, Nat.zero_le _, rfl⟩
  case round =>
    obtain ⟨m, v, him, hms, rfl, rfl, hv, HM⟩ := hrel
    by_cases hlt : m < s.size
    · have hltI : (m : Int) < (s.size : Int) := by omega
      have hye := bt_eq s m hlt
      have hyl := bt_lt s m
      obtain ⟨y, hy⟩ : ∃ y, y = bt s m := ⟨_, rfl⟩
      have HY : Hid (y = bt s m) := hy
      rw [← hy] at hye hyl
      have hsy : (s[m]'hlt).toNat = y := hye.symm
      clear hye hy
      obtain ⟨d, hd⟩ : ∃ d, d = dg y := ⟨_, rfl⟩
      have HD : Hid (d = dg y) := hd
      have hdl := dg_le y
      rw [← hd] at hdl
      clear hd
      have hne : ¬ s.size = i := by omega
      obtain ⟨f, hf⟩ : ∃ f, s.size - m = f + 1 := ⟨s.size - m - 1, by omega⟩
      have HF : Hid (rwf s base most (s.size - m) m v = if base ≤ d then (0, m, 40) else if most < v * base + d then (0, m, 41) else rwf s base most f (m + 1) (v * base + d)) := by
        rw [Hid, hf, rwf, ← HY.out, ← HD.out]
      have hq1 : v * base ≤ 4294967295 * 16 := Nat.mul_le_mul (by omega) hb'
      have hqI : (v : Int) * (base : Int) = ((v * base : Nat) : Int) := (Int.natCast_mul v base).symm
      have HS : Hid (∀ c1 : ¬ base ≤ d, ¬ most < v * base + d → rwf s base most (s.size - m) m v = rwf s base most f (m + 1) (v * base + d)) := fun c1 c2 => by rw [HF.out, if_neg c1, if_neg c2]
      have HL : Hid (∀ c1 : ¬ base ≤ d, most < v * base + d → rwf s base most (s.size - m) m v = (0, m, 41)) := fun c1 c2 => by rw [HF.out, if_neg c1, if_pos c2]
      have HE : Hid (∀ c1 : base ≤ d, rwf s base most (s.size - m) m v = (0, m, 40)) := fun c1 => by rw [HF.out, if_pos c1]
      clear HF
      generalize v * base = q at *
      have HF2 : Hid (s.size - m = f + 1) := hf
      clear hf
      by_cases c1 : base ≤ d
      · have c1I : (base : Int) ≤ (d : Int) := by omega
        go_wp2_with (go_at_call 26; refine (digit_any _ _ (by omega)).mono ?_; rintro e w' ⟨rfl, hw'⟩; rw [← HD.out]; subst hw')
        refine bodyPost_ret (results_tmp3 rfl _ _ _) rfl ?_
        refine ⟨?_, rfl⟩
        rw [rowV, if_neg hne, HM.out, HE.out c1]; rfl
      · have c1I : (d : Int) < (base : Int) := by omega
        by_cases c2 : most < q + d
        · have c2I : (most : Int) < (q : Int) + d := by omega
          go_wp2_with (go_at_call 26; refine (digit_any _ _ (by omega)).mono ?_; rintro e w' ⟨rfl, hw'⟩; rw [← HD.out]; subst hw')
          refine bodyPost_ret (results_tmp3 rfl _ _ _) rfl ?_
          refine ⟨?_, rfl⟩
          rw [rowV, if_neg hne, HM.out, HL.out c1 c2]; rfl
        · have c2I : (q : Int) + d ≤ (most : Int) := by omega
          go_wp2_with (go_at_call 26; refine (digit_any _ _ (by omega)).mono ?_; rintro e w' ⟨rfl, hw'⟩; rw [← HD.out]; subst hw')
          go_round
          case rel =>
            refine ⟨m + 1, q + d, by omega, by omega, by go_num, by go_num, by omega, ?_⟩
            rw [Hid, HM.out, HS.out c1 c2]
            have := HF2.out
            rw [show s.size - (m + 1) = f by omega]
          case measure => simp [intOf]; omega
    · obtain rfl : m = s.size := by omega
      have hr : rwf s base most (s.size - i) i 0 = (v, 0, 0) := by rw [HM.out, Nat.sub_self]; rfl
      by_cases hz : s.size = i
      · have hzI : (s.size : Int) = (i : Int) := by omega
        go_wp2
        refine bodyPost_ret (results_tmp3 rfl _ _ _) rfl ?_
        exact ⟨by rw [rowV, if_pos hz]; rfl, rfl⟩
      · have hzb : ((s.size : Int) == (i : Int)) = false := by rw [beq_eq_false_iff_ne]; omega
        go_wp2
        refine bodyPost_ret (results_tmp3 rfl _ _ _) rfl ?_
        refine ⟨trip3 ?_ ?_ ?_, rfl⟩
        all_goals rw [rowV, if_neg hz, hr]
        all_goals first | rfl | (simp [wrap]; omega)
end Go.Proofs.YtgoekampndcinaaDoor
