import Derived.Test.YtpndbbepfjocgaaDec
import Derived.Test.YtpndbbepfjocgaaLBase
import Derived.WalkKit
import Derived.Test.YtpndbbepfjocgaaShelf
namespace Go.Proofs.Ytpndbbepfjocgaa
open Go.RowKit
set_option maxRecDepth 100000

/-- the place behind a literal's end -/
def litF (s : ByteArray) (m a : Nat) : Nat → Nat → Nat
  | 0, _ => a
  | f + 1, i => if i < s.size then (if bt s i = m then i + 1 else if bt s i = 10 then a else if bt s i = 92 then litF s m a f (i + 2) else litF s m a f (i + 1)) else a
def litEnd (s : ByteArray) (a : Nat) : Nat := litF s (bt s a) a s.size (a + 1)
theorem litF_stop (s : ByteArray) (m a f i : Nat) (h : ¬ i < s.size) : litF s m a f i = a := by
  cases f with
  | zero => rfl
  | succ f => simp [litF, h]
theorem litF_step (s : ByteArray) (m a f i : Nat) (h : i < s.size) (hf : s.size - i ≤ f) : ∃ g, s.size - (i + 1) ≤ g ∧ litF s m a f i = if bt s i = m then i + 1 else if bt s i = 10 then a else if bt s i = 92 then litF s m a g (i + 2) else litF s m a g (i + 1) := by
  cases f with
  | zero => omega
  | succ f => exact ⟨f, by omega, by simp [litF, h]⟩
end Go.Proofs.Ytpndbbepfjocgaa
namespace Go.Proofs.Ytpndbbepfjocgaa
open Go.RowKit
set_option maxRecDepth 100000

theorem hidK {p : Prop} (h : p) : Hid p := h
theorem bt_get (s : ByteArray) (i : Nat) (h : i < s.size) : (s[i]'h).toNat = bt s i := (bt_eq s i h).symm
set_option maxHeartbeats 1000000 in
theorem litEnd_any (s : ByteArray) (a : Nat) (w : World) (ha : a < s.size) (hs : s.size ≤ 140737488355328) :
    Calls Try.prog 49 #[.string s, .int .i64 a] w fun e w' => e = .returned (.int .i64 (litEnd s a)) ∧ w' = w := by
  obtain ⟨m, hm⟩ : ∃ m, m = bt s a := ⟨_, rfl⟩
  obtain ⟨R, hR⟩ : ∃ R, litEnd s a = R := ⟨_, rfl⟩
  rw [hR]
  have HR : Hid (litF s m a s.size (a + 1) = R) := by rw [Hid, hm]; exact hR
  have haI : (a : Int) < (s.size : Int) := by omega
  have hma : (s[a]'ha).toNat = m := (bt_get s a ha).trans hm.symm
  clear hR hm
  go_enter Try.func49, Try.ntmps49
  go_wp2
  go_loopw [6] (fun i wr => ∃ k f : Nat, k ≤ s.size + 1 ∧ i = .int .i64 k ∧ wr = w ∧ s.size - k ≤ f ∧ Hid (litF s m a f k = R)) (fun i _ => s.size + 1 - (intOf i).toNat)
  case atStart => exact ⟨a + 1, s.size, by omega, by simp, rfl, by omega, HR⟩
  case round =>
    clear HR
    obtain ⟨k, f, hk, rfl, rfl, hf, HK⟩ := hrel
    by_cases hlt : k < s.size
    · have hltI : (k : Int) < (s.size : Int) := by omega
      obtain ⟨g, hg, hst⟩ := litF_step s m a f k hlt hf
      rw [Hid, hst] at HK
      have hy := bt_get s k hlt
      generalize bt s k = y at *
      clear hst
      by_cases c1 : y = m
      · subst c1
        rw [if_pos rfl] at HK
        have HK2 := hidK HK
        clear HK
        go_wp2
        go_ret
        exact ⟨ret_int (by rw [← HK2.out]; simp), rfl⟩
      · have c1I : ¬ (y : Int) = (m : Int) := by omega
        rw [if_neg c1] at HK
        by_cases c2 : y = 10
        · subst c2
          rw [if_pos rfl] at HK
          have HK2 := hidK HK
          clear HK
          go_wp2
          go_ret
          exact ⟨ret_int (by rw [← HK2.out]), rfl⟩
        · have c2I : ¬ (y : Int) = 10 := by omega
          rw [if_neg c2] at HK
          by_cases c3 : y = 92
          · subst c3
            rw [if_pos rfl] at HK
            have HK2 := hidK HK
            clear HK
            go_wp2
            go_roundw
            case rel => exact ⟨k + 2, g, by omega, by go_num, trivial, by omega, HK2⟩
            case measure => simp [intOf]; omega
          · have c3I : ¬ (y : Int) = 92 := by omega
            rw [if_neg c3] at HK
            have HK2 := hidK HK
            clear HK
            go_wp2
            go_roundw
            case rel => exact ⟨k + 1, g, by omega, by go_num, trivial, hg, HK2⟩
            case measure => simp [intOf]; omega
    · have hltI : ¬ (k : Int) < (s.size : Int) := by omega
      rw [Hid, litF_stop s m a f k hlt] at HK
      have HK2 := hidK HK
      clear HK
      go_wp2
      go_ret
      exact ⟨ret_int (by rw [← HK2.out]), rfl⟩
end Go.Proofs.Ytpndbbepfjocgaa
namespace Go.Proofs.Ytpndbbepfjocgaa
open Go.RowKit
set_option maxRecDepth 100000

/-- kinds of numbers and bytes -/
def plainL (n : Int) : Bool := (decide (65 ≤ n) && decide (n ≤ 90)) || (decide (97 ≤ n) && decide (n ≤ 122))
def digitL (n : Int) : Bool := decide (48 ≤ n) && decide (n ≤ 57)
def letterL (n : Int) : Bool := plainL n || decide (192 ≤ n)
def pmL (n : Int) : Bool := decide (n = 43) || decide (n = 45)
def figL (n : Int) : Bool := plainL n || digitL n || decide (n = 95) || decide (n = 46)
theorem plain_any (n : Int) (w : World) : Calls Try.prog 45 #[.int .i32 n] w fun e w' => e = .returned (.bool (plainL n)) ∧ w' = w := by
  by_cases a1 : 65 ≤ n
  · by_cases a2 : n ≤ 90
    · have e : plainL n = true := by simp [plainL, a1, a2]
      rw [e]
      go_enter Try.func45, Try.ntmps45
      go_wp2
      go_ret
      exact ⟨rfl, rfl⟩
    · by_cases a3 : 97 ≤ n
      · by_cases a4 : n ≤ 122
        · have e : plainL n = true := by simp [plainL, a3, a4]
          rw [e]
          go_enter Try.func45, Try.ntmps45
          go_wp2
          go_ret
          exact ⟨rfl, rfl⟩
        · have e : plainL n = false := by simp [plainL, a2, a4]
          rw [e]
          go_enter Try.func45, Try.ntmps45
          go_wp2
          go_ret
          exact ⟨rfl, rfl⟩
      · have e : plainL n = false := by simp [plainL, a2, a3]
        rw [e]
        go_enter Try.func45, Try.ntmps45
        go_wp2
        go_ret
        exact ⟨rfl, rfl⟩
  · have a3 : ¬ 97 ≤ n := by omega
    have e : plainL n = false := by simp [plainL, a1, a3]
    rw [e]
    go_enter Try.func45, Try.ntmps45
    go_wp2
    go_ret
    exact ⟨rfl, rfl⟩
theorem digitL_any (n : Int) (w : World) : Calls Try.prog 36 #[.int .i32 n] w fun e w' => e = .returned (.bool (digitL n)) ∧ w' = w := by
  by_cases a1 : 48 ≤ n
  · by_cases a2 : n ≤ 57
    · have e : digitL n = true := by simp [digitL, a1, a2]
      rw [e]
      go_enter Try.func36, Try.ntmps36
      go_wp2
      go_ret
      exact ⟨rfl, rfl⟩
    · have e : digitL n = false := by simp [digitL, a2]
      rw [e]
      go_enter Try.func36, Try.ntmps36
      go_wp2
      go_ret
      exact ⟨rfl, rfl⟩
  · have e : digitL n = false := by simp [digitL, a1]
    rw [e]
    go_enter Try.func36, Try.ntmps36
    go_wp2
    go_ret
    exact ⟨rfl, rfl⟩
theorem letterL_any (n : Int) (w : World) : Calls Try.prog 34 #[.int .i32 n] w fun e w' => e = .returned (.bool (letterL n)) ∧ w' = w := by
  have hP := plain_any n w
  cases hp : plainL n with
  | true =>
    rw [hp] at hP
    have e : letterL n = true := by simp [letterL, hp]
    rw [e]
    go_enter Try.func34, Try.ntmps34
    go_wp2_with (first
      | (go_at_call 45; with_reducible refine hP.mono ?_; rintro e wq ⟨rfl, hq⟩; subst wq)
      | fail)
    go_ret
    exact ⟨rfl, rfl⟩
  | false =>
    rw [hp] at hP
    by_cases a : 192 ≤ n
    · have e : letterL n = true := by simp [letterL, a]
      rw [e]
      go_enter Try.func34, Try.ntmps34
      go_wp2_with (first
        | (go_at_call 45; with_reducible refine hP.mono ?_; rintro e wq ⟨rfl, hq⟩; subst wq)
        | fail)
      go_ret
      exact ⟨rfl, rfl⟩
    · have e : letterL n = false := by simp [letterL, hp, a]
      rw [e]
      go_enter Try.func34, Try.ntmps34
      go_wp2_with (first
        | (go_at_call 45; with_reducible refine hP.mono ?_; rintro e wq ⟨rfl, hq⟩; subst wq)
        | fail)
      go_ret
      exact ⟨by simp [a], rfl⟩
end Go.Proofs.Ytpndbbepfjocgaa
namespace Go.Proofs.Ytpndbbepfjocgaa
open Go.RowKit
set_option maxRecDepth 100000

theorem pm_any (n : Nat) (w : World) : Calls Try.prog 48 #[.int .u8 (n : Int)] w fun e w' => e = .returned (.bool (pmL n)) ∧ w' = w := by
  by_cases a1 : n = 43
  · subst a1
    go_enter Try.func48, Try.ntmps48
    go_wp2
    go_ret
    exact ⟨rfl, rfl⟩
  · by_cases a2 : n = 45
    · subst a2
      go_enter Try.func48, Try.ntmps48
      go_wp2
      go_ret
      exact ⟨rfl, rfl⟩
    · have e : pmL n = false := by simp [pmL]; omega
      have a1I : ¬ (n : Int) = 43 := by omega
      have a2I : ¬ (n : Int) = 45 := by omega
      rw [e]
      go_enter Try.func48, Try.ntmps48
      go_wp2
      go_ret
      exact ⟨by simp [a1I, a2I], rfl⟩
set_option maxHeartbeats 1000000 in
theorem figB_any (n : Nat) (w : World) (hn : n < 256) : Calls Try.prog 47 #[.int .u8 (n : Int)] w fun e w' => e = .returned (.bool (figL n)) ∧ w' = w := by
  have hP := plain_any (n : Int) w
  have hD := digitL_any (n : Int) w
  cases hp : plainL n with
  | true =>
    rw [hp] at hP
    have e : figL n = true := by simp [figL, hp]
    rw [e]
    clear hD e
    go_enter Try.func47, Try.ntmps47
    go_wp2_with (first
      | (go_at_call 45; with_reducible refine hP.mono ?_; rintro e wq ⟨rfl, hq⟩; subst wq)
      | fail)
    go_ret
    exact ⟨rfl, rfl⟩
  | false =>
    rw [hp] at hP
    cases hd : digitL n with
    | true =>
      rw [hd] at hD
      have e : figL n = true := by simp [figL, hd]
      rw [e]
      clear e
      go_enter Try.func47, Try.ntmps47
      go_wp2_with (first
        | (go_at_call 45; with_reducible refine hP.mono ?_; rintro e wq ⟨rfl, hq⟩; subst wq)
        | (go_at_call 36; with_reducible refine hD.mono ?_; rintro e wq ⟨rfl, hq⟩; subst wq)
        | fail)
      go_ret
      exact ⟨rfl, rfl⟩
    | false =>
      rw [hd] at hD
      have e : figL n = ((n : Int) == 95 || (n : Int) == 46) := by simp only [figL, hp, hd, Bool.false_or]; rfl
      rw [e]
      clear e
      go_enter Try.func47, Try.ntmps47
      go_wp2_with (first
        | (go_at_call 45; with_reducible refine hP.mono ?_; rintro e wq ⟨rfl, hq⟩; subst wq)
        | (go_at_call 36; with_reducible refine hD.mono ?_; rintro e wq ⟨rfl, hq⟩; subst wq)
        | fail)
      all_goals go_ret
      all_goals exact ⟨by simp_all, rfl⟩
end Go.Proofs.Ytpndbbepfjocgaa
