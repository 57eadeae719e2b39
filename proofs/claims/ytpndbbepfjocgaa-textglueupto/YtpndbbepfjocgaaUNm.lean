import Derived.Test.YtpndbbepfjocgaaCUBy
import Derived.Test.YtpndbbepfjocgaaCKGa
namespace Go.Proofs.Ytpndbbepfjocgaa
open Go.RowKit
set_option maxRecDepth 100000

theorem nmF_stop {s : ByteArray} {f k R : Nat} (h : nmF s f k = R) (hn : nameL (numAt s k) = false) : R = k := by
  cases f with
  | zero => exact h.symm
  | succ f => rw [nmF, if_neg (fun hc => by rw [hn] at hc; simp at hc)] at h; exact h.symm
theorem nmF_go {s : ByteArray} {f k R : Nat} (h : nmF s f k = R) (hk : k < s.size) (hf : s.size - k ≤ f) (hn : nameL (numAt s k) = true) : ∃ g, s.size - (k + wid s k) ≤ g ∧ nmF s g (k + wid s k) = R := by
  cases f with
  | zero => omega
  | succ f =>
    rw [nmF, if_pos ⟨hk, hn⟩] at h
    have := wid_pos s k
    exact ⟨f, by omega, h⟩
/-- what the document asks of the thing at a place -/
theorem name_byte (s : ByteArray) (k : Nat) (h : k < s.size) (h0 : 0 ≤ numAt s k) (h1 : numAt s k < 192) : nameL (numAt s k) = (plainL (bt s k) || digitL (bt s k) || decide (bt s k = 95)) := by
  by_cases hb : bt s k < 128
  · rw [(dec_low s k h hb).2]
    unfold nameL letterL
    have e : decide (192 ≤ ((bt s k : Nat) : Int)) = false := by simp; omega
    have e2 : decide (((bt s k : Nat) : Int) = 95) = decide (bt s k = 95) := by simp; omega
    rw [e, e2, Bool.or_false]
    cases decide (bt s k = 95) <;> cases plainL (bt s k : Int) <;> cases digitL (bt s k : Int) <;> rfl
  · have h2 := (dec_high s k h (by omega)).2.1
    have h3 : 128 ≤ numAt s k := by omega
    have h4 := bt_lt s k
    unfold nameL letterL plainL digitL
    have q1 : ∀ n : Int, 128 ≤ n → (decide (65 ≤ n) && decide (n ≤ 90) || decide (97 ≤ n) && decide (n ≤ 122)) = false := fun n hn => by simp; omega
    have q2 : ∀ n : Int, 128 ≤ n → (decide (48 ≤ n) && decide (n ≤ 57)) = false := fun n hn => by simp; omega
    have q3 : decide (numAt s k = 95) = false := by simp; omega
    have q4 : decide (192 ≤ numAt s k) = false := by simp; omega
    have q5 : decide (bt s k = 95) = false := by simp; omega
    rw [q1 _ h3, q2 _ h3, q1 _ (by omega), q2 _ (by omega), q3, q4, q5]
    rfl
set_option maxHeartbeats 4000000 in
theorem unm_any (s : ByteArray) (a : Nat) (w : World) (ha : a ≤ s.size) (hs : s.size ≤ 140737488355328) :
    Calls Try.prog 26 #[.string s, .int .i64 a] w fun e w' => e = .returned (.int .i64 (nmEnd s a)) ∧ w' = w := by
  obtain ⟨R, hR⟩ : ∃ R, nmEnd s a = R := ⟨_, rfl⟩
  have HR : Hid (nmF s (s.size - a) a = R) := by rw [Hid, ← hR, nmEnd_F s a ha]
  rw [hR]
  clear hR
  go_enter Try.func26, Try.ntmps26
  go_wp2_with fail
  go_loopw [1] (fun i wr => ∃ k f : Nat, k ≤ s.size ∧ i = .int .i64 k ∧ wr = w ∧ s.size - k ≤ f ∧ Hid (nmF s f k = R)) (fun i _ => s.size - (intOf i).toNat)
  case atStart => exact ⟨a, s.size - a, ha, rfl, rfl, Nat.le_refl _, HR⟩
  case round =>
    clear HR
    obtain ⟨k, f, hk, rfl, rfl, hf, HK⟩ := hrel
    by_cases hlt : k < s.size
    · have hltI : (k : Int) < (s.size : Int) := by omega
      have hra := fun w1 => ra_any s k w1 hs hlt
      have HSt := hidK (fun hn => nmF_stop HK.out hn)
      have HGo := hidK (fun hn => nmF_go HK.out hlt hf hn)
      have hgx := bt_get s k hlt
      have hwp := wid_pos s k
      have hwl := wid_leG s k hlt
      rcases ra_num s k with ⟨e1, e2, _⟩ | ⟨e1, e2⟩
      · rw [e1] at hra
        simp only at hra
        have HE : Hid (R = k) := HSt.out (by rw [e2]; unfold nameL letterL plainL digitL; have := bt_lt s k; simp; omega)
        clear HSt HGo HK e1 e2
        go_wp2_with (first
          | (go_at_call 29; with_reducible refine (hra _).mono ?_; rintro e wq ⟨rfl, hq⟩; subst wq)
          | fail)
        go_ret
        exact ⟨by rw [HE.out]; rfl, rfl⟩
      · rw [e2] at hra
        simp only at hra
        have hP := fun w1 => uplain_any (bt s k : Int) w1
        have hD := fun w1 => udigit_any (bt s k : Int) w1
        have HNB : Hid (numAt s k < 192 → nameL (numAt s k) = (plainL (bt s k) || digitL (bt s k) || decide (bt s k = 95))) := fun h => name_byte s k hlt e1 h
        have hyl := bt_lt s k
        clear HK e2
        generalize numAt s k = n at *
        generalize wid s k = wd at *
        generalize bt s k = y at *
        have hw0 : ¬ (wd : Int) = 0 := by omega
        have hw0b : ((wd : Int) == 0) = false := by rw [beq_eq_false_iff_ne]; exact hw0
        by_cases h192 : 192 ≤ n
        · have h192b : ¬ n < 192 := by omega
          obtain ⟨g, hg, hgo⟩ := HGo.out (by unfold nameL letterL; simp [h192])
          have HN := hidK hgo
          clear HGo HSt hgo HNB
          go_wp2_with (first
            | (go_at_call 29; with_reducible refine (hra _).mono ?_; rintro e wq ⟨rfl, hq⟩; subst wq)
            | (go_at_call 24; with_reducible refine (hP _).mono ?_; rintro e wq ⟨rfl, hq⟩; subst wq)
            | (go_at_call 23; with_reducible refine (hD _).mono ?_; rintro e wq ⟨rfl, hq⟩; subst wq)
            | fail)
          go_roundw
          case rel => exact ⟨k + wd, g, by omega, by go_num, trivial, hg, HN⟩
          case measure => simp [intOf]; omega
        · have h192b : n < 192 := by omega
          have hNB := HNB.out h192b
          cases hp : plainL (y : Int) with
          | true =>
            rw [hp] at hP hNB
            obtain ⟨g, hg, hgo⟩ := HGo.out (by rw [hNB]; simp)
            have HN := hidK hgo
            clear HGo HSt hgo HNB
            go_wp2_with (first
              | (go_at_call 29; with_reducible refine (hra _).mono ?_; rintro e wq ⟨rfl, hq⟩; subst wq)
              | (go_at_call 24; with_reducible refine (hP _).mono ?_; rintro e wq ⟨rfl, hq⟩; subst wq)
              | (go_at_call 23; with_reducible refine (hD _).mono ?_; rintro e wq ⟨rfl, hq⟩; subst wq)
              | fail)
            go_roundw
            case rel => exact ⟨k + wd, g, by omega, by go_num, trivial, hg, HN⟩
            case measure => simp [intOf]; omega
          | false =>
            rw [hp] at hP hNB
            cases hd : digitL (y : Int) with
            | true =>
              rw [hd] at hD hNB
              obtain ⟨g, hg, hgo⟩ := HGo.out (by rw [hNB]; simp)
              have HN := hidK hgo
              clear HGo HSt hgo HNB
              go_wp2_with (first
                | (go_at_call 29; with_reducible refine (hra _).mono ?_; rintro e wq ⟨rfl, hq⟩; subst wq)
                | (go_at_call 24; with_reducible refine (hP _).mono ?_; rintro e wq ⟨rfl, hq⟩; subst wq)
                | (go_at_call 23; with_reducible refine (hD _).mono ?_; rintro e wq ⟨rfl, hq⟩; subst wq)
                | fail)
              go_roundw
              case rel => exact ⟨k + wd, g, by omega, by go_num, trivial, hg, HN⟩
              case measure => simp [intOf]; omega
            | false =>
              rw [hd] at hD hNB
              by_cases h95 : y = 95
              · have h95b : ((y : Int) != 95) = false := by simp; omega
                obtain ⟨g, hg, hgo⟩ := HGo.out (by rw [hNB]; simp [h95])
                have HN := hidK hgo
                clear HGo HSt hgo HNB hNB h95
                go_wp2_with (first
                  | (go_at_call 29; with_reducible refine (hra _).mono ?_; rintro e wq ⟨rfl, hq⟩; subst wq)
                  | (go_at_call 24; with_reducible refine (hP _).mono ?_; rintro e wq ⟨rfl, hq⟩; subst wq)
                  | (go_at_call 23; with_reducible refine (hD _).mono ?_; rintro e wq ⟨rfl, hq⟩; subst wq)
                  | fail)
                go_roundw
                case rel => exact ⟨k + wd, g, by omega, by go_num, trivial, hg, HN⟩
                case measure => simp [intOf]; omega
              · have h95b : ((y : Int) != 95) = true := by simp; omega
                have HE : Hid (R = k) := HSt.out (by rw [hNB]; simp [h95])
                clear HGo HSt HNB
                go_wp2_with (first
                  | (go_at_call 29; with_reducible refine (hra _).mono ?_; rintro e wq ⟨rfl, hq⟩; subst wq)
                  | (go_at_call 24; with_reducible refine (hP _).mono ?_; rintro e wq ⟨rfl, hq⟩; subst wq)
                  | (go_at_call 23; with_reducible refine (hD _).mono ?_; rintro e wq ⟨rfl, hq⟩; subst wq)
                  | fail)
                go_ret
                exact ⟨by rw [HE.out]; rfl, rfl⟩
    · obtain rfl : k = s.size := by omega
      have HE : Hid (R = s.size) := by
        rw [Hid]
        have := HK.out
        cases f with
        | zero => exact this.symm
        | succ f => rw [nmF, if_neg (fun hc => by omega)] at this; exact this.symm
      clear HK
      go_wp2_with fail
      go_ret
      exact ⟨by rw [HE.out]; rfl, rfl⟩
end Go.Proofs.Ytpndbbepfjocgaa
