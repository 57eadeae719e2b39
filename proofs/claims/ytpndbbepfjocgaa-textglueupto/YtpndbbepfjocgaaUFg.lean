import Derived.Test.YtpndbbepfjocgaaCUBy
import Derived.Test.YtpndbbepfjocgaaCKGa
namespace Go.Proofs.Ytpndbbepfjocgaa
open Go.RowKit
set_option maxRecDepth 100000

set_option maxHeartbeats 8000000 in
theorem ufg_n1 (s : ByteArray) (a : Nat) (w : World) (ha : a < s.size) (hs : s.size ≤ 140737488355328) (h : ¬ a + 1 < s.size) :
    Calls Try.prog 25 #[.string s, .int .i64 a] w fun e w' => e = .returned (.int .i64 (fgEnd s a)) ∧ w' = w := by
  have hX : hexP s a = false := by
    have hi := hexP_iff s a
    cases hq : hexP s a with
    | true => first | rfl | (have := hi.1 hq; omega)
    | false => first | rfl | (have := hi.2 ⟨by omega, by omega, by omega⟩; rw [hq] at this; exact this)
  obtain ⟨R, hR⟩ : ∃ R, fgEnd s a = R := ⟨_, rfl⟩
  rw [hR]
  unfold fgEnd at hR
  rw [hX] at hR
  have HR : Hid (figF s false s.size (a + 1) = R) := hR
  clear hR hX
  have haI : (a : Int) < (s.size : Int) := by omega
  have hI : ¬ (a : Int) + 1 < (s.size : Int) := by omega
  go_enter Try.func25, Try.ntmps25
  go_wp2_with fail
  go_loopw [6] (fun i wr => ∃ k f : Nat, a < k ∧ k ≤ s.size ∧ i = .int .i64 k ∧ wr = w ∧ s.size - k ≤ f ∧ Hid (figF s false f k = R)) (fun i _ => s.size - (intOf i).toNat)
  case atStart => exact ⟨a + 1, s.size, by omega, by omega, by simp, rfl, by omega, HR⟩
  case round =>
    clear HR
    obtain ⟨k, f, hak, hk, rfl, rfl, hf, HK⟩ := hrel
    by_cases hlt : k < s.size
    · have hltI : (k : Int) < (s.size : Int) := by omega
      obtain ⟨c, hc⟩ : ∃ c, k = c + 1 := ⟨k - 1, by omega⟩
      have hcI : (k : Int) - 1 = (c : Int) := by omega
      have hcl : c < s.size := by omega
      have hclI : (c : Int) < (s.size : Int) := by omega
      have hy := bt_get s k hlt
      have hx := bt_get s c hcl
      have hD := fun w1 => udigit_any (bt s k : Int) w1
      have hP := fun w1 => uplain_any (bt s k : Int) w1
      have HC : Hid (figC s false k = ((plainL (bt s k) || digitL (bt s k) || decide (((bt s k : Nat) : Int) = 95) || decide (((bt s k : Nat) : Int) = 46)) || (pmL (bt s k) && powL false (bt s c)))) := by rw [Hid, figC, hc]; rfl
      clear hc
      generalize bt s c = x at *
      generalize bt s k = y at *
      by_cases x1 : x = 101
      · have hpw : powL false x = true := by simp [powL, x1]
        rw [hpw] at HC
        rw [x1] at hx
        clear x1 hpw
        cases hd : digitL (y : Int) with
        | true =>
          rw [hd] at hD HC
          have HC2 : Hid (figC s false k = true) := by rw [Hid, HC.out]; simp
          obtain ⟨g, hg, hst⟩ := figF_step s false f k hlt HC2.out hf
          have HK2 : Hid (figF s false g (k + 1) = R) := by rw [Hid, ← hst]; exact HK.out
          clear HC HK hst HC2 
          go_wp2_with (first
            | (go_at_call 23; with_reducible refine (hD _).mono ?_; rintro e wq ⟨rfl, hq⟩; subst wq)
            | (go_at_call 24; with_reducible refine (hP _).mono ?_; rintro e wq ⟨rfl, hq⟩; subst wq)
            | fail)
          go_roundw
          case rel => exact ⟨k + 1, g, by omega, by omega, by go_num, trivial, hg, HK2⟩
          case measure => simp [intOf]; omega
        | false =>
          rw [hd] at hD HC
          cases hp : plainL (y : Int) with
          | true =>
            rw [hp] at hP HC
            have HC2 : Hid (figC s false k = true) := by rw [Hid, HC.out]; simp
            obtain ⟨g, hg, hst⟩ := figF_step s false f k hlt HC2.out hf
            have HK2 : Hid (figF s false g (k + 1) = R) := by rw [Hid, ← hst]; exact HK.out
            clear HC HK hst HC2 
            go_wp2_with (first
              | (go_at_call 23; with_reducible refine (hD _).mono ?_; rintro e wq ⟨rfl, hq⟩; subst wq)
              | (go_at_call 24; with_reducible refine (hP _).mono ?_; rintro e wq ⟨rfl, hq⟩; subst wq)
              | fail)
            go_roundw
            case rel => exact ⟨k + 1, g, by omega, by omega, by go_num, trivial, hg, HK2⟩
            case measure => simp [intOf]; omega
          | false =>
            rw [hp] at hP HC
            by_cases y95 : y = 95
            · have y95b : ((y : Int) != 95) = false := by simp; omega
              have HC2 : Hid (figC s false k = true) := by rw [Hid, HC.out]; simp [y95]
              obtain ⟨g, hg, hst⟩ := figF_step s false f k hlt HC2.out hf
              have HK2 : Hid (figF s false g (k + 1) = R) := by rw [Hid, ← hst]; exact HK.out
              clear HC HK hst HC2 y95
              go_wp2_with (first
                | (go_at_call 23; with_reducible refine (hD _).mono ?_; rintro e wq ⟨rfl, hq⟩; subst wq)
                | (go_at_call 24; with_reducible refine (hP _).mono ?_; rintro e wq ⟨rfl, hq⟩; subst wq)
                | fail)
              go_roundw
              case rel => exact ⟨k + 1, g, by omega, by omega, by go_num, trivial, hg, HK2⟩
              case measure => simp [intOf]; omega
            · have y95b : ((y : Int) != 95) = true := by simp; omega
              have y95c : ¬ (y : Int) = 95 := by omega
              by_cases y46 : y = 46
              · have y46b : ((y : Int) != 46) = false := by simp; omega
                have HC2 : Hid (figC s false k = true) := by rw [Hid, HC.out]; simp [y46]
                obtain ⟨g, hg, hst⟩ := figF_step s false f k hlt HC2.out hf
                have HK2 : Hid (figF s false g (k + 1) = R) := by rw [Hid, ← hst]; exact HK.out
                clear HC HK hst HC2 y46
                go_wp2_with (first
                  | (go_at_call 23; with_reducible refine (hD _).mono ?_; rintro e wq ⟨rfl, hq⟩; subst wq)
                  | (go_at_call 24; with_reducible refine (hP _).mono ?_; rintro e wq ⟨rfl, hq⟩; subst wq)
                  | fail)
                go_roundw
                case rel => exact ⟨k + 1, g, by omega, by omega, by go_num, trivial, hg, HK2⟩
                case measure => simp [intOf]; omega
              · have y46b : ((y : Int) != 46) = true := by simp; omega
                have y46c : ¬ (y : Int) = 46 := by omega
                by_cases y43 : y = 43
                · have y43b : ((y : Int) == 43) = true := by simp; omega
                  have HC2 : Hid (figC s false k = true) := by rw [Hid, HC.out]; simp [pmL, y43]
                  obtain ⟨g, hg, hst⟩ := figF_step s false f k hlt HC2.out hf
                  have HK2 : Hid (figF s false g (k + 1) = R) := by rw [Hid, ← hst]; exact HK.out
                  clear HC HK hst HC2 y43
                  go_wp2_with (first
                    | (go_at_call 23; with_reducible refine (hD _).mono ?_; rintro e wq ⟨rfl, hq⟩; subst wq)
                    | (go_at_call 24; with_reducible refine (hP _).mono ?_; rintro e wq ⟨rfl, hq⟩; subst wq)
                    | fail)
                  go_roundw
                  case rel => exact ⟨k + 1, g, by omega, by omega, by go_num, trivial, hg, HK2⟩
                  case measure => simp [intOf]; omega
                · have y43b : ((y : Int) == 43) = false := by simp; omega
                  have y43c : ¬ (y : Int) = 43 := by omega
                  by_cases y45 : y = 45
                  · have y45b : ((y : Int) == 45) = true := by simp; omega
                    have HC2 : Hid (figC s false k = true) := by rw [Hid, HC.out]; simp [pmL, y45]
                    obtain ⟨g, hg, hst⟩ := figF_step s false f k hlt HC2.out hf
                    have HK2 : Hid (figF s false g (k + 1) = R) := by rw [Hid, ← hst]; exact HK.out
                    clear HC HK hst HC2 y45
                    go_wp2_with (first
                      | (go_at_call 23; with_reducible refine (hD _).mono ?_; rintro e wq ⟨rfl, hq⟩; subst wq)
                      | (go_at_call 24; with_reducible refine (hP _).mono ?_; rintro e wq ⟨rfl, hq⟩; subst wq)
                      | fail)
                    go_roundw
                    case rel => exact ⟨k + 1, g, by omega, by omega, by go_num, trivial, hg, HK2⟩
                    case measure => simp [intOf]; omega
                  · have y45b : ((y : Int) == 45) = false := by simp; omega
                    have y45c : ¬ (y : Int) = 45 := by omega
                    have HC2 : Hid (figC s false k = false) := by rw [Hid, HC.out]; simp [pmL, y95c, y46c, y43c, y45c]
                    have HK2 : Hid (k = R) := by rw [Hid, ← HK.out, figF_stop s false f k (fun h => by rw [HC2.out] at h; simp at h)]
                    clear HC HK HC2 
                    go_wp2_with (first
                      | (go_at_call 23; with_reducible refine (hD _).mono ?_; rintro e wq ⟨rfl, hq⟩; subst wq)
                      | (go_at_call 24; with_reducible refine (hP _).mono ?_; rintro e wq ⟨rfl, hq⟩; subst wq)
                      | fail)
                    go_ret
                    exact ⟨ret_int (by rw [← HK2.out]), rfl⟩
      · have x1b : ((x : Int) == 101) = false := by simp; omega
        have x1c : ¬ (x : Int) = 101 := by omega
        by_cases x2 : x = 69
        · have hpw : powL false x = true := by simp [powL, x2]
          rw [hpw] at HC
          rw [x2] at hx
          clear x1 x1b x1c x2 hpw
          cases hd : digitL (y : Int) with
          | true =>
            rw [hd] at hD HC
            have HC2 : Hid (figC s false k = true) := by rw [Hid, HC.out]; simp
            obtain ⟨g, hg, hst⟩ := figF_step s false f k hlt HC2.out hf
            have HK2 : Hid (figF s false g (k + 1) = R) := by rw [Hid, ← hst]; exact HK.out
            clear HC HK hst HC2 
            go_wp2_with (first
              | (go_at_call 23; with_reducible refine (hD _).mono ?_; rintro e wq ⟨rfl, hq⟩; subst wq)
              | (go_at_call 24; with_reducible refine (hP _).mono ?_; rintro e wq ⟨rfl, hq⟩; subst wq)
              | fail)
            go_roundw
            case rel => exact ⟨k + 1, g, by omega, by omega, by go_num, trivial, hg, HK2⟩
            case measure => simp [intOf]; omega
          | false =>
            rw [hd] at hD HC
            cases hp : plainL (y : Int) with
            | true =>
              rw [hp] at hP HC
              have HC2 : Hid (figC s false k = true) := by rw [Hid, HC.out]; simp
              obtain ⟨g, hg, hst⟩ := figF_step s false f k hlt HC2.out hf
              have HK2 : Hid (figF s false g (k + 1) = R) := by rw [Hid, ← hst]; exact HK.out
              clear HC HK hst HC2 
              go_wp2_with (first
                | (go_at_call 23; with_reducible refine (hD _).mono ?_; rintro e wq ⟨rfl, hq⟩; subst wq)
                | (go_at_call 24; with_reducible refine (hP _).mono ?_; rintro e wq ⟨rfl, hq⟩; subst wq)
                | fail)
              go_roundw
              case rel => exact ⟨k + 1, g, by omega, by omega, by go_num, trivial, hg, HK2⟩
              case measure => simp [intOf]; omega
            | false =>
              rw [hp] at hP HC
              by_cases y95 : y = 95
              · have y95b : ((y : Int) != 95) = false := by simp; omega
                have HC2 : Hid (figC s false k = true) := by rw [Hid, HC.out]; simp [y95]
                obtain ⟨g, hg, hst⟩ := figF_step s false f k hlt HC2.out hf
                have HK2 : Hid (figF s false g (k + 1) = R) := by rw [Hid, ← hst]; exact HK.out
                clear HC HK hst HC2 y95
                go_wp2_with (first
                  | (go_at_call 23; with_reducible refine (hD _).mono ?_; rintro e wq ⟨rfl, hq⟩; subst wq)
                  | (go_at_call 24; with_reducible refine (hP _).mono ?_; rintro e wq ⟨rfl, hq⟩; subst wq)
                  | fail)
                go_roundw
                case rel => exact ⟨k + 1, g, by omega, by omega, by go_num, trivial, hg, HK2⟩
                case measure => simp [intOf]; omega
              · have y95b : ((y : Int) != 95) = true := by simp; omega
                have y95c : ¬ (y : Int) = 95 := by omega
                by_cases y46 : y = 46
                · have y46b : ((y : Int) != 46) = false := by simp; omega
                  have HC2 : Hid (figC s false k = true) := by rw [Hid, HC.out]; simp [y46]
                  obtain ⟨g, hg, hst⟩ := figF_step s false f k hlt HC2.out hf
                  have HK2 : Hid (figF s false g (k + 1) = R) := by rw [Hid, ← hst]; exact HK.out
                  clear HC HK hst HC2 y46
                  go_wp2_with (first
                    | (go_at_call 23; with_reducible refine (hD _).mono ?_; rintro e wq ⟨rfl, hq⟩; subst wq)
                    | (go_at_call 24; with_reducible refine (hP _).mono ?_; rintro e wq ⟨rfl, hq⟩; subst wq)
                    | fail)
                  go_roundw
                  case rel => exact ⟨k + 1, g, by omega, by omega, by go_num, trivial, hg, HK2⟩
                  case measure => simp [intOf]; omega
                · have y46b : ((y : Int) != 46) = true := by simp; omega
                  have y46c : ¬ (y : Int) = 46 := by omega
                  by_cases y43 : y = 43
                  · have y43b : ((y : Int) == 43) = true := by simp; omega
                    have HC2 : Hid (figC s false k = true) := by rw [Hid, HC.out]; simp [pmL, y43]
                    obtain ⟨g, hg, hst⟩ := figF_step s false f k hlt HC2.out hf
                    have HK2 : Hid (figF s false g (k + 1) = R) := by rw [Hid, ← hst]; exact HK.out
                    clear HC HK hst HC2 y43
                    go_wp2_with (first
                      | (go_at_call 23; with_reducible refine (hD _).mono ?_; rintro e wq ⟨rfl, hq⟩; subst wq)
                      | (go_at_call 24; with_reducible refine (hP _).mono ?_; rintro e wq ⟨rfl, hq⟩; subst wq)
                      | fail)
                    go_roundw
                    case rel => exact ⟨k + 1, g, by omega, by omega, by go_num, trivial, hg, HK2⟩
                    case measure => simp [intOf]; omega
                  · have y43b : ((y : Int) == 43) = false := by simp; omega
                    have y43c : ¬ (y : Int) = 43 := by omega
                    by_cases y45 : y = 45
                    · have y45b : ((y : Int) == 45) = true := by simp; omega
                      have HC2 : Hid (figC s false k = true) := by rw [Hid, HC.out]; simp [pmL, y45]
                      obtain ⟨g, hg, hst⟩ := figF_step s false f k hlt HC2.out hf
                      have HK2 : Hid (figF s false g (k + 1) = R) := by rw [Hid, ← hst]; exact HK.out
                      clear HC HK hst HC2 y45
                      go_wp2_with (first
                        | (go_at_call 23; with_reducible refine (hD _).mono ?_; rintro e wq ⟨rfl, hq⟩; subst wq)
                        | (go_at_call 24; with_reducible refine (hP _).mono ?_; rintro e wq ⟨rfl, hq⟩; subst wq)
                        | fail)
                      go_roundw
                      case rel => exact ⟨k + 1, g, by omega, by omega, by go_num, trivial, hg, HK2⟩
                      case measure => simp [intOf]; omega
                    · have y45b : ((y : Int) == 45) = false := by simp; omega
                      have y45c : ¬ (y : Int) = 45 := by omega
                      have HC2 : Hid (figC s false k = false) := by rw [Hid, HC.out]; simp [pmL, y95c, y46c, y43c, y45c]
                      have HK2 : Hid (k = R) := by rw [Hid, ← HK.out, figF_stop s false f k (fun h => by rw [HC2.out] at h; simp at h)]
                      clear HC HK HC2 
                      go_wp2_with (first
                        | (go_at_call 23; with_reducible refine (hD _).mono ?_; rintro e wq ⟨rfl, hq⟩; subst wq)
                        | (go_at_call 24; with_reducible refine (hP _).mono ?_; rintro e wq ⟨rfl, hq⟩; subst wq)
                        | fail)
                      go_ret
                      exact ⟨ret_int (by rw [← HK2.out]), rfl⟩
        · have x2b : ((x : Int) == 69) = false := by simp; omega
          have x2c : ¬ (x : Int) = 69 := by omega
          have hpw : powL false x = false := by simp [powL, x1, x2]
          rw [hpw] at HC
          clear hpw
          cases hd : digitL (y : Int) with
          | true =>
            rw [hd] at hD HC
            have HC2 : Hid (figC s false k = true) := by rw [Hid, HC.out]; simp
            obtain ⟨g, hg, hst⟩ := figF_step s false f k hlt HC2.out hf
            have HK2 : Hid (figF s false g (k + 1) = R) := by rw [Hid, ← hst]; exact HK.out
            clear HC HK hst HC2 
            go_wp2_with (first
              | (go_at_call 23; with_reducible refine (hD _).mono ?_; rintro e wq ⟨rfl, hq⟩; subst wq)
              | (go_at_call 24; with_reducible refine (hP _).mono ?_; rintro e wq ⟨rfl, hq⟩; subst wq)
              | fail)
            go_roundw
            case rel => exact ⟨k + 1, g, by omega, by omega, by go_num, trivial, hg, HK2⟩
            case measure => simp [intOf]; omega
          | false =>
            rw [hd] at hD HC
            cases hp : plainL (y : Int) with
            | true =>
              rw [hp] at hP HC
              have HC2 : Hid (figC s false k = true) := by rw [Hid, HC.out]; simp
              obtain ⟨g, hg, hst⟩ := figF_step s false f k hlt HC2.out hf
              have HK2 : Hid (figF s false g (k + 1) = R) := by rw [Hid, ← hst]; exact HK.out
              clear HC HK hst HC2 
              go_wp2_with (first
                | (go_at_call 23; with_reducible refine (hD _).mono ?_; rintro e wq ⟨rfl, hq⟩; subst wq)
                | (go_at_call 24; with_reducible refine (hP _).mono ?_; rintro e wq ⟨rfl, hq⟩; subst wq)
                | fail)
              go_roundw
              case rel => exact ⟨k + 1, g, by omega, by omega, by go_num, trivial, hg, HK2⟩
              case measure => simp [intOf]; omega
            | false =>
              rw [hp] at hP HC
              by_cases y95 : y = 95
              · have y95b : ((y : Int) != 95) = false := by simp; omega
                have HC2 : Hid (figC s false k = true) := by rw [Hid, HC.out]; simp [y95]
                obtain ⟨g, hg, hst⟩ := figF_step s false f k hlt HC2.out hf
                have HK2 : Hid (figF s false g (k + 1) = R) := by rw [Hid, ← hst]; exact HK.out
                clear HC HK hst HC2 y95
                go_wp2_with (first
                  | (go_at_call 23; with_reducible refine (hD _).mono ?_; rintro e wq ⟨rfl, hq⟩; subst wq)
                  | (go_at_call 24; with_reducible refine (hP _).mono ?_; rintro e wq ⟨rfl, hq⟩; subst wq)
                  | fail)
                go_roundw
                case rel => exact ⟨k + 1, g, by omega, by omega, by go_num, trivial, hg, HK2⟩
                case measure => simp [intOf]; omega
              · have y95b : ((y : Int) != 95) = true := by simp; omega
                have y95c : ¬ (y : Int) = 95 := by omega
                by_cases y46 : y = 46
                · have y46b : ((y : Int) != 46) = false := by simp; omega
                  have HC2 : Hid (figC s false k = true) := by rw [Hid, HC.out]; simp [y46]
                  obtain ⟨g, hg, hst⟩ := figF_step s false f k hlt HC2.out hf
                  have HK2 : Hid (figF s false g (k + 1) = R) := by rw [Hid, ← hst]; exact HK.out
                  clear HC HK hst HC2 y46
                  go_wp2_with (first
                    | (go_at_call 23; with_reducible refine (hD _).mono ?_; rintro e wq ⟨rfl, hq⟩; subst wq)
                    | (go_at_call 24; with_reducible refine (hP _).mono ?_; rintro e wq ⟨rfl, hq⟩; subst wq)
                    | fail)
                  go_roundw
                  case rel => exact ⟨k + 1, g, by omega, by omega, by go_num, trivial, hg, HK2⟩
                  case measure => simp [intOf]; omega
                · have y46b : ((y : Int) != 46) = true := by simp; omega
                  have y46c : ¬ (y : Int) = 46 := by omega
                  have HC2 : Hid (figC s false k = false) := by rw [Hid, HC.out]; simp [y95c, y46c]
                  have HK2 : Hid (k = R) := by rw [Hid, ← HK.out, figF_stop s false f k (fun h => by rw [HC2.out] at h; simp at h)]
                  clear HC HK HC2 
                  go_wp2_with (first
                    | (go_at_call 23; with_reducible refine (hD _).mono ?_; rintro e wq ⟨rfl, hq⟩; subst wq)
                    | (go_at_call 24; with_reducible refine (hP _).mono ?_; rintro e wq ⟨rfl, hq⟩; subst wq)
                    | fail)
                  go_ret
                  exact ⟨ret_int (by rw [← HK2.out]), rfl⟩
    · have hltI : ¬ (k : Int) < (s.size : Int) := by omega
      have HK2 : Hid (k = R) := by rw [Hid, ← HK.out, figF_stop s false f k (fun h => hlt h.1)]
      clear HK
      go_wp2_with fail
      go_ret
      exact ⟨ret_int (by rw [← HK2.out]), rfl⟩
set_option maxHeartbeats 8000000 in
theorem ufg_n2 (s : ByteArray) (a : Nat) (w : World) (ha : a < s.size) (hs : s.size ≤ 140737488355328) (h1 : a + 1 < s.size) (h : bt s a ≠ 48) :
    Calls Try.prog 25 #[.string s, .int .i64 a] w fun e w' => e = .returned (.int .i64 (fgEnd s a)) ∧ w' = w := by
  have hX : hexP s a = false := by
    have hi := hexP_iff s a
    cases hq : hexP s a with
    | true => first | rfl | (have := hi.1 hq; omega)
    | false => first | rfl | (have := hi.2 ⟨by omega, by omega, by omega⟩; rw [hq] at this; exact this)
  obtain ⟨R, hR⟩ : ∃ R, fgEnd s a = R := ⟨_, rfl⟩
  rw [hR]
  unfold fgEnd at hR
  rw [hX] at hR
  have HR : Hid (figF s false s.size (a + 1) = R) := hR
  clear hR hX
  have haI : (a : Int) < (s.size : Int) := by omega
  have hI1 : (a : Int) + 1 < (s.size : Int) := by omega
  have hg0 := bt_get s a ha
  have hn : ((bt s a : Int) == 48) = false := by simp; omega
  have hn2 : ¬ (bt s a : Int) = 48 := by omega
  generalize bt s a = y0 at *
  go_enter Try.func25, Try.ntmps25
  go_wp2_with fail
  go_loopw [6] (fun i wr => ∃ k f : Nat, a < k ∧ k ≤ s.size ∧ i = .int .i64 k ∧ wr = w ∧ s.size - k ≤ f ∧ Hid (figF s false f k = R)) (fun i _ => s.size - (intOf i).toNat)
  case atStart => exact ⟨a + 1, s.size, by omega, by omega, by simp, rfl, by omega, HR⟩
  case round =>
    clear HR
    obtain ⟨k, f, hak, hk, rfl, rfl, hf, HK⟩ := hrel
    by_cases hlt : k < s.size
    · have hltI : (k : Int) < (s.size : Int) := by omega
      obtain ⟨c, hc⟩ : ∃ c, k = c + 1 := ⟨k - 1, by omega⟩
      have hcI : (k : Int) - 1 = (c : Int) := by omega
      have hcl : c < s.size := by omega
      have hclI : (c : Int) < (s.size : Int) := by omega
      have hy := bt_get s k hlt
      have hx := bt_get s c hcl
      have hD := fun w1 => udigit_any (bt s k : Int) w1
      have hP := fun w1 => uplain_any (bt s k : Int) w1
      have HC : Hid (figC s false k = ((plainL (bt s k) || digitL (bt s k) || decide (((bt s k : Nat) : Int) = 95) || decide (((bt s k : Nat) : Int) = 46)) || (pmL (bt s k) && powL false (bt s c)))) := by rw [Hid, figC, hc]; rfl
      clear hc
      generalize bt s c = x at *
      generalize bt s k = y at *
      by_cases x1 : x = 101
      · have hpw : powL false x = true := by simp [powL, x1]
        rw [hpw] at HC
        rw [x1] at hx
        clear x1 hpw
        cases hd : digitL (y : Int) with
        | true =>
          rw [hd] at hD HC
          have HC2 : Hid (figC s false k = true) := by rw [Hid, HC.out]; simp
          obtain ⟨g, hg, hst⟩ := figF_step s false f k hlt HC2.out hf
          have HK2 : Hid (figF s false g (k + 1) = R) := by rw [Hid, ← hst]; exact HK.out
          clear HC HK hst HC2 
          go_wp2_with (first
            | (go_at_call 23; with_reducible refine (hD _).mono ?_; rintro e wq ⟨rfl, hq⟩; subst wq)
            | (go_at_call 24; with_reducible refine (hP _).mono ?_; rintro e wq ⟨rfl, hq⟩; subst wq)
            | fail)
          go_roundw
          case rel => exact ⟨k + 1, g, by omega, by omega, by go_num, trivial, hg, HK2⟩
          case measure => simp [intOf]; omega
        | false =>
          rw [hd] at hD HC
          cases hp : plainL (y : Int) with
          | true =>
            rw [hp] at hP HC
            have HC2 : Hid (figC s false k = true) := by rw [Hid, HC.out]; simp
            obtain ⟨g, hg, hst⟩ := figF_step s false f k hlt HC2.out hf
            have HK2 : Hid (figF s false g (k + 1) = R) := by rw [Hid, ← hst]; exact HK.out
            clear HC HK hst HC2 
            go_wp2_with (first
              | (go_at_call 23; with_reducible refine (hD _).mono ?_; rintro e wq ⟨rfl, hq⟩; subst wq)
              | (go_at_call 24; with_reducible refine (hP _).mono ?_; rintro e wq ⟨rfl, hq⟩; subst wq)
              | fail)
            go_roundw
            case rel => exact ⟨k + 1, g, by omega, by omega, by go_num, trivial, hg, HK2⟩
            case measure => simp [intOf]; omega
          | false =>
            rw [hp] at hP HC
            by_cases y95 : y = 95
            · have y95b : ((y : Int) != 95) = false := by simp; omega
              have HC2 : Hid (figC s false k = true) := by rw [Hid, HC.out]; simp [y95]
              obtain ⟨g, hg, hst⟩ := figF_step s false f k hlt HC2.out hf
              have HK2 : Hid (figF s false g (k + 1) = R) := by rw [Hid, ← hst]; exact HK.out
              clear HC HK hst HC2 y95
              go_wp2_with (first
                | (go_at_call 23; with_reducible refine (hD _).mono ?_; rintro e wq ⟨rfl, hq⟩; subst wq)
                | (go_at_call 24; with_reducible refine (hP _).mono ?_; rintro e wq ⟨rfl, hq⟩; subst wq)
                | fail)
              go_roundw
              case rel => exact ⟨k + 1, g, by omega, by omega, by go_num, trivial, hg, HK2⟩
              case measure => simp [intOf]; omega
            · have y95b : ((y : Int) != 95) = true := by simp; omega
              have y95c : ¬ (y : Int) = 95 := by omega
              by_cases y46 : y = 46
              · have y46b : ((y : Int) != 46) = false := by simp; omega
                have HC2 : Hid (figC s false k = true) := by rw [Hid, HC.out]; simp [y46]
                obtain ⟨g, hg, hst⟩ := figF_step s false f k hlt HC2.out hf
                have HK2 : Hid (figF s false g (k + 1) = R) := by rw [Hid, ← hst]; exact HK.out
                clear HC HK hst HC2 y46
                go_wp2_with (first
                  | (go_at_call 23; with_reducible refine (hD _).mono ?_; rintro e wq ⟨rfl, hq⟩; subst wq)
                  | (go_at_call 24; with_reducible refine (hP _).mono ?_; rintro e wq ⟨rfl, hq⟩; subst wq)
                  | fail)
                go_roundw
                case rel => exact ⟨k + 1, g, by omega, by omega, by go_num, trivial, hg, HK2⟩
                case measure => simp [intOf]; omega
              · have y46b : ((y : Int) != 46) = true := by simp; omega
                have y46c : ¬ (y : Int) = 46 := by omega
                by_cases y43 : y = 43
                · have y43b : ((y : Int) == 43) = true := by simp; omega
                  have HC2 : Hid (figC s false k = true) := by rw [Hid, HC.out]; simp [pmL, y43]
                  obtain ⟨g, hg, hst⟩ := figF_step s false f k hlt HC2.out hf
                  have HK2 : Hid (figF s false g (k + 1) = R) := by rw [Hid, ← hst]; exact HK.out
                  clear HC HK hst HC2 y43
                  go_wp2_with (first
                    | (go_at_call 23; with_reducible refine (hD _).mono ?_; rintro e wq ⟨rfl, hq⟩; subst wq)
                    | (go_at_call 24; with_reducible refine (hP _).mono ?_; rintro e wq ⟨rfl, hq⟩; subst wq)
                    | fail)
                  go_roundw
                  case rel => exact ⟨k + 1, g, by omega, by omega, by go_num, trivial, hg, HK2⟩
                  case measure => simp [intOf]; omega
                · have y43b : ((y : Int) == 43) = false := by simp; omega
                  have y43c : ¬ (y : Int) = 43 := by omega
                  by_cases y45 : y = 45
                  · have y45b : ((y : Int) == 45) = true := by simp; omega
                    have HC2 : Hid (figC s false k = true) := by rw [Hid, HC.out]; simp [pmL, y45]
                    obtain ⟨g, hg, hst⟩ := figF_step s false f k hlt HC2.out hf
                    have HK2 : Hid (figF s false g (k + 1) = R) := by rw [Hid, ← hst]; exact HK.out
                    clear HC HK hst HC2 y45
                    go_wp2_with (first
                      | (go_at_call 23; with_reducible refine (hD _).mono ?_; rintro e wq ⟨rfl, hq⟩; subst wq)
                      | (go_at_call 24; with_reducible refine (hP _).mono ?_; rintro e wq ⟨rfl, hq⟩; subst wq)
                      | fail)
                    go_roundw
                    case rel => exact ⟨k + 1, g, by omega, by omega, by go_num, trivial, hg, HK2⟩
                    case measure => simp [intOf]; omega
                  · have y45b : ((y : Int) == 45) = false := by simp; omega
                    have y45c : ¬ (y : Int) = 45 := by omega
                    have HC2 : Hid (figC s false k = false) := by rw [Hid, HC.out]; simp [pmL, y95c, y46c, y43c, y45c]
                    have HK2 : Hid (k = R) := by rw [Hid, ← HK.out, figF_stop s false f k (fun h => by rw [HC2.out] at h; simp at h)]
                    clear HC HK HC2 
                    go_wp2_with (first
                      | (go_at_call 23; with_reducible refine (hD _).mono ?_; rintro e wq ⟨rfl, hq⟩; subst wq)
                      | (go_at_call 24; with_reducible refine (hP _).mono ?_; rintro e wq ⟨rfl, hq⟩; subst wq)
                      | fail)
                    go_ret
                    exact ⟨ret_int (by rw [← HK2.out]), rfl⟩
      · have x1b : ((x : Int) == 101) = false := by simp; omega
        have x1c : ¬ (x : Int) = 101 := by omega
        by_cases x2 : x = 69
        · have hpw : powL false x = true := by simp [powL, x2]
          rw [hpw] at HC
          rw [x2] at hx
          clear x1 x1b x1c x2 hpw
          cases hd : digitL (y : Int) with
          | true =>
            rw [hd] at hD HC
            have HC2 : Hid (figC s false k = true) := by rw [Hid, HC.out]; simp
            obtain ⟨g, hg, hst⟩ := figF_step s false f k hlt HC2.out hf
            have HK2 : Hid (figF s false g (k + 1) = R) := by rw [Hid, ← hst]; exact HK.out
            clear HC HK hst HC2 
            go_wp2_with (first
              | (go_at_call 23; with_reducible refine (hD _).mono ?_; rintro e wq ⟨rfl, hq⟩; subst wq)
              | (go_at_call 24; with_reducible refine (hP _).mono ?_; rintro e wq ⟨rfl, hq⟩; subst wq)
              | fail)
            go_roundw
            case rel => exact ⟨k + 1, g, by omega, by omega, by go_num, trivial, hg, HK2⟩
            case measure => simp [intOf]; omega
          | false =>
            rw [hd] at hD HC
            cases hp : plainL (y : Int) with
            | true =>
              rw [hp] at hP HC
              have HC2 : Hid (figC s false k = true) := by rw [Hid, HC.out]; simp
              obtain ⟨g, hg, hst⟩ := figF_step s false f k hlt HC2.out hf
              have HK2 : Hid (figF s false g (k + 1) = R) := by rw [Hid, ← hst]; exact HK.out
              clear HC HK hst HC2 
              go_wp2_with (first
                | (go_at_call 23; with_reducible refine (hD _).mono ?_; rintro e wq ⟨rfl, hq⟩; subst wq)
                | (go_at_call 24; with_reducible refine (hP _).mono ?_; rintro e wq ⟨rfl, hq⟩; subst wq)
                | fail)
              go_roundw
              case rel => exact ⟨k + 1, g, by omega, by omega, by go_num, trivial, hg, HK2⟩
              case measure => simp [intOf]; omega
            | false =>
              rw [hp] at hP HC
              by_cases y95 : y = 95
              · have y95b : ((y : Int) != 95) = false := by simp; omega
                have HC2 : Hid (figC s false k = true) := by rw [Hid, HC.out]; simp [y95]
                obtain ⟨g, hg, hst⟩ := figF_step s false f k hlt HC2.out hf
                have HK2 : Hid (figF s false g (k + 1) = R) := by rw [Hid, ← hst]; exact HK.out
                clear HC HK hst HC2 y95
                go_wp2_with (first
                  | (go_at_call 23; with_reducible refine (hD _).mono ?_; rintro e wq ⟨rfl, hq⟩; subst wq)
                  | (go_at_call 24; with_reducible refine (hP _).mono ?_; rintro e wq ⟨rfl, hq⟩; subst wq)
                  | fail)
                go_roundw
                case rel => exact ⟨k + 1, g, by omega, by omega, by go_num, trivial, hg, HK2⟩
                case measure => simp [intOf]; omega
              · have y95b : ((y : Int) != 95) = true := by simp; omega
                have y95c : ¬ (y : Int) = 95 := by omega
                by_cases y46 : y = 46
                · have y46b : ((y : Int) != 46) = false := by simp; omega
                  have HC2 : Hid (figC s false k = true) := by rw [Hid, HC.out]; simp [y46]
                  obtain ⟨g, hg, hst⟩ := figF_step s false f k hlt HC2.out hf
                  have HK2 : Hid (figF s false g (k + 1) = R) := by rw [Hid, ← hst]; exact HK.out
                  clear HC HK hst HC2 y46
                  go_wp2_with (first
                    | (go_at_call 23; with_reducible refine (hD _).mono ?_; rintro e wq ⟨rfl, hq⟩; subst wq)
                    | (go_at_call 24; with_reducible refine (hP _).mono ?_; rintro e wq ⟨rfl, hq⟩; subst wq)
                    | fail)
                  go_roundw
                  case rel => exact ⟨k + 1, g, by omega, by omega, by go_num, trivial, hg, HK2⟩
                  case measure => simp [intOf]; omega
                · have y46b : ((y : Int) != 46) = true := by simp; omega
                  have y46c : ¬ (y : Int) = 46 := by omega
                  by_cases y43 : y = 43
                  · have y43b : ((y : Int) == 43) = true := by simp; omega
                    have HC2 : Hid (figC s false k = true) := by rw [Hid, HC.out]; simp [pmL, y43]
                    obtain ⟨g, hg, hst⟩ := figF_step s false f k hlt HC2.out hf
                    have HK2 : Hid (figF s false g (k + 1) = R) := by rw [Hid, ← hst]; exact HK.out
                    clear HC HK hst HC2 y43
                    go_wp2_with (first
                      | (go_at_call 23; with_reducible refine (hD _).mono ?_; rintro e wq ⟨rfl, hq⟩; subst wq)
                      | (go_at_call 24; with_reducible refine (hP _).mono ?_; rintro e wq ⟨rfl, hq⟩; subst wq)
                      | fail)
                    go_roundw
                    case rel => exact ⟨k + 1, g, by omega, by omega, by go_num, trivial, hg, HK2⟩
                    case measure => simp [intOf]; omega
                  · have y43b : ((y : Int) == 43) = false := by simp; omega
                    have y43c : ¬ (y : Int) = 43 := by omega
                    by_cases y45 : y = 45
                    · have y45b : ((y : Int) == 45) = true := by simp; omega
                      have HC2 : Hid (figC s false k = true) := by rw [Hid, HC.out]; simp [pmL, y45]
                      obtain ⟨g, hg, hst⟩ := figF_step s false f k hlt HC2.out hf
                      have HK2 : Hid (figF s false g (k + 1) = R) := by rw [Hid, ← hst]; exact HK.out
                      clear HC HK hst HC2 y45
                      go_wp2_with (first
                        | (go_at_call 23; with_reducible refine (hD _).mono ?_; rintro e wq ⟨rfl, hq⟩; subst wq)
                        | (go_at_call 24; with_reducible refine (hP _).mono ?_; rintro e wq ⟨rfl, hq⟩; subst wq)
                        | fail)
                      go_roundw
                      case rel => exact ⟨k + 1, g, by omega, by omega, by go_num, trivial, hg, HK2⟩
                      case measure => simp [intOf]; omega
                    · have y45b : ((y : Int) == 45) = false := by simp; omega
                      have y45c : ¬ (y : Int) = 45 := by omega
                      have HC2 : Hid (figC s false k = false) := by rw [Hid, HC.out]; simp [pmL, y95c, y46c, y43c, y45c]
                      have HK2 : Hid (k = R) := by rw [Hid, ← HK.out, figF_stop s false f k (fun h => by rw [HC2.out] at h; simp at h)]
                      clear HC HK HC2 
                      go_wp2_with (first
                        | (go_at_call 23; with_reducible refine (hD _).mono ?_; rintro e wq ⟨rfl, hq⟩; subst wq)
                        | (go_at_call 24; with_reducible refine (hP _).mono ?_; rintro e wq ⟨rfl, hq⟩; subst wq)
                        | fail)
                      go_ret
                      exact ⟨ret_int (by rw [← HK2.out]), rfl⟩
        · have x2b : ((x : Int) == 69) = false := by simp; omega
          have x2c : ¬ (x : Int) = 69 := by omega
          have hpw : powL false x = false := by simp [powL, x1, x2]
          rw [hpw] at HC
          clear hpw
          cases hd : digitL (y : Int) with
          | true =>
            rw [hd] at hD HC
            have HC2 : Hid (figC s false k = true) := by rw [Hid, HC.out]; simp
            obtain ⟨g, hg, hst⟩ := figF_step s false f k hlt HC2.out hf
            have HK2 : Hid (figF s false g (k + 1) = R) := by rw [Hid, ← hst]; exact HK.out
            clear HC HK hst HC2 
            go_wp2_with (first
              | (go_at_call 23; with_reducible refine (hD _).mono ?_; rintro e wq ⟨rfl, hq⟩; subst wq)
              | (go_at_call 24; with_reducible refine (hP _).mono ?_; rintro e wq ⟨rfl, hq⟩; subst wq)
              | fail)
            go_roundw
            case rel => exact ⟨k + 1, g, by omega, by omega, by go_num, trivial, hg, HK2⟩
            case measure => simp [intOf]; omega
          | false =>
            rw [hd] at hD HC
            cases hp : plainL (y : Int) with
            | true =>
              rw [hp] at hP HC
              have HC2 : Hid (figC s false k = true) := by rw [Hid, HC.out]; simp
              obtain ⟨g, hg, hst⟩ := figF_step s false f k hlt HC2.out hf
              have HK2 : Hid (figF s false g (k + 1) = R) := by rw [Hid, ← hst]; exact HK.out
              clear HC HK hst HC2 
              go_wp2_with (first
                | (go_at_call 23; with_reducible refine (hD _).mono ?_; rintro e wq ⟨rfl, hq⟩; subst wq)
                | (go_at_call 24; with_reducible refine (hP _).mono ?_; rintro e wq ⟨rfl, hq⟩; subst wq)
                | fail)
              go_roundw
              case rel => exact ⟨k + 1, g, by omega, by omega, by go_num, trivial, hg, HK2⟩
              case measure => simp [intOf]; omega
            | false =>
              rw [hp] at hP HC
              by_cases y95 : y = 95
              · have y95b : ((y : Int) != 95) = false := by simp; omega
                have HC2 : Hid (figC s false k = true) := by rw [Hid, HC.out]; simp [y95]
                obtain ⟨g, hg, hst⟩ := figF_step s false f k hlt HC2.out hf
                have HK2 : Hid (figF s false g (k + 1) = R) := by rw [Hid, ← hst]; exact HK.out
                clear HC HK hst HC2 y95
                go_wp2_with (first
                  | (go_at_call 23; with_reducible refine (hD _).mono ?_; rintro e wq ⟨rfl, hq⟩; subst wq)
                  | (go_at_call 24; with_reducible refine (hP _).mono ?_; rintro e wq ⟨rfl, hq⟩; subst wq)
                  | fail)
                go_roundw
                case rel => exact ⟨k + 1, g, by omega, by omega, by go_num, trivial, hg, HK2⟩
                case measure => simp [intOf]; omega
              · have y95b : ((y : Int) != 95) = true := by simp; omega
                have y95c : ¬ (y : Int) = 95 := by omega
                by_cases y46 : y = 46
                · have y46b : ((y : Int) != 46) = false := by simp; omega
                  have HC2 : Hid (figC s false k = true) := by rw [Hid, HC.out]; simp [y46]
                  obtain ⟨g, hg, hst⟩ := figF_step s false f k hlt HC2.out hf
                  have HK2 : Hid (figF s false g (k + 1) = R) := by rw [Hid, ← hst]; exact HK.out
                  clear HC HK hst HC2 y46
                  go_wp2_with (first
                    | (go_at_call 23; with_reducible refine (hD _).mono ?_; rintro e wq ⟨rfl, hq⟩; subst wq)
                    | (go_at_call 24; with_reducible refine (hP _).mono ?_; rintro e wq ⟨rfl, hq⟩; subst wq)
                    | fail)
                  go_roundw
                  case rel => exact ⟨k + 1, g, by omega, by omega, by go_num, trivial, hg, HK2⟩
                  case measure => simp [intOf]; omega
                · have y46b : ((y : Int) != 46) = true := by simp; omega
                  have y46c : ¬ (y : Int) = 46 := by omega
                  have HC2 : Hid (figC s false k = false) := by rw [Hid, HC.out]; simp [y95c, y46c]
                  have HK2 : Hid (k = R) := by rw [Hid, ← HK.out, figF_stop s false f k (fun h => by rw [HC2.out] at h; simp at h)]
                  clear HC HK HC2 
                  go_wp2_with (first
                    | (go_at_call 23; with_reducible refine (hD _).mono ?_; rintro e wq ⟨rfl, hq⟩; subst wq)
                    | (go_at_call 24; with_reducible refine (hP _).mono ?_; rintro e wq ⟨rfl, hq⟩; subst wq)
                    | fail)
                  go_ret
                  exact ⟨ret_int (by rw [← HK2.out]), rfl⟩
    · have hltI : ¬ (k : Int) < (s.size : Int) := by omega
      have HK2 : Hid (k = R) := by rw [Hid, ← HK.out, figF_stop s false f k (fun h => hlt h.1)]
      clear HK
      go_wp2_with fail
      go_ret
      exact ⟨ret_int (by rw [← HK2.out]), rfl⟩
set_option maxHeartbeats 8000000 in
theorem ufg_n3 (s : ByteArray) (a : Nat) (w : World) (ha : a < s.size) (hs : s.size ≤ 140737488355328) (h1 : a + 1 < s.size) (h : bt s a = 48) (h2 : bt s (a + 1) ≠ 120) (h3 : bt s (a + 1) ≠ 88) :
    Calls Try.prog 25 #[.string s, .int .i64 a] w fun e w' => e = .returned (.int .i64 (fgEnd s a)) ∧ w' = w := by
  have hX : hexP s a = false := by
    have hi := hexP_iff s a
    cases hq : hexP s a with
    | true => first | rfl | (have := hi.1 hq; omega)
    | false => first | rfl | (have := hi.2 ⟨by omega, by omega, by omega⟩; rw [hq] at this; exact this)
  obtain ⟨R, hR⟩ : ∃ R, fgEnd s a = R := ⟨_, rfl⟩
  rw [hR]
  unfold fgEnd at hR
  rw [hX] at hR
  have HR : Hid (figF s false s.size (a + 1) = R) := hR
  clear hR hX
  have haI : (a : Int) < (s.size : Int) := by omega
  have hI1 : (a : Int) + 1 < (s.size : Int) := by omega
  have hg0 := bt_get s a ha
  rw [h] at hg0
  have hg1 := bt_get s (a + 1) h1
  have hn : ((bt s (a + 1) : Int) == 120) = false := by simp; omega
  have hn2 : ((bt s (a + 1) : Int) == 88) = false := by simp; omega
  have hn3 : ¬ (bt s (a + 1) : Int) = 120 := by omega
  have hn4 : ¬ (bt s (a + 1) : Int) = 88 := by omega
  generalize bt s (a + 1) = y1 at *
  go_enter Try.func25, Try.ntmps25
  go_wp2_with fail
  go_loopw [6] (fun i wr => ∃ k f : Nat, a < k ∧ k ≤ s.size ∧ i = .int .i64 k ∧ wr = w ∧ s.size - k ≤ f ∧ Hid (figF s false f k = R)) (fun i _ => s.size - (intOf i).toNat)
  case atStart => exact ⟨a + 1, s.size, by omega, by omega, by simp, rfl, by omega, HR⟩
  case round =>
    clear HR
    obtain ⟨k, f, hak, hk, rfl, rfl, hf, HK⟩ := hrel
    by_cases hlt : k < s.size
    · have hltI : (k : Int) < (s.size : Int) := by omega
      obtain ⟨c, hc⟩ : ∃ c, k = c + 1 := ⟨k - 1, by omega⟩
      have hcI : (k : Int) - 1 = (c : Int) := by omega
      have hcl : c < s.size := by omega
      have hclI : (c : Int) < (s.size : Int) := by omega
      have hy := bt_get s k hlt
      have hx := bt_get s c hcl
      have hD := fun w1 => udigit_any (bt s k : Int) w1
      have hP := fun w1 => uplain_any (bt s k : Int) w1
      have HC : Hid (figC s false k = ((plainL (bt s k) || digitL (bt s k) || decide (((bt s k : Nat) : Int) = 95) || decide (((bt s k : Nat) : Int) = 46)) || (pmL (bt s k) && powL false (bt s c)))) := by rw [Hid, figC, hc]; rfl
      clear hc
      generalize bt s c = x at *
      generalize bt s k = y at *
      by_cases x1 : x = 101
      · have hpw : powL false x = true := by simp [powL, x1]
        rw [hpw] at HC
        rw [x1] at hx
        clear x1 hpw
        cases hd : digitL (y : Int) with
        | true =>
          rw [hd] at hD HC
          have HC2 : Hid (figC s false k = true) := by rw [Hid, HC.out]; simp
          obtain ⟨g, hg, hst⟩ := figF_step s false f k hlt HC2.out hf
          have HK2 : Hid (figF s false g (k + 1) = R) := by rw [Hid, ← hst]; exact HK.out
          clear HC HK hst HC2 
          go_wp2_with (first
            | (go_at_call 23; with_reducible refine (hD _).mono ?_; rintro e wq ⟨rfl, hq⟩; subst wq)
            | (go_at_call 24; with_reducible refine (hP _).mono ?_; rintro e wq ⟨rfl, hq⟩; subst wq)
            | fail)
          go_roundw
          case rel => exact ⟨k + 1, g, by omega, by omega, by go_num, trivial, hg, HK2⟩
          case measure => simp [intOf]; omega
        | false =>
          rw [hd] at hD HC
          cases hp : plainL (y : Int) with
          | true =>
            rw [hp] at hP HC
            have HC2 : Hid (figC s false k = true) := by rw [Hid, HC.out]; simp
            obtain ⟨g, hg, hst⟩ := figF_step s false f k hlt HC2.out hf
            have HK2 : Hid (figF s false g (k + 1) = R) := by rw [Hid, ← hst]; exact HK.out
            clear HC HK hst HC2 
            go_wp2_with (first
              | (go_at_call 23; with_reducible refine (hD _).mono ?_; rintro e wq ⟨rfl, hq⟩; subst wq)
              | (go_at_call 24; with_reducible refine (hP _).mono ?_; rintro e wq ⟨rfl, hq⟩; subst wq)
              | fail)
            go_roundw
            case rel => exact ⟨k + 1, g, by omega, by omega, by go_num, trivial, hg, HK2⟩
            case measure => simp [intOf]; omega
          | false =>
            rw [hp] at hP HC
            by_cases y95 : y = 95
            · have y95b : ((y : Int) != 95) = false := by simp; omega
              have HC2 : Hid (figC s false k = true) := by rw [Hid, HC.out]; simp [y95]
              obtain ⟨g, hg, hst⟩ := figF_step s false f k hlt HC2.out hf
              have HK2 : Hid (figF s false g (k + 1) = R) := by rw [Hid, ← hst]; exact HK.out
              clear HC HK hst HC2 y95
              go_wp2_with (first
                | (go_at_call 23; with_reducible refine (hD _).mono ?_; rintro e wq ⟨rfl, hq⟩; subst wq)
                | (go_at_call 24; with_reducible refine (hP _).mono ?_; rintro e wq ⟨rfl, hq⟩; subst wq)
                | fail)
              go_roundw
              case rel => exact ⟨k + 1, g, by omega, by omega, by go_num, trivial, hg, HK2⟩
              case measure => simp [intOf]; omega
            · have y95b : ((y : Int) != 95) = true := by simp; omega
              have y95c : ¬ (y : Int) = 95 := by omega
              by_cases y46 : y = 46
              · have y46b : ((y : Int) != 46) = false := by simp; omega
                have HC2 : Hid (figC s false k = true) := by rw [Hid, HC.out]; simp [y46]
                obtain ⟨g, hg, hst⟩ := figF_step s false f k hlt HC2.out hf
                have HK2 : Hid (figF s false g (k + 1) = R) := by rw [Hid, ← hst]; exact HK.out
                clear HC HK hst HC2 y46
                go_wp2_with (first
                  | (go_at_call 23; with_reducible refine (hD _).mono ?_; rintro e wq ⟨rfl, hq⟩; subst wq)
                  | (go_at_call 24; with_reducible refine (hP _).mono ?_; rintro e wq ⟨rfl, hq⟩; subst wq)
                  | fail)
                go_roundw
                case rel => exact ⟨k + 1, g, by omega, by omega, by go_num, trivial, hg, HK2⟩
                case measure => simp [intOf]; omega
              · have y46b : ((y : Int) != 46) = true := by simp; omega
                have y46c : ¬ (y : Int) = 46 := by omega
                by_cases y43 : y = 43
                · have y43b : ((y : Int) == 43) = true := by simp; omega
                  have HC2 : Hid (figC s false k = true) := by rw [Hid, HC.out]; simp [pmL, y43]
                  obtain ⟨g, hg, hst⟩ := figF_step s false f k hlt HC2.out hf
                  have HK2 : Hid (figF s false g (k + 1) = R) := by rw [Hid, ← hst]; exact HK.out
                  clear HC HK hst HC2 y43
                  go_wp2_with (first
                    | (go_at_call 23; with_reducible refine (hD _).mono ?_; rintro e wq ⟨rfl, hq⟩; subst wq)
                    | (go_at_call 24; with_reducible refine (hP _).mono ?_; rintro e wq ⟨rfl, hq⟩; subst wq)
                    | fail)
                  go_roundw
                  case rel => exact ⟨k + 1, g, by omega, by omega, by go_num, trivial, hg, HK2⟩
                  case measure => simp [intOf]; omega
                · have y43b : ((y : Int) == 43) = false := by simp; omega
                  have y43c : ¬ (y : Int) = 43 := by omega
                  by_cases y45 : y = 45
                  · have y45b : ((y : Int) == 45) = true := by simp; omega
                    have HC2 : Hid (figC s false k = true) := by rw [Hid, HC.out]; simp [pmL, y45]
                    obtain ⟨g, hg, hst⟩ := figF_step s false f k hlt HC2.out hf
                    have HK2 : Hid (figF s false g (k + 1) = R) := by rw [Hid, ← hst]; exact HK.out
                    clear HC HK hst HC2 y45
                    go_wp2_with (first
                      | (go_at_call 23; with_reducible refine (hD _).mono ?_; rintro e wq ⟨rfl, hq⟩; subst wq)
                      | (go_at_call 24; with_reducible refine (hP _).mono ?_; rintro e wq ⟨rfl, hq⟩; subst wq)
                      | fail)
                    go_roundw
                    case rel => exact ⟨k + 1, g, by omega, by omega, by go_num, trivial, hg, HK2⟩
                    case measure => simp [intOf]; omega
                  · have y45b : ((y : Int) == 45) = false := by simp; omega
                    have y45c : ¬ (y : Int) = 45 := by omega
                    have HC2 : Hid (figC s false k = false) := by rw [Hid, HC.out]; simp [pmL, y95c, y46c, y43c, y45c]
                    have HK2 : Hid (k = R) := by rw [Hid, ← HK.out, figF_stop s false f k (fun h => by rw [HC2.out] at h; simp at h)]
                    clear HC HK HC2 
                    go_wp2_with (first
                      | (go_at_call 23; with_reducible refine (hD _).mono ?_; rintro e wq ⟨rfl, hq⟩; subst wq)
                      | (go_at_call 24; with_reducible refine (hP _).mono ?_; rintro e wq ⟨rfl, hq⟩; subst wq)
                      | fail)
                    go_ret
                    exact ⟨ret_int (by rw [← HK2.out]), rfl⟩
      · have x1b : ((x : Int) == 101) = false := by simp; omega
        have x1c : ¬ (x : Int) = 101 := by omega
        by_cases x2 : x = 69
        · have hpw : powL false x = true := by simp [powL, x2]
          rw [hpw] at HC
          rw [x2] at hx
          clear x1 x1b x1c x2 hpw
          cases hd : digitL (y : Int) with
          | true =>
            rw [hd] at hD HC
            have HC2 : Hid (figC s false k = true) := by rw [Hid, HC.out]; simp
            obtain ⟨g, hg, hst⟩ := figF_step s false f k hlt HC2.out hf
            have HK2 : Hid (figF s false g (k + 1) = R) := by rw [Hid, ← hst]; exact HK.out
            clear HC HK hst HC2 
            go_wp2_with (first
              | (go_at_call 23; with_reducible refine (hD _).mono ?_; rintro e wq ⟨rfl, hq⟩; subst wq)
              | (go_at_call 24; with_reducible refine (hP _).mono ?_; rintro e wq ⟨rfl, hq⟩; subst wq)
              | fail)
            go_roundw
            case rel => exact ⟨k + 1, g, by omega, by omega, by go_num, trivial, hg, HK2⟩
            case measure => simp [intOf]; omega
          | false =>
            rw [hd] at hD HC
            cases hp : plainL (y : Int) with
            | true =>
              rw [hp] at hP HC
              have HC2 : Hid (figC s false k = true) := by rw [Hid, HC.out]; simp
              obtain ⟨g, hg, hst⟩ := figF_step s false f k hlt HC2.out hf
              have HK2 : Hid (figF s false g (k + 1) = R) := by rw [Hid, ← hst]; exact HK.out
              clear HC HK hst HC2 
              go_wp2_with (first
                | (go_at_call 23; with_reducible refine (hD _).mono ?_; rintro e wq ⟨rfl, hq⟩; subst wq)
                | (go_at_call 24; with_reducible refine (hP _).mono ?_; rintro e wq ⟨rfl, hq⟩; subst wq)
                | fail)
              go_roundw
              case rel => exact ⟨k + 1, g, by omega, by omega, by go_num, trivial, hg, HK2⟩
              case measure => simp [intOf]; omega
            | false =>
              rw [hp] at hP HC
              by_cases y95 : y = 95
              · have y95b : ((y : Int) != 95) = false := by simp; omega
                have HC2 : Hid (figC s false k = true) := by rw [Hid, HC.out]; simp [y95]
                obtain ⟨g, hg, hst⟩ := figF_step s false f k hlt HC2.out hf
                have HK2 : Hid (figF s false g (k + 1) = R) := by rw [Hid, ← hst]; exact HK.out
                clear HC HK hst HC2 y95
                go_wp2_with (first
                  | (go_at_call 23; with_reducible refine (hD _).mono ?_; rintro e wq ⟨rfl, hq⟩; subst wq)
                  | (go_at_call 24; with_reducible refine (hP _).mono ?_; rintro e wq ⟨rfl, hq⟩; subst wq)
                  | fail)
                go_roundw
                case rel => exact ⟨k + 1, g, by omega, by omega, by go_num, trivial, hg, HK2⟩
                case measure => simp [intOf]; omega
              · have y95b : ((y : Int) != 95) = true := by simp; omega
                have y95c : ¬ (y : Int) = 95 := by omega
                by_cases y46 : y = 46
                · have y46b : ((y : Int) != 46) = false := by simp; omega
                  have HC2 : Hid (figC s false k = true) := by rw [Hid, HC.out]; simp [y46]
                  obtain ⟨g, hg, hst⟩ := figF_step s false f k hlt HC2.out hf
                  have HK2 : Hid (figF s false g (k + 1) = R) := by rw [Hid, ← hst]; exact HK.out
                  clear HC HK hst HC2 y46
                  go_wp2_with (first
                    | (go_at_call 23; with_reducible refine (hD _).mono ?_; rintro e wq ⟨rfl, hq⟩; subst wq)
                    | (go_at_call 24; with_reducible refine (hP _).mono ?_; rintro e wq ⟨rfl, hq⟩; subst wq)
                    | fail)
                  go_roundw
                  case rel => exact ⟨k + 1, g, by omega, by omega, by go_num, trivial, hg, HK2⟩
                  case measure => simp [intOf]; omega
                · have y46b : ((y : Int) != 46) = true := by simp; omega
                  have y46c : ¬ (y : Int) = 46 := by omega
                  by_cases y43 : y = 43
                  · have y43b : ((y : Int) == 43) = true := by simp; omega
                    have HC2 : Hid (figC s false k = true) := by rw [Hid, HC.out]; simp [pmL, y43]
                    obtain ⟨g, hg, hst⟩ := figF_step s false f k hlt HC2.out hf
                    have HK2 : Hid (figF s false g (k + 1) = R) := by rw [Hid, ← hst]; exact HK.out
                    clear HC HK hst HC2 y43
                    go_wp2_with (first
                      | (go_at_call 23; with_reducible refine (hD _).mono ?_; rintro e wq ⟨rfl, hq⟩; subst wq)
                      | (go_at_call 24; with_reducible refine (hP _).mono ?_; rintro e wq ⟨rfl, hq⟩; subst wq)
                      | fail)
                    go_roundw
                    case rel => exact ⟨k + 1, g, by omega, by omega, by go_num, trivial, hg, HK2⟩
                    case measure => simp [intOf]; omega
                  · have y43b : ((y : Int) == 43) = false := by simp; omega
                    have y43c : ¬ (y : Int) = 43 := by omega
                    by_cases y45 : y = 45
                    · have y45b : ((y : Int) == 45) = true := by simp; omega
                      have HC2 : Hid (figC s false k = true) := by rw [Hid, HC.out]; simp [pmL, y45]
                      obtain ⟨g, hg, hst⟩ := figF_step s false f k hlt HC2.out hf
                      have HK2 : Hid (figF s false g (k + 1) = R) := by rw [Hid, ← hst]; exact HK.out
                      clear HC HK hst HC2 y45
                      go_wp2_with (first
                        | (go_at_call 23; with_reducible refine (hD _).mono ?_; rintro e wq ⟨rfl, hq⟩; subst wq)
                        | (go_at_call 24; with_reducible refine (hP _).mono ?_; rintro e wq ⟨rfl, hq⟩; subst wq)
                        | fail)
                      go_roundw
                      case rel => exact ⟨k + 1, g, by omega, by omega, by go_num, trivial, hg, HK2⟩
                      case measure => simp [intOf]; omega
                    · have y45b : ((y : Int) == 45) = false := by simp; omega
                      have y45c : ¬ (y : Int) = 45 := by omega
                      have HC2 : Hid (figC s false k = false) := by rw [Hid, HC.out]; simp [pmL, y95c, y46c, y43c, y45c]
                      have HK2 : Hid (k = R) := by rw [Hid, ← HK.out, figF_stop s false f k (fun h => by rw [HC2.out] at h; simp at h)]
                      clear HC HK HC2 
                      go_wp2_with (first
                        | (go_at_call 23; with_reducible refine (hD _).mono ?_; rintro e wq ⟨rfl, hq⟩; subst wq)
                        | (go_at_call 24; with_reducible refine (hP _).mono ?_; rintro e wq ⟨rfl, hq⟩; subst wq)
                        | fail)
                      go_ret
                      exact ⟨ret_int (by rw [← HK2.out]), rfl⟩
        · have x2b : ((x : Int) == 69) = false := by simp; omega
          have x2c : ¬ (x : Int) = 69 := by omega
          have hpw : powL false x = false := by simp [powL, x1, x2]
          rw [hpw] at HC
          clear hpw
          cases hd : digitL (y : Int) with
          | true =>
            rw [hd] at hD HC
            have HC2 : Hid (figC s false k = true) := by rw [Hid, HC.out]; simp
            obtain ⟨g, hg, hst⟩ := figF_step s false f k hlt HC2.out hf
            have HK2 : Hid (figF s false g (k + 1) = R) := by rw [Hid, ← hst]; exact HK.out
            clear HC HK hst HC2 
            go_wp2_with (first
              | (go_at_call 23; with_reducible refine (hD _).mono ?_; rintro e wq ⟨rfl, hq⟩; subst wq)
              | (go_at_call 24; with_reducible refine (hP _).mono ?_; rintro e wq ⟨rfl, hq⟩; subst wq)
              | fail)
            go_roundw
            case rel => exact ⟨k + 1, g, by omega, by omega, by go_num, trivial, hg, HK2⟩
            case measure => simp [intOf]; omega
          | false =>
            rw [hd] at hD HC
            cases hp : plainL (y : Int) with
            | true =>
              rw [hp] at hP HC
              have HC2 : Hid (figC s false k = true) := by rw [Hid, HC.out]; simp
              obtain ⟨g, hg, hst⟩ := figF_step s false f k hlt HC2.out hf
              have HK2 : Hid (figF s false g (k + 1) = R) := by rw [Hid, ← hst]; exact HK.out
              clear HC HK hst HC2 
              go_wp2_with (first
                | (go_at_call 23; with_reducible refine (hD _).mono ?_; rintro e wq ⟨rfl, hq⟩; subst wq)
                | (go_at_call 24; with_reducible refine (hP _).mono ?_; rintro e wq ⟨rfl, hq⟩; subst wq)
                | fail)
              go_roundw
              case rel => exact ⟨k + 1, g, by omega, by omega, by go_num, trivial, hg, HK2⟩
              case measure => simp [intOf]; omega
            | false =>
              rw [hp] at hP HC
              by_cases y95 : y = 95
              · have y95b : ((y : Int) != 95) = false := by simp; omega
                have HC2 : Hid (figC s false k = true) := by rw [Hid, HC.out]; simp [y95]
                obtain ⟨g, hg, hst⟩ := figF_step s false f k hlt HC2.out hf
                have HK2 : Hid (figF s false g (k + 1) = R) := by rw [Hid, ← hst]; exact HK.out
                clear HC HK hst HC2 y95
                go_wp2_with (first
                  | (go_at_call 23; with_reducible refine (hD _).mono ?_; rintro e wq ⟨rfl, hq⟩; subst wq)
                  | (go_at_call 24; with_reducible refine (hP _).mono ?_; rintro e wq ⟨rfl, hq⟩; subst wq)
                  | fail)
                go_roundw
                case rel => exact ⟨k + 1, g, by omega, by omega, by go_num, trivial, hg, HK2⟩
                case measure => simp [intOf]; omega
              · have y95b : ((y : Int) != 95) = true := by simp; omega
                have y95c : ¬ (y : Int) = 95 := by omega
                by_cases y46 : y = 46
                · have y46b : ((y : Int) != 46) = false := by simp; omega
                  have HC2 : Hid (figC s false k = true) := by rw [Hid, HC.out]; simp [y46]
                  obtain ⟨g, hg, hst⟩ := figF_step s false f k hlt HC2.out hf
                  have HK2 : Hid (figF s false g (k + 1) = R) := by rw [Hid, ← hst]; exact HK.out
                  clear HC HK hst HC2 y46
                  go_wp2_with (first
                    | (go_at_call 23; with_reducible refine (hD _).mono ?_; rintro e wq ⟨rfl, hq⟩; subst wq)
                    | (go_at_call 24; with_reducible refine (hP _).mono ?_; rintro e wq ⟨rfl, hq⟩; subst wq)
                    | fail)
                  go_roundw
                  case rel => exact ⟨k + 1, g, by omega, by omega, by go_num, trivial, hg, HK2⟩
                  case measure => simp [intOf]; omega
                · have y46b : ((y : Int) != 46) = true := by simp; omega
                  have y46c : ¬ (y : Int) = 46 := by omega
                  have HC2 : Hid (figC s false k = false) := by rw [Hid, HC.out]; simp [y95c, y46c]
                  have HK2 : Hid (k = R) := by rw [Hid, ← HK.out, figF_stop s false f k (fun h => by rw [HC2.out] at h; simp at h)]
                  clear HC HK HC2 
                  go_wp2_with (first
                    | (go_at_call 23; with_reducible refine (hD _).mono ?_; rintro e wq ⟨rfl, hq⟩; subst wq)
                    | (go_at_call 24; with_reducible refine (hP _).mono ?_; rintro e wq ⟨rfl, hq⟩; subst wq)
                    | fail)
                  go_ret
                  exact ⟨ret_int (by rw [← HK2.out]), rfl⟩
    · have hltI : ¬ (k : Int) < (s.size : Int) := by omega
      have HK2 : Hid (k = R) := by rw [Hid, ← HK.out, figF_stop s false f k (fun h => hlt h.1)]
      clear HK
      go_wp2_with fail
      go_ret
      exact ⟨ret_int (by rw [← HK2.out]), rfl⟩
set_option maxHeartbeats 8000000 in
theorem ufg_h1 (s : ByteArray) (a : Nat) (w : World) (ha : a < s.size) (hs : s.size ≤ 140737488355328) (h1 : a + 1 < s.size) (h : bt s a = 48) (h2 : bt s (a + 1) = 120) :
    Calls Try.prog 25 #[.string s, .int .i64 a] w fun e w' => e = .returned (.int .i64 (fgEnd s a)) ∧ w' = w := by
  have hX : hexP s a = true := by
    have hi := hexP_iff s a
    cases hq : hexP s a with
    | true => first | rfl | (have := hi.1 hq; omega)
    | false => first | rfl | (have := hi.2 ⟨by omega, by omega, by omega⟩; rw [hq] at this; exact this)
  obtain ⟨R, hR⟩ : ∃ R, fgEnd s a = R := ⟨_, rfl⟩
  rw [hR]
  unfold fgEnd at hR
  rw [hX] at hR
  have HR : Hid (figF s true s.size (a + 1) = R) := hR
  clear hR hX
  have haI : (a : Int) < (s.size : Int) := by omega
  have hI1 : (a : Int) + 1 < (s.size : Int) := by omega
  have hg0 := bt_get s a ha
  rw [h] at hg0
  have hg1 := bt_get s (a + 1) h1
  rw [h2] at hg1
  clear h h2
  go_enter Try.func25, Try.ntmps25
  go_wp2_with fail
  go_loopw [6] (fun i wr => ∃ k f : Nat, a < k ∧ k ≤ s.size ∧ i = .int .i64 k ∧ wr = w ∧ s.size - k ≤ f ∧ Hid (figF s true f k = R)) (fun i _ => s.size - (intOf i).toNat)
  case atStart => exact ⟨a + 1, s.size, by omega, by omega, by simp, rfl, by omega, HR⟩
  case round =>
    clear HR
    obtain ⟨k, f, hak, hk, rfl, rfl, hf, HK⟩ := hrel
    by_cases hlt : k < s.size
    · have hltI : (k : Int) < (s.size : Int) := by omega
      obtain ⟨c, hc⟩ : ∃ c, k = c + 1 := ⟨k - 1, by omega⟩
      have hcI : (k : Int) - 1 = (c : Int) := by omega
      have hcl : c < s.size := by omega
      have hclI : (c : Int) < (s.size : Int) := by omega
      have hy := bt_get s k hlt
      have hx := bt_get s c hcl
      have hD := fun w1 => udigit_any (bt s k : Int) w1
      have hP := fun w1 => uplain_any (bt s k : Int) w1
      have HC : Hid (figC s true k = ((plainL (bt s k) || digitL (bt s k) || decide (((bt s k : Nat) : Int) = 95) || decide (((bt s k : Nat) : Int) = 46)) || (pmL (bt s k) && powL true (bt s c)))) := by rw [Hid, figC, hc]; rfl
      clear hc
      generalize bt s c = x at *
      generalize bt s k = y at *
      by_cases x1 : x = 112
      · have hpw : powL true x = true := by simp [powL, x1]
        rw [hpw] at HC
        rw [x1] at hx
        clear x1 hpw
        cases hd : digitL (y : Int) with
        | true =>
          rw [hd] at hD HC
          have HC2 : Hid (figC s true k = true) := by rw [Hid, HC.out]; simp
          obtain ⟨g, hg, hst⟩ := figF_step s true f k hlt HC2.out hf
          have HK2 : Hid (figF s true g (k + 1) = R) := by rw [Hid, ← hst]; exact HK.out
          clear HC HK hst HC2 
          go_wp2_with (first
            | (go_at_call 23; with_reducible refine (hD _).mono ?_; rintro e wq ⟨rfl, hq⟩; subst wq)
            | (go_at_call 24; with_reducible refine (hP _).mono ?_; rintro e wq ⟨rfl, hq⟩; subst wq)
            | fail)
          go_roundw
          case rel => exact ⟨k + 1, g, by omega, by omega, by go_num, trivial, hg, HK2⟩
          case measure => simp [intOf]; omega
        | false =>
          rw [hd] at hD HC
          cases hp : plainL (y : Int) with
          | true =>
            rw [hp] at hP HC
            have HC2 : Hid (figC s true k = true) := by rw [Hid, HC.out]; simp
            obtain ⟨g, hg, hst⟩ := figF_step s true f k hlt HC2.out hf
            have HK2 : Hid (figF s true g (k + 1) = R) := by rw [Hid, ← hst]; exact HK.out
            clear HC HK hst HC2 
            go_wp2_with (first
              | (go_at_call 23; with_reducible refine (hD _).mono ?_; rintro e wq ⟨rfl, hq⟩; subst wq)
              | (go_at_call 24; with_reducible refine (hP _).mono ?_; rintro e wq ⟨rfl, hq⟩; subst wq)
              | fail)
            go_roundw
            case rel => exact ⟨k + 1, g, by omega, by omega, by go_num, trivial, hg, HK2⟩
            case measure => simp [intOf]; omega
          | false =>
            rw [hp] at hP HC
            by_cases y95 : y = 95
            · have y95b : ((y : Int) != 95) = false := by simp; omega
              have HC2 : Hid (figC s true k = true) := by rw [Hid, HC.out]; simp [y95]
              obtain ⟨g, hg, hst⟩ := figF_step s true f k hlt HC2.out hf
              have HK2 : Hid (figF s true g (k + 1) = R) := by rw [Hid, ← hst]; exact HK.out
              clear HC HK hst HC2 y95
              go_wp2_with (first
                | (go_at_call 23; with_reducible refine (hD _).mono ?_; rintro e wq ⟨rfl, hq⟩; subst wq)
                | (go_at_call 24; with_reducible refine (hP _).mono ?_; rintro e wq ⟨rfl, hq⟩; subst wq)
                | fail)
              go_roundw
              case rel => exact ⟨k + 1, g, by omega, by omega, by go_num, trivial, hg, HK2⟩
              case measure => simp [intOf]; omega
            · have y95b : ((y : Int) != 95) = true := by simp; omega
              have y95c : ¬ (y : Int) = 95 := by omega
              by_cases y46 : y = 46
              · have y46b : ((y : Int) != 46) = false := by simp; omega
                have HC2 : Hid (figC s true k = true) := by rw [Hid, HC.out]; simp [y46]
                obtain ⟨g, hg, hst⟩ := figF_step s true f k hlt HC2.out hf
                have HK2 : Hid (figF s true g (k + 1) = R) := by rw [Hid, ← hst]; exact HK.out
                clear HC HK hst HC2 y46
                go_wp2_with (first
                  | (go_at_call 23; with_reducible refine (hD _).mono ?_; rintro e wq ⟨rfl, hq⟩; subst wq)
                  | (go_at_call 24; with_reducible refine (hP _).mono ?_; rintro e wq ⟨rfl, hq⟩; subst wq)
                  | fail)
                go_roundw
                case rel => exact ⟨k + 1, g, by omega, by omega, by go_num, trivial, hg, HK2⟩
                case measure => simp [intOf]; omega
              · have y46b : ((y : Int) != 46) = true := by simp; omega
                have y46c : ¬ (y : Int) = 46 := by omega
                by_cases y43 : y = 43
                · have y43b : ((y : Int) == 43) = true := by simp; omega
                  have HC2 : Hid (figC s true k = true) := by rw [Hid, HC.out]; simp [pmL, y43]
                  obtain ⟨g, hg, hst⟩ := figF_step s true f k hlt HC2.out hf
                  have HK2 : Hid (figF s true g (k + 1) = R) := by rw [Hid, ← hst]; exact HK.out
                  clear HC HK hst HC2 y43
                  go_wp2_with (first
                    | (go_at_call 23; with_reducible refine (hD _).mono ?_; rintro e wq ⟨rfl, hq⟩; subst wq)
                    | (go_at_call 24; with_reducible refine (hP _).mono ?_; rintro e wq ⟨rfl, hq⟩; subst wq)
                    | fail)
                  go_roundw
                  case rel => exact ⟨k + 1, g, by omega, by omega, by go_num, trivial, hg, HK2⟩
                  case measure => simp [intOf]; omega
                · have y43b : ((y : Int) == 43) = false := by simp; omega
                  have y43c : ¬ (y : Int) = 43 := by omega
                  by_cases y45 : y = 45
                  · have y45b : ((y : Int) == 45) = true := by simp; omega
                    have HC2 : Hid (figC s true k = true) := by rw [Hid, HC.out]; simp [pmL, y45]
                    obtain ⟨g, hg, hst⟩ := figF_step s true f k hlt HC2.out hf
                    have HK2 : Hid (figF s true g (k + 1) = R) := by rw [Hid, ← hst]; exact HK.out
                    clear HC HK hst HC2 y45
                    go_wp2_with (first
                      | (go_at_call 23; with_reducible refine (hD _).mono ?_; rintro e wq ⟨rfl, hq⟩; subst wq)
                      | (go_at_call 24; with_reducible refine (hP _).mono ?_; rintro e wq ⟨rfl, hq⟩; subst wq)
                      | fail)
                    go_roundw
                    case rel => exact ⟨k + 1, g, by omega, by omega, by go_num, trivial, hg, HK2⟩
                    case measure => simp [intOf]; omega
                  · have y45b : ((y : Int) == 45) = false := by simp; omega
                    have y45c : ¬ (y : Int) = 45 := by omega
                    have HC2 : Hid (figC s true k = false) := by rw [Hid, HC.out]; simp [pmL, y95c, y46c, y43c, y45c]
                    have HK2 : Hid (k = R) := by rw [Hid, ← HK.out, figF_stop s true f k (fun h => by rw [HC2.out] at h; simp at h)]
                    clear HC HK HC2 
                    go_wp2_with (first
                      | (go_at_call 23; with_reducible refine (hD _).mono ?_; rintro e wq ⟨rfl, hq⟩; subst wq)
                      | (go_at_call 24; with_reducible refine (hP _).mono ?_; rintro e wq ⟨rfl, hq⟩; subst wq)
                      | fail)
                    go_ret
                    exact ⟨ret_int (by rw [← HK2.out]), rfl⟩
      · have x1b : ((x : Int) == 112) = false := by simp; omega
        have x1c : ¬ (x : Int) = 112 := by omega
        by_cases x2 : x = 80
        · have hpw : powL true x = true := by simp [powL, x2]
          rw [hpw] at HC
          rw [x2] at hx
          clear x1 x1b x1c x2 hpw
          cases hd : digitL (y : Int) with
          | true =>
            rw [hd] at hD HC
            have HC2 : Hid (figC s true k = true) := by rw [Hid, HC.out]; simp
            obtain ⟨g, hg, hst⟩ := figF_step s true f k hlt HC2.out hf
            have HK2 : Hid (figF s true g (k + 1) = R) := by rw [Hid, ← hst]; exact HK.out
            clear HC HK hst HC2 
            go_wp2_with (first
              | (go_at_call 23; with_reducible refine (hD _).mono ?_; rintro e wq ⟨rfl, hq⟩; subst wq)
              | (go_at_call 24; with_reducible refine (hP _).mono ?_; rintro e wq ⟨rfl, hq⟩; subst wq)
              | fail)
            go_roundw
            case rel => exact ⟨k + 1, g, by omega, by omega, by go_num, trivial, hg, HK2⟩
            case measure => simp [intOf]; omega
          | false =>
            rw [hd] at hD HC
            cases hp : plainL (y : Int) with
            | true =>
              rw [hp] at hP HC
              have HC2 : Hid (figC s true k = true) := by rw [Hid, HC.out]; simp
              obtain ⟨g, hg, hst⟩ := figF_step s true f k hlt HC2.out hf
              have HK2 : Hid (figF s true g (k + 1) = R) := by rw [Hid, ← hst]; exact HK.out
              clear HC HK hst HC2 
              go_wp2_with (first
                | (go_at_call 23; with_reducible refine (hD _).mono ?_; rintro e wq ⟨rfl, hq⟩; subst wq)
                | (go_at_call 24; with_reducible refine (hP _).mono ?_; rintro e wq ⟨rfl, hq⟩; subst wq)
                | fail)
              go_roundw
              case rel => exact ⟨k + 1, g, by omega, by omega, by go_num, trivial, hg, HK2⟩
              case measure => simp [intOf]; omega
            | false =>
              rw [hp] at hP HC
              by_cases y95 : y = 95
              · have y95b : ((y : Int) != 95) = false := by simp; omega
                have HC2 : Hid (figC s true k = true) := by rw [Hid, HC.out]; simp [y95]
                obtain ⟨g, hg, hst⟩ := figF_step s true f k hlt HC2.out hf
                have HK2 : Hid (figF s true g (k + 1) = R) := by rw [Hid, ← hst]; exact HK.out
                clear HC HK hst HC2 y95
                go_wp2_with (first
                  | (go_at_call 23; with_reducible refine (hD _).mono ?_; rintro e wq ⟨rfl, hq⟩; subst wq)
                  | (go_at_call 24; with_reducible refine (hP _).mono ?_; rintro e wq ⟨rfl, hq⟩; subst wq)
                  | fail)
                go_roundw
                case rel => exact ⟨k + 1, g, by omega, by omega, by go_num, trivial, hg, HK2⟩
                case measure => simp [intOf]; omega
              · have y95b : ((y : Int) != 95) = true := by simp; omega
                have y95c : ¬ (y : Int) = 95 := by omega
                by_cases y46 : y = 46
                · have y46b : ((y : Int) != 46) = false := by simp; omega
                  have HC2 : Hid (figC s true k = true) := by rw [Hid, HC.out]; simp [y46]
                  obtain ⟨g, hg, hst⟩ := figF_step s true f k hlt HC2.out hf
                  have HK2 : Hid (figF s true g (k + 1) = R) := by rw [Hid, ← hst]; exact HK.out
                  clear HC HK hst HC2 y46
                  go_wp2_with (first
                    | (go_at_call 23; with_reducible refine (hD _).mono ?_; rintro e wq ⟨rfl, hq⟩; subst wq)
                    | (go_at_call 24; with_reducible refine (hP _).mono ?_; rintro e wq ⟨rfl, hq⟩; subst wq)
                    | fail)
                  go_roundw
                  case rel => exact ⟨k + 1, g, by omega, by omega, by go_num, trivial, hg, HK2⟩
                  case measure => simp [intOf]; omega
                · have y46b : ((y : Int) != 46) = true := by simp; omega
                  have y46c : ¬ (y : Int) = 46 := by omega
                  by_cases y43 : y = 43
                  · have y43b : ((y : Int) == 43) = true := by simp; omega
                    have HC2 : Hid (figC s true k = true) := by rw [Hid, HC.out]; simp [pmL, y43]
                    obtain ⟨g, hg, hst⟩ := figF_step s true f k hlt HC2.out hf
                    have HK2 : Hid (figF s true g (k + 1) = R) := by rw [Hid, ← hst]; exact HK.out
                    clear HC HK hst HC2 y43
                    go_wp2_with (first
                      | (go_at_call 23; with_reducible refine (hD _).mono ?_; rintro e wq ⟨rfl, hq⟩; subst wq)
                      | (go_at_call 24; with_reducible refine (hP _).mono ?_; rintro e wq ⟨rfl, hq⟩; subst wq)
                      | fail)
                    go_roundw
                    case rel => exact ⟨k + 1, g, by omega, by omega, by go_num, trivial, hg, HK2⟩
                    case measure => simp [intOf]; omega
                  · have y43b : ((y : Int) == 43) = false := by simp; omega
                    have y43c : ¬ (y : Int) = 43 := by omega
                    by_cases y45 : y = 45
                    · have y45b : ((y : Int) == 45) = true := by simp; omega
                      have HC2 : Hid (figC s true k = true) := by rw [Hid, HC.out]; simp [pmL, y45]
                      obtain ⟨g, hg, hst⟩ := figF_step s true f k hlt HC2.out hf
                      have HK2 : Hid (figF s true g (k + 1) = R) := by rw [Hid, ← hst]; exact HK.out
                      clear HC HK hst HC2 y45
                      go_wp2_with (first
                        | (go_at_call 23; with_reducible refine (hD _).mono ?_; rintro e wq ⟨rfl, hq⟩; subst wq)
                        | (go_at_call 24; with_reducible refine (hP _).mono ?_; rintro e wq ⟨rfl, hq⟩; subst wq)
                        | fail)
                      go_roundw
                      case rel => exact ⟨k + 1, g, by omega, by omega, by go_num, trivial, hg, HK2⟩
                      case measure => simp [intOf]; omega
                    · have y45b : ((y : Int) == 45) = false := by simp; omega
                      have y45c : ¬ (y : Int) = 45 := by omega
                      have HC2 : Hid (figC s true k = false) := by rw [Hid, HC.out]; simp [pmL, y95c, y46c, y43c, y45c]
                      have HK2 : Hid (k = R) := by rw [Hid, ← HK.out, figF_stop s true f k (fun h => by rw [HC2.out] at h; simp at h)]
                      clear HC HK HC2 
                      go_wp2_with (first
                        | (go_at_call 23; with_reducible refine (hD _).mono ?_; rintro e wq ⟨rfl, hq⟩; subst wq)
                        | (go_at_call 24; with_reducible refine (hP _).mono ?_; rintro e wq ⟨rfl, hq⟩; subst wq)
                        | fail)
                      go_ret
                      exact ⟨ret_int (by rw [← HK2.out]), rfl⟩
        · have x2b : ((x : Int) == 80) = false := by simp; omega
          have x2c : ¬ (x : Int) = 80 := by omega
          have hpw : powL true x = false := by simp [powL, x1, x2]
          rw [hpw] at HC
          clear hpw
          cases hd : digitL (y : Int) with
          | true =>
            rw [hd] at hD HC
            have HC2 : Hid (figC s true k = true) := by rw [Hid, HC.out]; simp
            obtain ⟨g, hg, hst⟩ := figF_step s true f k hlt HC2.out hf
            have HK2 : Hid (figF s true g (k + 1) = R) := by rw [Hid, ← hst]; exact HK.out
            clear HC HK hst HC2 
            go_wp2_with (first
              | (go_at_call 23; with_reducible refine (hD _).mono ?_; rintro e wq ⟨rfl, hq⟩; subst wq)
              | (go_at_call 24; with_reducible refine (hP _).mono ?_; rintro e wq ⟨rfl, hq⟩; subst wq)
              | fail)
            go_roundw
            case rel => exact ⟨k + 1, g, by omega, by omega, by go_num, trivial, hg, HK2⟩
            case measure => simp [intOf]; omega
          | false =>
            rw [hd] at hD HC
            cases hp : plainL (y : Int) with
            | true =>
              rw [hp] at hP HC
              have HC2 : Hid (figC s true k = true) := by rw [Hid, HC.out]; simp
              obtain ⟨g, hg, hst⟩ := figF_step s true f k hlt HC2.out hf
              have HK2 : Hid (figF s true g (k + 1) = R) := by rw [Hid, ← hst]; exact HK.out
              clear HC HK hst HC2 
              go_wp2_with (first
                | (go_at_call 23; with_reducible refine (hD _).mono ?_; rintro e wq ⟨rfl, hq⟩; subst wq)
                | (go_at_call 24; with_reducible refine (hP _).mono ?_; rintro e wq ⟨rfl, hq⟩; subst wq)
                | fail)
              go_roundw
              case rel => exact ⟨k + 1, g, by omega, by omega, by go_num, trivial, hg, HK2⟩
              case measure => simp [intOf]; omega
            | false =>
              rw [hp] at hP HC
              by_cases y95 : y = 95
              · have y95b : ((y : Int) != 95) = false := by simp; omega
                have HC2 : Hid (figC s true k = true) := by rw [Hid, HC.out]; simp [y95]
                obtain ⟨g, hg, hst⟩ := figF_step s true f k hlt HC2.out hf
                have HK2 : Hid (figF s true g (k + 1) = R) := by rw [Hid, ← hst]; exact HK.out
                clear HC HK hst HC2 y95
                go_wp2_with (first
                  | (go_at_call 23; with_reducible refine (hD _).mono ?_; rintro e wq ⟨rfl, hq⟩; subst wq)
                  | (go_at_call 24; with_reducible refine (hP _).mono ?_; rintro e wq ⟨rfl, hq⟩; subst wq)
                  | fail)
                go_roundw
                case rel => exact ⟨k + 1, g, by omega, by omega, by go_num, trivial, hg, HK2⟩
                case measure => simp [intOf]; omega
              · have y95b : ((y : Int) != 95) = true := by simp; omega
                have y95c : ¬ (y : Int) = 95 := by omega
                by_cases y46 : y = 46
                · have y46b : ((y : Int) != 46) = false := by simp; omega
                  have HC2 : Hid (figC s true k = true) := by rw [Hid, HC.out]; simp [y46]
                  obtain ⟨g, hg, hst⟩ := figF_step s true f k hlt HC2.out hf
                  have HK2 : Hid (figF s true g (k + 1) = R) := by rw [Hid, ← hst]; exact HK.out
                  clear HC HK hst HC2 y46
                  go_wp2_with (first
                    | (go_at_call 23; with_reducible refine (hD _).mono ?_; rintro e wq ⟨rfl, hq⟩; subst wq)
                    | (go_at_call 24; with_reducible refine (hP _).mono ?_; rintro e wq ⟨rfl, hq⟩; subst wq)
                    | fail)
                  go_roundw
                  case rel => exact ⟨k + 1, g, by omega, by omega, by go_num, trivial, hg, HK2⟩
                  case measure => simp [intOf]; omega
                · have y46b : ((y : Int) != 46) = true := by simp; omega
                  have y46c : ¬ (y : Int) = 46 := by omega
                  have HC2 : Hid (figC s true k = false) := by rw [Hid, HC.out]; simp [y95c, y46c]
                  have HK2 : Hid (k = R) := by rw [Hid, ← HK.out, figF_stop s true f k (fun h => by rw [HC2.out] at h; simp at h)]
                  clear HC HK HC2 
                  go_wp2_with (first
                    | (go_at_call 23; with_reducible refine (hD _).mono ?_; rintro e wq ⟨rfl, hq⟩; subst wq)
                    | (go_at_call 24; with_reducible refine (hP _).mono ?_; rintro e wq ⟨rfl, hq⟩; subst wq)
                    | fail)
                  go_ret
                  exact ⟨ret_int (by rw [← HK2.out]), rfl⟩
    · have hltI : ¬ (k : Int) < (s.size : Int) := by omega
      have HK2 : Hid (k = R) := by rw [Hid, ← HK.out, figF_stop s true f k (fun h => hlt h.1)]
      clear HK
      go_wp2_with fail
      go_ret
      exact ⟨ret_int (by rw [← HK2.out]), rfl⟩
set_option maxHeartbeats 8000000 in
theorem ufg_h2 (s : ByteArray) (a : Nat) (w : World) (ha : a < s.size) (hs : s.size ≤ 140737488355328) (h1 : a + 1 < s.size) (h : bt s a = 48) (h2 : bt s (a + 1) = 88) :
    Calls Try.prog 25 #[.string s, .int .i64 a] w fun e w' => e = .returned (.int .i64 (fgEnd s a)) ∧ w' = w := by
  have hX : hexP s a = true := by
    have hi := hexP_iff s a
    cases hq : hexP s a with
    | true => first | rfl | (have := hi.1 hq; omega)
    | false => first | rfl | (have := hi.2 ⟨by omega, by omega, by omega⟩; rw [hq] at this; exact this)
  obtain ⟨R, hR⟩ : ∃ R, fgEnd s a = R := ⟨_, rfl⟩
  rw [hR]
  unfold fgEnd at hR
  rw [hX] at hR
  have HR : Hid (figF s true s.size (a + 1) = R) := hR
  clear hR hX
  have haI : (a : Int) < (s.size : Int) := by omega
  have hI1 : (a : Int) + 1 < (s.size : Int) := by omega
  have hg0 := bt_get s a ha
  rw [h] at hg0
  have hg1 := bt_get s (a + 1) h1
  rw [h2] at hg1
  clear h h2
  go_enter Try.func25, Try.ntmps25
  go_wp2_with fail
  go_loopw [6] (fun i wr => ∃ k f : Nat, a < k ∧ k ≤ s.size ∧ i = .int .i64 k ∧ wr = w ∧ s.size - k ≤ f ∧ Hid (figF s true f k = R)) (fun i _ => s.size - (intOf i).toNat)
  case atStart => exact ⟨a + 1, s.size, by omega, by omega, by simp, rfl, by omega, HR⟩
  case round =>
    clear HR
    obtain ⟨k, f, hak, hk, rfl, rfl, hf, HK⟩ := hrel
    by_cases hlt : k < s.size
    · have hltI : (k : Int) < (s.size : Int) := by omega
      obtain ⟨c, hc⟩ : ∃ c, k = c + 1 := ⟨k - 1, by omega⟩
      have hcI : (k : Int) - 1 = (c : Int) := by omega
      have hcl : c < s.size := by omega
      have hclI : (c : Int) < (s.size : Int) := by omega
      have hy := bt_get s k hlt
      have hx := bt_get s c hcl
      have hD := fun w1 => udigit_any (bt s k : Int) w1
      have hP := fun w1 => uplain_any (bt s k : Int) w1
      have HC : Hid (figC s true k = ((plainL (bt s k) || digitL (bt s k) || decide (((bt s k : Nat) : Int) = 95) || decide (((bt s k : Nat) : Int) = 46)) || (pmL (bt s k) && powL true (bt s c)))) := by rw [Hid, figC, hc]; rfl
      clear hc
      generalize bt s c = x at *
      generalize bt s k = y at *
      by_cases x1 : x = 112
      · have hpw : powL true x = true := by simp [powL, x1]
        rw [hpw] at HC
        rw [x1] at hx
        clear x1 hpw
        cases hd : digitL (y : Int) with
        | true =>
          rw [hd] at hD HC
          have HC2 : Hid (figC s true k = true) := by rw [Hid, HC.out]; simp
          obtain ⟨g, hg, hst⟩ := figF_step s true f k hlt HC2.out hf
          have HK2 : Hid (figF s true g (k + 1) = R) := by rw [Hid, ← hst]; exact HK.out
          clear HC HK hst HC2 
          go_wp2_with (first
            | (go_at_call 23; with_reducible refine (hD _).mono ?_; rintro e wq ⟨rfl, hq⟩; subst wq)
            | (go_at_call 24; with_reducible refine (hP _).mono ?_; rintro e wq ⟨rfl, hq⟩; subst wq)
            | fail)
          go_roundw
          case rel => exact ⟨k + 1, g, by omega, by omega, by go_num, trivial, hg, HK2⟩
          case measure => simp [intOf]; omega
        | false =>
          rw [hd] at hD HC
          cases hp : plainL (y : Int) with
          | true =>
            rw [hp] at hP HC
            have HC2 : Hid (figC s true k = true) := by rw [Hid, HC.out]; simp
            obtain ⟨g, hg, hst⟩ := figF_step s true f k hlt HC2.out hf
            have HK2 : Hid (figF s true g (k + 1) = R) := by rw [Hid, ← hst]; exact HK.out
            clear HC HK hst HC2 
            go_wp2_with (first
              | (go_at_call 23; with_reducible refine (hD _).mono ?_; rintro e wq ⟨rfl, hq⟩; subst wq)
              | (go_at_call 24; with_reducible refine (hP _).mono ?_; rintro e wq ⟨rfl, hq⟩; subst wq)
              | fail)
            go_roundw
            case rel => exact ⟨k + 1, g, by omega, by omega, by go_num, trivial, hg, HK2⟩
            case measure => simp [intOf]; omega
          | false =>
            rw [hp] at hP HC
            by_cases y95 : y = 95
            · have y95b : ((y : Int) != 95) = false := by simp; omega
              have HC2 : Hid (figC s true k = true) := by rw [Hid, HC.out]; simp [y95]
              obtain ⟨g, hg, hst⟩ := figF_step s true f k hlt HC2.out hf
              have HK2 : Hid (figF s true g (k + 1) = R) := by rw [Hid, ← hst]; exact HK.out
              clear HC HK hst HC2 y95
              go_wp2_with (first
                | (go_at_call 23; with_reducible refine (hD _).mono ?_; rintro e wq ⟨rfl, hq⟩; subst wq)
                | (go_at_call 24; with_reducible refine (hP _).mono ?_; rintro e wq ⟨rfl, hq⟩; subst wq)
                | fail)
              go_roundw
              case rel => exact ⟨k + 1, g, by omega, by omega, by go_num, trivial, hg, HK2⟩
              case measure => simp [intOf]; omega
            · have y95b : ((y : Int) != 95) = true := by simp; omega
              have y95c : ¬ (y : Int) = 95 := by omega
              by_cases y46 : y = 46
              · have y46b : ((y : Int) != 46) = false := by simp; omega
                have HC2 : Hid (figC s true k = true) := by rw [Hid, HC.out]; simp [y46]
                obtain ⟨g, hg, hst⟩ := figF_step s true f k hlt HC2.out hf
                have HK2 : Hid (figF s true g (k + 1) = R) := by rw [Hid, ← hst]; exact HK.out
                clear HC HK hst HC2 y46
                go_wp2_with (first
                  | (go_at_call 23; with_reducible refine (hD _).mono ?_; rintro e wq ⟨rfl, hq⟩; subst wq)
                  | (go_at_call 24; with_reducible refine (hP _).mono ?_; rintro e wq ⟨rfl, hq⟩; subst wq)
                  | fail)
                go_roundw
                case rel => exact ⟨k + 1, g, by omega, by omega, by go_num, trivial, hg, HK2⟩
                case measure => simp [intOf]; omega
              · have y46b : ((y : Int) != 46) = true := by simp; omega
                have y46c : ¬ (y : Int) = 46 := by omega
                by_cases y43 : y = 43
                · have y43b : ((y : Int) == 43) = true := by simp; omega
                  have HC2 : Hid (figC s true k = true) := by rw [Hid, HC.out]; simp [pmL, y43]
                  obtain ⟨g, hg, hst⟩ := figF_step s true f k hlt HC2.out hf
                  have HK2 : Hid (figF s true g (k + 1) = R) := by rw [Hid, ← hst]; exact HK.out
                  clear HC HK hst HC2 y43
                  go_wp2_with (first
                    | (go_at_call 23; with_reducible refine (hD _).mono ?_; rintro e wq ⟨rfl, hq⟩; subst wq)
                    | (go_at_call 24; with_reducible refine (hP _).mono ?_; rintro e wq ⟨rfl, hq⟩; subst wq)
                    | fail)
                  go_roundw
                  case rel => exact ⟨k + 1, g, by omega, by omega, by go_num, trivial, hg, HK2⟩
                  case measure => simp [intOf]; omega
                · have y43b : ((y : Int) == 43) = false := by simp; omega
                  have y43c : ¬ (y : Int) = 43 := by omega
                  by_cases y45 : y = 45
                  · have y45b : ((y : Int) == 45) = true := by simp; omega
                    have HC2 : Hid (figC s true k = true) := by rw [Hid, HC.out]; simp [pmL, y45]
                    obtain ⟨g, hg, hst⟩ := figF_step s true f k hlt HC2.out hf
                    have HK2 : Hid (figF s true g (k + 1) = R) := by rw [Hid, ← hst]; exact HK.out
                    clear HC HK hst HC2 y45
                    go_wp2_with (first
                      | (go_at_call 23; with_reducible refine (hD _).mono ?_; rintro e wq ⟨rfl, hq⟩; subst wq)
                      | (go_at_call 24; with_reducible refine (hP _).mono ?_; rintro e wq ⟨rfl, hq⟩; subst wq)
                      | fail)
                    go_roundw
                    case rel => exact ⟨k + 1, g, by omega, by omega, by go_num, trivial, hg, HK2⟩
                    case measure => simp [intOf]; omega
                  · have y45b : ((y : Int) == 45) = false := by simp; omega
                    have y45c : ¬ (y : Int) = 45 := by omega
                    have HC2 : Hid (figC s true k = false) := by rw [Hid, HC.out]; simp [pmL, y95c, y46c, y43c, y45c]
                    have HK2 : Hid (k = R) := by rw [Hid, ← HK.out, figF_stop s true f k (fun h => by rw [HC2.out] at h; simp at h)]
                    clear HC HK HC2 
                    go_wp2_with (first
                      | (go_at_call 23; with_reducible refine (hD _).mono ?_; rintro e wq ⟨rfl, hq⟩; subst wq)
                      | (go_at_call 24; with_reducible refine (hP _).mono ?_; rintro e wq ⟨rfl, hq⟩; subst wq)
                      | fail)
                    go_ret
                    exact ⟨ret_int (by rw [← HK2.out]), rfl⟩
      · have x1b : ((x : Int) == 112) = false := by simp; omega
        have x1c : ¬ (x : Int) = 112 := by omega
        by_cases x2 : x = 80
        · have hpw : powL true x = true := by simp [powL, x2]
          rw [hpw] at HC
          rw [x2] at hx
          clear x1 x1b x1c x2 hpw
          cases hd : digitL (y : Int) with
          | true =>
            rw [hd] at hD HC
            have HC2 : Hid (figC s true k = true) := by rw [Hid, HC.out]; simp
            obtain ⟨g, hg, hst⟩ := figF_step s true f k hlt HC2.out hf
            have HK2 : Hid (figF s true g (k + 1) = R) := by rw [Hid, ← hst]; exact HK.out
            clear HC HK hst HC2 
            go_wp2_with (first
              | (go_at_call 23; with_reducible refine (hD _).mono ?_; rintro e wq ⟨rfl, hq⟩; subst wq)
              | (go_at_call 24; with_reducible refine (hP _).mono ?_; rintro e wq ⟨rfl, hq⟩; subst wq)
              | fail)
            go_roundw
            case rel => exact ⟨k + 1, g, by omega, by omega, by go_num, trivial, hg, HK2⟩
            case measure => simp [intOf]; omega
          | false =>
            rw [hd] at hD HC
            cases hp : plainL (y : Int) with
            | true =>
              rw [hp] at hP HC
              have HC2 : Hid (figC s true k = true) := by rw [Hid, HC.out]; simp
              obtain ⟨g, hg, hst⟩ := figF_step s true f k hlt HC2.out hf
              have HK2 : Hid (figF s true g (k + 1) = R) := by rw [Hid, ← hst]; exact HK.out
              clear HC HK hst HC2 
              go_wp2_with (first
                | (go_at_call 23; with_reducible refine (hD _).mono ?_; rintro e wq ⟨rfl, hq⟩; subst wq)
                | (go_at_call 24; with_reducible refine (hP _).mono ?_; rintro e wq ⟨rfl, hq⟩; subst wq)
                | fail)
              go_roundw
              case rel => exact ⟨k + 1, g, by omega, by omega, by go_num, trivial, hg, HK2⟩
              case measure => simp [intOf]; omega
            | false =>
              rw [hp] at hP HC
              by_cases y95 : y = 95
              · have y95b : ((y : Int) != 95) = false := by simp; omega
                have HC2 : Hid (figC s true k = true) := by rw [Hid, HC.out]; simp [y95]
                obtain ⟨g, hg, hst⟩ := figF_step s true f k hlt HC2.out hf
                have HK2 : Hid (figF s true g (k + 1) = R) := by rw [Hid, ← hst]; exact HK.out
                clear HC HK hst HC2 y95
                go_wp2_with (first
                  | (go_at_call 23; with_reducible refine (hD _).mono ?_; rintro e wq ⟨rfl, hq⟩; subst wq)
                  | (go_at_call 24; with_reducible refine (hP _).mono ?_; rintro e wq ⟨rfl, hq⟩; subst wq)
                  | fail)
                go_roundw
                case rel => exact ⟨k + 1, g, by omega, by omega, by go_num, trivial, hg, HK2⟩
                case measure => simp [intOf]; omega
              · have y95b : ((y : Int) != 95) = true := by simp; omega
                have y95c : ¬ (y : Int) = 95 := by omega
                by_cases y46 : y = 46
                · have y46b : ((y : Int) != 46) = false := by simp; omega
                  have HC2 : Hid (figC s true k = true) := by rw [Hid, HC.out]; simp [y46]
                  obtain ⟨g, hg, hst⟩ := figF_step s true f k hlt HC2.out hf
                  have HK2 : Hid (figF s true g (k + 1) = R) := by rw [Hid, ← hst]; exact HK.out
                  clear HC HK hst HC2 y46
                  go_wp2_with (first
                    | (go_at_call 23; with_reducible refine (hD _).mono ?_; rintro e wq ⟨rfl, hq⟩; subst wq)
                    | (go_at_call 24; with_reducible refine (hP _).mono ?_; rintro e wq ⟨rfl, hq⟩; subst wq)
                    | fail)
                  go_roundw
                  case rel => exact ⟨k + 1, g, by omega, by omega, by go_num, trivial, hg, HK2⟩
                  case measure => simp [intOf]; omega
                · have y46b : ((y : Int) != 46) = true := by simp; omega
                  have y46c : ¬ (y : Int) = 46 := by omega
                  by_cases y43 : y = 43
                  · have y43b : ((y : Int) == 43) = true := by simp; omega
                    have HC2 : Hid (figC s true k = true) := by rw [Hid, HC.out]; simp [pmL, y43]
                    obtain ⟨g, hg, hst⟩ := figF_step s true f k hlt HC2.out hf
                    have HK2 : Hid (figF s true g (k + 1) = R) := by rw [Hid, ← hst]; exact HK.out
                    clear HC HK hst HC2 y43
                    go_wp2_with (first
                      | (go_at_call 23; with_reducible refine (hD _).mono ?_; rintro e wq ⟨rfl, hq⟩; subst wq)
                      | (go_at_call 24; with_reducible refine (hP _).mono ?_; rintro e wq ⟨rfl, hq⟩; subst wq)
                      | fail)
                    go_roundw
                    case rel => exact ⟨k + 1, g, by omega, by omega, by go_num, trivial, hg, HK2⟩
                    case measure => simp [intOf]; omega
                  · have y43b : ((y : Int) == 43) = false := by simp; omega
                    have y43c : ¬ (y : Int) = 43 := by omega
                    by_cases y45 : y = 45
                    · have y45b : ((y : Int) == 45) = true := by simp; omega
                      have HC2 : Hid (figC s true k = true) := by rw [Hid, HC.out]; simp [pmL, y45]
                      obtain ⟨g, hg, hst⟩ := figF_step s true f k hlt HC2.out hf
                      have HK2 : Hid (figF s true g (k + 1) = R) := by rw [Hid, ← hst]; exact HK.out
                      clear HC HK hst HC2 y45
                      go_wp2_with (first
                        | (go_at_call 23; with_reducible refine (hD _).mono ?_; rintro e wq ⟨rfl, hq⟩; subst wq)
                        | (go_at_call 24; with_reducible refine (hP _).mono ?_; rintro e wq ⟨rfl, hq⟩; subst wq)
                        | fail)
                      go_roundw
                      case rel => exact ⟨k + 1, g, by omega, by omega, by go_num, trivial, hg, HK2⟩
                      case measure => simp [intOf]; omega
                    · have y45b : ((y : Int) == 45) = false := by simp; omega
                      have y45c : ¬ (y : Int) = 45 := by omega
                      have HC2 : Hid (figC s true k = false) := by rw [Hid, HC.out]; simp [pmL, y95c, y46c, y43c, y45c]
                      have HK2 : Hid (k = R) := by rw [Hid, ← HK.out, figF_stop s true f k (fun h => by rw [HC2.out] at h; simp at h)]
                      clear HC HK HC2 
                      go_wp2_with (first
                        | (go_at_call 23; with_reducible refine (hD _).mono ?_; rintro e wq ⟨rfl, hq⟩; subst wq)
                        | (go_at_call 24; with_reducible refine (hP _).mono ?_; rintro e wq ⟨rfl, hq⟩; subst wq)
                        | fail)
                      go_ret
                      exact ⟨ret_int (by rw [← HK2.out]), rfl⟩
        · have x2b : ((x : Int) == 80) = false := by simp; omega
          have x2c : ¬ (x : Int) = 80 := by omega
          have hpw : powL true x = false := by simp [powL, x1, x2]
          rw [hpw] at HC
          clear hpw
          cases hd : digitL (y : Int) with
          | true =>
            rw [hd] at hD HC
            have HC2 : Hid (figC s true k = true) := by rw [Hid, HC.out]; simp
            obtain ⟨g, hg, hst⟩ := figF_step s true f k hlt HC2.out hf
            have HK2 : Hid (figF s true g (k + 1) = R) := by rw [Hid, ← hst]; exact HK.out
            clear HC HK hst HC2 
            go_wp2_with (first
              | (go_at_call 23; with_reducible refine (hD _).mono ?_; rintro e wq ⟨rfl, hq⟩; subst wq)
              | (go_at_call 24; with_reducible refine (hP _).mono ?_; rintro e wq ⟨rfl, hq⟩; subst wq)
              | fail)
            go_roundw
            case rel => exact ⟨k + 1, g, by omega, by omega, by go_num, trivial, hg, HK2⟩
            case measure => simp [intOf]; omega
          | false =>
            rw [hd] at hD HC
            cases hp : plainL (y : Int) with
            | true =>
              rw [hp] at hP HC
              have HC2 : Hid (figC s true k = true) := by rw [Hid, HC.out]; simp
              obtain ⟨g, hg, hst⟩ := figF_step s true f k hlt HC2.out hf
              have HK2 : Hid (figF s true g (k + 1) = R) := by rw [Hid, ← hst]; exact HK.out
              clear HC HK hst HC2 
              go_wp2_with (first
                | (go_at_call 23; with_reducible refine (hD _).mono ?_; rintro e wq ⟨rfl, hq⟩; subst wq)
                | (go_at_call 24; with_reducible refine (hP _).mono ?_; rintro e wq ⟨rfl, hq⟩; subst wq)
                | fail)
              go_roundw
              case rel => exact ⟨k + 1, g, by omega, by omega, by go_num, trivial, hg, HK2⟩
              case measure => simp [intOf]; omega
            | false =>
              rw [hp] at hP HC
              by_cases y95 : y = 95
              · have y95b : ((y : Int) != 95) = false := by simp; omega
                have HC2 : Hid (figC s true k = true) := by rw [Hid, HC.out]; simp [y95]
                obtain ⟨g, hg, hst⟩ := figF_step s true f k hlt HC2.out hf
                have HK2 : Hid (figF s true g (k + 1) = R) := by rw [Hid, ← hst]; exact HK.out
                clear HC HK hst HC2 y95
                go_wp2_with (first
                  | (go_at_call 23; with_reducible refine (hD _).mono ?_; rintro e wq ⟨rfl, hq⟩; subst wq)
                  | (go_at_call 24; with_reducible refine (hP _).mono ?_; rintro e wq ⟨rfl, hq⟩; subst wq)
                  | fail)
                go_roundw
                case rel => exact ⟨k + 1, g, by omega, by omega, by go_num, trivial, hg, HK2⟩
                case measure => simp [intOf]; omega
              · have y95b : ((y : Int) != 95) = true := by simp; omega
                have y95c : ¬ (y : Int) = 95 := by omega
                by_cases y46 : y = 46
                · have y46b : ((y : Int) != 46) = false := by simp; omega
                  have HC2 : Hid (figC s true k = true) := by rw [Hid, HC.out]; simp [y46]
                  obtain ⟨g, hg, hst⟩ := figF_step s true f k hlt HC2.out hf
                  have HK2 : Hid (figF s true g (k + 1) = R) := by rw [Hid, ← hst]; exact HK.out
                  clear HC HK hst HC2 y46
                  go_wp2_with (first
                    | (go_at_call 23; with_reducible refine (hD _).mono ?_; rintro e wq ⟨rfl, hq⟩; subst wq)
                    | (go_at_call 24; with_reducible refine (hP _).mono ?_; rintro e wq ⟨rfl, hq⟩; subst wq)
                    | fail)
                  go_roundw
                  case rel => exact ⟨k + 1, g, by omega, by omega, by go_num, trivial, hg, HK2⟩
                  case measure => simp [intOf]; omega
                · have y46b : ((y : Int) != 46) = true := by simp; omega
                  have y46c : ¬ (y : Int) = 46 := by omega
                  have HC2 : Hid (figC s true k = false) := by rw [Hid, HC.out]; simp [y95c, y46c]
                  have HK2 : Hid (k = R) := by rw [Hid, ← HK.out, figF_stop s true f k (fun h => by rw [HC2.out] at h; simp at h)]
                  clear HC HK HC2 
                  go_wp2_with (first
                    | (go_at_call 23; with_reducible refine (hD _).mono ?_; rintro e wq ⟨rfl, hq⟩; subst wq)
                    | (go_at_call 24; with_reducible refine (hP _).mono ?_; rintro e wq ⟨rfl, hq⟩; subst wq)
                    | fail)
                  go_ret
                  exact ⟨ret_int (by rw [← HK2.out]), rfl⟩
    · have hltI : ¬ (k : Int) < (s.size : Int) := by omega
      have HK2 : Hid (k = R) := by rw [Hid, ← HK.out, figF_stop s true f k (fun h => hlt h.1)]
      clear HK
      go_wp2_with fail
      go_ret
      exact ⟨ret_int (by rw [← HK2.out]), rfl⟩
theorem ufg_any (s : ByteArray) (a : Nat) (w : World) (ha : a < s.size) (hs : s.size ≤ 140737488355328) :
    Calls Try.prog 25 #[.string s, .int .i64 a] w fun e w' => e = .returned (.int .i64 (fgEnd s a)) ∧ w' = w := by
  by_cases h1 : a + 1 < s.size
  · by_cases h : bt s a = 48
    · by_cases h2 : bt s (a + 1) = 120
      · exact ufg_h1 s a w ha hs h1 h h2
      · by_cases h3 : bt s (a + 1) = 88
        · exact ufg_h2 s a w ha hs h1 h h3
        · exact ufg_n3 s a w ha hs h1 h h2 h3
    · exact ufg_n2 s a w ha hs h1 h
  · exact ufg_n1 s a w ha hs h1
end Go.Proofs.Ytpndbbepfjocgaa
