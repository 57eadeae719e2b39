import Derived.Test.YtpndbbepfjocgaaCKSp
namespace Go.Proofs.Ytpndbbepfjocgaa
open Go.RowKit
set_option maxRecDepth 100000

def powS (h : Bool) : ByteArray := if h then ⟨#[112, 80]⟩ else ⟨#[101, 69]⟩
theorem u8_eq (a : Nat) (ha : a < 256) (n : Nat) (hn : n < 256) : ((UInt8.ofNat n == (a : Int).toNat.toUInt8) = true) ↔ a = n := by
  simp only [beq_iff_eq, Int.toNat_natCast]
  constructor
  · intro h
    have := congrArg UInt8.toNat h
    simp [Nat.toUInt8, Nat.mod_eq_of_lt ha, Nat.mod_eq_of_lt hn] at this
    omega
  · rintro rfl; rfl
theorem idx2 (x y : Nat) (hx : x < 256) (hy : y < 256) (a : Nat) (ha : a < 256) : Lib.indexByte [UInt8.ofNat x, UInt8.ofNat y] (a : Int).toNat.toUInt8 = if a = x then 0 else if a = y then 1 else -1 := by
  unfold Lib.indexByte
  by_cases h1 : a = x
  · rw [if_pos ((u8_eq a ha x hx).2 h1), if_pos h1]
  · rw [if_neg (fun h => h1 ((u8_eq a ha x hx).1 h)), if_neg h1]
    unfold Lib.indexByte
    by_cases h2 : a = y
    · rw [if_pos ((u8_eq a ha y hy).2 h2), if_pos h2]; rfl
    · rw [if_neg (fun h => h2 ((u8_eq a ha y hy).1 h)), if_neg h2]; rfl
theorem pow_idx (h : Bool) (c : Nat) (hc : c < 256) : ∃ r : Int, Lib.indexByte (powS h).data.toList (c : Int).toNat.toUInt8 = r ∧ (0 ≤ r ↔ powL h c = true) ∧ -1 ≤ r ∧ r ≤ 1 := by
  refine ⟨_, rfl, ?_⟩
  cases h with
  | true =>
    have e : Lib.indexByte (powS true).data.toList (c : Int).toNat.toUInt8 = _ := idx2 112 80 (by decide) (by decide) c hc
    rw [e]
    unfold powL
    by_cases h1 : c = 112
    · simp [h1]
    · by_cases h2 : c = 80
      · simp [h2]
      · simp [h1, h2]
  | false =>
    have e : Lib.indexByte (powS false).data.toList (c : Int).toNat.toUInt8 = _ := idx2 101 69 (by decide) (by decide) c hc
    rw [e]
    unfold powL
    by_cases h1 : c = 101
    · simp [h1]
    · by_cases h2 : c = 69
      · simp [h2]
      · simp [h1, h2]
theorem powI_any (h : Bool) (c : Nat) (hc : c < 256) (w : World) : ∃ r : Int, (0 ≤ r ↔ powL h c = true) ∧ -1 ≤ r ∧ r ≤ 1 ∧ Calls Try.prog 30 #[.string (powS h), .int .u8 (c : Int)] w fun e w' => e = .returned (.int .i64 r) ∧ w' = w := by
  obtain ⟨r, h1, h2, h3, h4⟩ := pow_idx h c hc
  refine ⟨r, h2, h3, h4, ?_⟩
  rw [← h1]
  exact Try.strings_IndexByte _ _ _
set_option maxHeartbeats 4000000 in
theorem figureEnd_any (s : ByteArray) (a : Nat) (w : World) (ha : a < s.size) (hs : s.size ≤ 140737488355328) :
    Calls Try.prog 37 #[.string s, .int .i64 a] w fun e w' => e = .returned (.int .i64 (fgEnd s a)) ∧ w' = w := by
  obtain ⟨R, hR⟩ : ∃ R, fgEnd s a = R := ⟨_, rfl⟩
  rw [hR]
  unfold fgEnd at hR
  have haI : (a : Int) ≤ (s.size : Int) := by omega
  have HP : ∀ w, Calls Try.prog 46 #[.string (s.extract a s.size), .string ⟨#[48, 120]⟩] w fun e w' => e = .returned (.bool (Lib.hasPrefix (sub s a).data.toList [48, 120])) ∧ w' = w := fun w => Try.strings_HasPrefix _ _ w
  have HQ : ∀ w, Calls Try.prog 46 #[.string (s.extract a s.size), .string ⟨#[48, 88]⟩] w fun e w' => e = .returned (.bool (Lib.hasPrefix (sub s a).data.toList [48, 88])) ∧ w' = w := fun w => Try.strings_HasPrefix _ _ w
  unfold hexP at hR
  generalize Lib.hasPrefix (sub s a).data.toList [48, 120] = p1 at *
  generalize Lib.hasPrefix (sub s a).data.toList [48, 88] = p2 at *
  cases p1 with
  | true =>
    have HR : Hid (figF s true s.size (a + 1) = R) := hR
    clear hR
    go_enter Try.func37, Try.ntmps37
    go_wp2_with (first
      | (go_at_call 46; (first | with_reducible refine (HP _).mono ?_ | with_reducible refine (HQ _).mono ?_); rintro e wq ⟨rfl, hq⟩; subst wq)
      | fail)
    clear HP HQ
    go_loopw [6] (fun i wr => ∃ k f : Nat, a < k ∧ k ≤ s.size ∧ i = .int .i64 k ∧ wr = w ∧ s.size - k ≤ f ∧ Hid (figF s true f k = R)) (fun i _ => s.size - (intOf i).toNat)
    case atStart => exact ⟨a + 1, s.size, by omega, by omega, by simp, rfl, by omega, HR⟩
    case round =>
      clear HR
      obtain ⟨k, f, hak, hk, rfl, rfl, hf, HK⟩ := hrel
      by_cases hlt : k < s.size
      · have hltI : (k : Int) < (s.size : Int) := by omega
        obtain ⟨c, hc⟩ : ∃ c, k = c + 1 := ⟨k - 1, by omega⟩
        have hcI : (k : Int) - 1 = (c : Int) := by omega
        have hcl : c < s.size := by omega
        have hy := bt_get s k hlt
        have hx := bt_get s c hcl
        have hyl := bt_lt s k
        have hxl := bt_lt s c
        have hF := figB_any (bt s k) wr hyl
        have hM := pm_any (bt s k) wr
        obtain ⟨r, hr1, hr2, hr3, hI⟩ := powI_any true (bt s c) hxl wr
        have HC : Hid (figC s true k = (figL (bt s k) || (pmL (bt s k) && powL true (bt s c)))) := by rw [Hid, figC, hc]; rfl
        have hI2 : Calls Try.prog 30 #[.string ⟨#[112, 80]⟩, .int .u8 ((bt s c : Nat) : Int)] wr fun e w' => e = .returned (.int .i64 r) ∧ w' = wr := hI
        clear hI hc
        generalize bt s c = x at *
        cases hfl : figL (bt s k) with
        | true =>
          rw [hfl] at hF
          have HC2 : Hid (figC s true k = true) := by rw [Hid, HC.out, hfl]; rfl
          clear HC
          obtain ⟨g, hg, hst⟩ := figF_step s true f k hlt HC2.out hf
          have HK2 : Hid (figF s true g (k + 1) = R) := by rw [Hid, ← hst]; exact HK.out
          clear HK hst HC2 hM hI2
          generalize bt s k = y at *
          go_wp2_with (first
            | (go_at_call 47; with_reducible refine hF.mono ?_; rintro e wq ⟨rfl, hq⟩; subst wq)
            | fail)
          go_roundw
          case rel => exact ⟨k + 1, g, by omega, by omega, by go_num, trivial, hg, HK2⟩
          case measure => simp [intOf]; omega
        | false =>
          rw [hfl] at hF
          cases hpm : pmL (bt s k) with
          | false =>
            rw [hpm] at hM
            have HK2 : Hid (k = R) := by rw [Hid, ← HK.out, figF_stop s true f k (fun h => by have := h.2; rw [HC.out, hfl, hpm] at this; simp at this)]
            clear HC HK hI2
            generalize bt s k = y at *
            go_wp2_with (first
              | (go_at_call 47; with_reducible refine hF.mono ?_; rintro e wq ⟨rfl, hq⟩; subst wq)
              | (go_at_call 48; with_reducible refine hM.mono ?_; rintro e wq ⟨rfl, hq⟩; subst wq)
              | fail)
            go_ret
            exact ⟨ret_int (by rw [← HK2.out]), rfl⟩
          | true =>
            rw [hpm] at hM
            by_cases hr0 : 0 ≤ r
            · have HC2 : Hid (figC s true k = true) := by rw [Hid, HC.out, hfl, hpm, hr1.1 hr0]; rfl
              obtain ⟨g, hg, hst⟩ := figF_step s true f k hlt HC2.out hf
              have HK2 : Hid (figF s true g (k + 1) = R) := by rw [Hid, ← hst]; exact HK.out
              clear HC HK hst HC2 hr1
              generalize bt s k = y at *
              go_wp2_with (first
                | (go_at_call 47; with_reducible refine hF.mono ?_; rintro e wq ⟨rfl, hq⟩; subst wq)
                | (go_at_call 48; with_reducible refine hM.mono ?_; rintro e wq ⟨rfl, hq⟩; subst wq)
                | (go_at_call 30; with_reducible refine hI2.mono ?_; rintro e wq ⟨rfl, hq⟩; subst wq)
                | fail)
              go_roundw
              case rel => exact ⟨k + 1, g, by omega, by omega, by go_num, trivial, hg, HK2⟩
              case measure => simp [intOf]; omega
            · have HK2 : Hid (k = R) := by rw [Hid, ← HK.out, figF_stop s true f k (fun h => by have := h.2; rw [HC.out, hfl, hpm] at this; exact hr0 (hr1.2 (by simpa using this)))]
              clear HC HK hr1
              generalize bt s k = y at *
              go_wp2_with (first
                | (go_at_call 47; with_reducible refine hF.mono ?_; rintro e wq ⟨rfl, hq⟩; subst wq)
                | (go_at_call 48; with_reducible refine hM.mono ?_; rintro e wq ⟨rfl, hq⟩; subst wq)
                | (go_at_call 30; with_reducible refine hI2.mono ?_; rintro e wq ⟨rfl, hq⟩; subst wq)
                | fail)
              go_ret
              exact ⟨ret_int (by rw [← HK2.out]), rfl⟩
      · have hltI : ¬ (k : Int) < (s.size : Int) := by omega
        have HK2 : Hid (k = R) := by rw [Hid, ← HK.out, figF_stop s true f k (fun h => hlt h.1)]
        clear HK
        go_wp2_with fail
        go_ret
        exact ⟨ret_int (by rw [← HK2.out]), rfl⟩
  | false =>
    cases p2 with
    | true =>
      have HR : Hid (figF s true s.size (a + 1) = R) := hR
      clear hR
      go_enter Try.func37, Try.ntmps37
      go_wp2_with (first
        | (go_at_call 46; (first | with_reducible refine (HP _).mono ?_ | with_reducible refine (HQ _).mono ?_); rintro e wq ⟨rfl, hq⟩; subst wq)
        | fail)
      clear HP HQ
      go_loopw [6] (fun i wr => ∃ k f : Nat, a < k ∧ k ≤ s.size ∧ i = .int .i64 k ∧ wr = w ∧ s.size - k ≤ f ∧ Hid (figF s true f k = R)) (fun i _ => s.size - (intOf i).toNat)
      case atStart => exact ⟨a + 1, s.size, by omega, by omega, by simp, rfl, by omega, HR⟩
      case round =>
        clear HR
        obtain ⟨k, f, hak, hk, rfl, rfl, hf, HK⟩ := hrel
        by_cases hlt : k < s.size
        · have hltI : (k : Int) < (s.size : Int) := by omega
          obtain ⟨c, hc⟩ : ∃ c, k = c + 1 := ⟨k - 1, by omega⟩
          have hcI : (k : Int) - 1 = (c : Int) := by omega
          have hcl : c < s.size := by omega
          have hy := bt_get s k hlt
          have hx := bt_get s c hcl
          have hyl := bt_lt s k
          have hxl := bt_lt s c
          have hF := figB_any (bt s k) wr hyl
          have hM := pm_any (bt s k) wr
          obtain ⟨r, hr1, hr2, hr3, hI⟩ := powI_any true (bt s c) hxl wr
          have HC : Hid (figC s true k = (figL (bt s k) || (pmL (bt s k) && powL true (bt s c)))) := by rw [Hid, figC, hc]; rfl
          have hI2 : Calls Try.prog 30 #[.string ⟨#[112, 80]⟩, .int .u8 ((bt s c : Nat) : Int)] wr fun e w' => e = .returned (.int .i64 r) ∧ w' = wr := hI
          clear hI hc
          generalize bt s c = x at *
          cases hfl : figL (bt s k) with
          | true =>
            rw [hfl] at hF
            have HC2 : Hid (figC s true k = true) := by rw [Hid, HC.out, hfl]; rfl
            clear HC
            obtain ⟨g, hg, hst⟩ := figF_step s true f k hlt HC2.out hf
            have HK2 : Hid (figF s true g (k + 1) = R) := by rw [Hid, ← hst]; exact HK.out
            clear HK hst HC2 hM hI2
            generalize bt s k = y at *
            go_wp2_with (first
              | (go_at_call 47; with_reducible refine hF.mono ?_; rintro e wq ⟨rfl, hq⟩; subst wq)
              | fail)
            go_roundw
            case rel => exact ⟨k + 1, g, by omega, by omega, by go_num, trivial, hg, HK2⟩
            case measure => simp [intOf]; omega
          | false =>
            rw [hfl] at hF
            cases hpm : pmL (bt s k) with
            | false =>
              rw [hpm] at hM
              have HK2 : Hid (k = R) := by rw [Hid, ← HK.out, figF_stop s true f k (fun h => by have := h.2; rw [HC.out, hfl, hpm] at this; simp at this)]
              clear HC HK hI2
              generalize bt s k = y at *
              go_wp2_with (first
                | (go_at_call 47; with_reducible refine hF.mono ?_; rintro e wq ⟨rfl, hq⟩; subst wq)
                | (go_at_call 48; with_reducible refine hM.mono ?_; rintro e wq ⟨rfl, hq⟩; subst wq)
                | fail)
              go_ret
              exact ⟨ret_int (by rw [← HK2.out]), rfl⟩
            | true =>
              rw [hpm] at hM
              by_cases hr0 : 0 ≤ r
              · have HC2 : Hid (figC s true k = true) := by rw [Hid, HC.out, hfl, hpm, hr1.1 hr0]; rfl
                obtain ⟨g, hg, hst⟩ := figF_step s true f k hlt HC2.out hf
                have HK2 : Hid (figF s true g (k + 1) = R) := by rw [Hid, ← hst]; exact HK.out
                clear HC HK hst HC2 hr1
                generalize bt s k = y at *
                go_wp2_with (first
                  | (go_at_call 47; with_reducible refine hF.mono ?_; rintro e wq ⟨rfl, hq⟩; subst wq)
                  | (go_at_call 48; with_reducible refine hM.mono ?_; rintro e wq ⟨rfl, hq⟩; subst wq)
                  | (go_at_call 30; with_reducible refine hI2.mono ?_; rintro e wq ⟨rfl, hq⟩; subst wq)
                  | fail)
                go_roundw
                case rel => exact ⟨k + 1, g, by omega, by omega, by go_num, trivial, hg, HK2⟩
                case measure => simp [intOf]; omega
              · have HK2 : Hid (k = R) := by rw [Hid, ← HK.out, figF_stop s true f k (fun h => by have := h.2; rw [HC.out, hfl, hpm] at this; exact hr0 (hr1.2 (by simpa using this)))]
                clear HC HK hr1
                generalize bt s k = y at *
                go_wp2_with (first
                  | (go_at_call 47; with_reducible refine hF.mono ?_; rintro e wq ⟨rfl, hq⟩; subst wq)
                  | (go_at_call 48; with_reducible refine hM.mono ?_; rintro e wq ⟨rfl, hq⟩; subst wq)
                  | (go_at_call 30; with_reducible refine hI2.mono ?_; rintro e wq ⟨rfl, hq⟩; subst wq)
                  | fail)
                go_ret
                exact ⟨ret_int (by rw [← HK2.out]), rfl⟩
        · have hltI : ¬ (k : Int) < (s.size : Int) := by omega
          have HK2 : Hid (k = R) := by rw [Hid, ← HK.out, figF_stop s true f k (fun h => hlt h.1)]
          clear HK
          go_wp2_with fail
          go_ret
          exact ⟨ret_int (by rw [← HK2.out]), rfl⟩
    | false =>
      have HR : Hid (figF s false s.size (a + 1) = R) := hR
      clear hR
      go_enter Try.func37, Try.ntmps37
      go_wp2_with (first
        | (go_at_call 46; (first | with_reducible refine (HP _).mono ?_ | with_reducible refine (HQ _).mono ?_); rintro e wq ⟨rfl, hq⟩; subst wq)
        | fail)
      clear HP HQ
      go_loopw [6] (fun i wr => ∃ k f : Nat, a < k ∧ k ≤ s.size ∧ i = .int .i64 k ∧ wr = w ∧ s.size - k ≤ f ∧ Hid (figF s false f k = R)) (fun i _ => s.size - (intOf i).toNat)
      case atStart => exact ⟨a + 1, s.size, by omega, by omega, by simp, rfl, by omega, HR⟩
      case round =>
        clear HR
        obtain ⟨k, f, hak, hk, rfl, rfl, hf, HK⟩ := hrel
        by_cases hlt : k < s.size
        · have hltI : (k : Int) < (s.size : Int) := by omega
          obtain ⟨c, hc⟩ : ∃ c, k = c + 1 := ⟨k - 1, by omega⟩
          have hcI : (k : Int) - 1 = (c : Int) := by omega
          have hcl : c < s.size := by omega
          have hy := bt_get s k hlt
          have hx := bt_get s c hcl
          have hyl := bt_lt s k
          have hxl := bt_lt s c
          have hF := figB_any (bt s k) wr hyl
          have hM := pm_any (bt s k) wr
          obtain ⟨r, hr1, hr2, hr3, hI⟩ := powI_any false (bt s c) hxl wr
          have HC : Hid (figC s false k = (figL (bt s k) || (pmL (bt s k) && powL false (bt s c)))) := by rw [Hid, figC, hc]; rfl
          have hI2 : Calls Try.prog 30 #[.string ⟨#[101, 69]⟩, .int .u8 ((bt s c : Nat) : Int)] wr fun e w' => e = .returned (.int .i64 r) ∧ w' = wr := hI
          clear hI hc
          generalize bt s c = x at *
          cases hfl : figL (bt s k) with
          | true =>
            rw [hfl] at hF
            have HC2 : Hid (figC s false k = true) := by rw [Hid, HC.out, hfl]; rfl
            clear HC
            obtain ⟨g, hg, hst⟩ := figF_step s false f k hlt HC2.out hf
            have HK2 : Hid (figF s false g (k + 1) = R) := by rw [Hid, ← hst]; exact HK.out
            clear HK hst HC2 hM hI2
            generalize bt s k = y at *
            go_wp2_with (first
              | (go_at_call 47; with_reducible refine hF.mono ?_; rintro e wq ⟨rfl, hq⟩; subst wq)
              | fail)
            go_roundw
            case rel => exact ⟨k + 1, g, by omega, by omega, by go_num, trivial, hg, HK2⟩
            case measure => simp [intOf]; omega
          | false =>
            rw [hfl] at hF
            cases hpm : pmL (bt s k) with
            | false =>
              rw [hpm] at hM
              have HK2 : Hid (k = R) := by rw [Hid, ← HK.out, figF_stop s false f k (fun h => by have := h.2; rw [HC.out, hfl, hpm] at this; simp at this)]
              clear HC HK hI2
              generalize bt s k = y at *
              go_wp2_with (first
                | (go_at_call 47; with_reducible refine hF.mono ?_; rintro e wq ⟨rfl, hq⟩; subst wq)
                | (go_at_call 48; with_reducible refine hM.mono ?_; rintro e wq ⟨rfl, hq⟩; subst wq)
                | fail)
              go_ret
              exact ⟨ret_int (by rw [← HK2.out]), rfl⟩
            | true =>
              rw [hpm] at hM
              by_cases hr0 : 0 ≤ r
              · have HC2 : Hid (figC s false k = true) := by rw [Hid, HC.out, hfl, hpm, hr1.1 hr0]; rfl
                obtain ⟨g, hg, hst⟩ := figF_step s false f k hlt HC2.out hf
                have HK2 : Hid (figF s false g (k + 1) = R) := by rw [Hid, ← hst]; exact HK.out
                clear HC HK hst HC2 hr1
                generalize bt s k = y at *
                go_wp2_with (first
                  | (go_at_call 47; with_reducible refine hF.mono ?_; rintro e wq ⟨rfl, hq⟩; subst wq)
                  | (go_at_call 48; with_reducible refine hM.mono ?_; rintro e wq ⟨rfl, hq⟩; subst wq)
                  | (go_at_call 30; with_reducible refine hI2.mono ?_; rintro e wq ⟨rfl, hq⟩; subst wq)
                  | fail)
                go_roundw
                case rel => exact ⟨k + 1, g, by omega, by omega, by go_num, trivial, hg, HK2⟩
                case measure => simp [intOf]; omega
              · have HK2 : Hid (k = R) := by rw [Hid, ← HK.out, figF_stop s false f k (fun h => by have := h.2; rw [HC.out, hfl, hpm] at this; exact hr0 (hr1.2 (by simpa using this)))]
                clear HC HK hr1
                generalize bt s k = y at *
                go_wp2_with (first
                  | (go_at_call 47; with_reducible refine hF.mono ?_; rintro e wq ⟨rfl, hq⟩; subst wq)
                  | (go_at_call 48; with_reducible refine hM.mono ?_; rintro e wq ⟨rfl, hq⟩; subst wq)
                  | (go_at_call 30; with_reducible refine hI2.mono ?_; rintro e wq ⟨rfl, hq⟩; subst wq)
                  | fail)
                go_ret
                exact ⟨ret_int (by rw [← HK2.out]), rfl⟩
        · have hltI : ¬ (k : Int) < (s.size : Int) := by omega
          have HK2 : Hid (k = R) := by rw [Hid, ← HK.out, figF_stop s false f k (fun h => hlt h.1)]
          clear HK
          go_wp2_with fail
          go_ret
          exact ⟨ret_int (by rw [← HK2.out]), rfl⟩
end Go.Proofs.Ytpndbbepfjocgaa
