import Derived.Test.YtgoekampndcinaaFHex
namespace Go.Proofs.Ytgoekampndcinaa
open Go.RowKit

theorem rwf_big (s : ByteArray) (base most f m v : Nat) (h : base ≤ dg (bt s m)) : rwf s base most (f + 1) m v = (0, m, 40) := by rw [rwf, if_pos h]
theorem rwf_over (s : ByteArray) (base most f m v : Nat) (h : ¬ base ≤ dg (bt s m)) (h' : most < v * base + dg (bt s m)) : rwf s base most (f + 1) m v = (0, m, 41) := by rw [rwf, if_neg h, if_pos h']
theorem neg3_0 (m e : Nat) : neg3 (0, m, e) = (0, m, e) := by simp [neg3]
theorem rwf_on (s : ByteArray) (base most f m v : Nat) (h : ¬ base ≤ dg (bt s m)) (h' : ¬ most < v * base + dg (bt s m)) : rwf s base most (f + 1) m v = rwf s base most f (m + 1) (v * base + dg (bt s m)) := by rw [rwf, if_neg h, if_neg h']
set_option maxRecDepth 100000 in
set_option maxHeartbeats 4000000 in
theorem rword_x (s : ByteArray) (w : World) (hs : s.size ≤ 64) (hz : 2 ≤ s.size) (hb0 : bt s 0 = 48) (hb1 : bt s 1 = 120) :
    Calls Try.prog 5 #[.string s] w fun e w' => e = trip (rowV s 2 16 4294967295) ∧ w' = w := by
  have hsI : (s.size : Int) ≤ 64 := by have := hs; omega
  have h0 : 0 < s.size := by omega
  have h0I : (0 : Int) < (s.size : Int) := by omega
  rw [bt_eq s 0 h0] at hb0
  have h1 : 1 < s.size := by omega
  have h1I : (1 : Int) < (s.size : Int) := by omega
  rw [bt_eq s 1 h1] at hb1
  go_enter Try.func5, Try.ntmps5
  go_wp2
  go_loop [9, 10, 11] (fun x k _ => ∃ m v : Nat, 2 ≤ m ∧ m ≤ s.size ∧ k = .int .i64 m ∧ x = .int .u64 v ∧ v ≤ 4294967295 ∧ Hid (rwf s 16 4294967295 (s.size - 2) 2 0 = rwf s 16 4294967295 (s.size - m) m v)) (fun _ k _ => s.size - (intOf k).toNat)
  case atStart => exact ⟨2, 0, Nat.le_refl _, by omega, rfl, rfl, Nat.zero_le _, rfl⟩
  case round =>
    obtain ⟨m, v, him, hms, rfl, rfl, hv, HM⟩ := hrel
    by_cases hlt : m < s.size
    · have hltI : (m : Int) < (s.size : Int) := by omega
      have hye := bt_eq s m hlt
      have hyl := bt_lt s m
      obtain ⟨y, hy⟩ : ∃ y, y = bt s m := ⟨_, rfl⟩
      have HY : Hid (bt s m = y) := hy.symm
      rw [← hy] at hye hyl
      have hsy : (s[m]'hlt).toNat = y := hye.symm
      clear hye hy
      obtain ⟨d, hd⟩ : ∃ d, d = dg y := ⟨_, rfl⟩
      have HD : Hid (dg y = d) := hd.symm
      have hdl := dg_le y
      rw [← hd] at hdl
      clear hd
      have hne : ¬ s.size = 2 := by omega
      obtain ⟨f, hf⟩ : ∃ f, s.size - m = f + 1 := ⟨s.size - m - 1, by omega⟩
      have HF2 : Hid (s.size - m = f + 1) := hf
      clear hf
      have HDY : Hid (dg (bt s m) = d) := by rw [Hid, HY.out, HD.out]
      by_cases c0 : d = 16
      · have HN : Hid (hn y = -1) := by rw [Hid, hn, HD.out, if_pos c0]
        have HE : Hid (rowV s 2 16 4294967295 = (0, m, 40)) := by rw [Hid, rowV, if_neg hne, HM.out, HF2.out, rwf_big _ _ _ _ _ _ (by rw [HDY.out]; omega)]
        clear c0
        go_wp2_with (go_at_call 8; refine (hexn_any _ _ (by omega)).mono ?_; rintro e w' ⟨rfl, hw'⟩; rw [HN.out]; subst hw')
        refine bodyPost_ret (results_tmp3 rfl _ _ _) rfl ?_
        exact ⟨by rw [HE.out]; rfl, rfl⟩
      · have HN : Hid (hn y = d) := by rw [Hid, hn, HD.out, if_neg c0]
        have hd0 : (0 : Int) ≤ (d : Int) := by omega
        by_cases c1 : 16 ≤ d
        · have HE : Hid (rowV s 2 16 4294967295 = (0, m, 40)) := by rw [Hid, rowV, if_neg hne, HM.out, HF2.out, rwf_big _ _ _ _ _ _ (by rw [HDY.out]; exact c1)]
          have c1I : (16 : Int) ≤ (d : Int) := by omega
          go_wp2_with (go_at_call 8; refine (hexn_any _ _ (by omega)).mono ?_; rintro e w' ⟨rfl, hw'⟩; rw [HN.out]; subst hw')
          refine bodyPost_ret (results_tmp3 rfl _ _ _) rfl ?_
          exact ⟨by rw [HE.out]; rfl, rfl⟩
        · have c1I : (d : Int) < 16 := by omega
          by_cases c2 : 4294967295 < v * 16 + d
          · have HE : Hid (rowV s 2 16 4294967295 = (0, m, 41)) := by rw [Hid, rowV, if_neg hne, HM.out, HF2.out, rwf_over _ _ _ _ _ _ (by rw [HDY.out]; exact c1) (by rw [HDY.out]; exact c2)]
            have c2I : (4294967295 : Int) < (v : Int) * 16 + d := by omega
            go_wp2_with (go_at_call 8; refine (hexn_any _ _ (by omega)).mono ?_; rintro e w' ⟨rfl, hw'⟩; rw [HN.out]; subst hw')
            refine bodyPost_ret (results_tmp3 rfl _ _ _) rfl ?_
            exact ⟨by rw [HE.out]; rfl, rfl⟩
          · have HE : Hid (rwf s 16 4294967295 (s.size - 2) 2 0 = rwf s 16 4294967295 f (m + 1) (v * 16 + d)) := by rw [Hid, HM.out, HF2.out, rwf_on _ _ _ _ _ _ (by rw [HDY.out]; exact c1) (by rw [HDY.out]; exact c2), HDY.out]
            have c2I : (v : Int) * 16 + d ≤ 4294967295 := by omega
            go_wp2_with (go_at_call 8; refine (hexn_any _ _ (by omega)).mono ?_; rintro e w' ⟨rfl, hw'⟩; rw [HN.out]; subst hw')
            go_round
            case rel =>
              refine ⟨m + 1, v * 16 + d, by omega, by omega, by go_num, by go_num, by omega, ?_⟩
              have := HF2.out
              rw [Hid, HE.out, show s.size - (m + 1) = f by omega]
            case measure => simp [intOf]; omega
    · obtain rfl : m = s.size := by omega
      have HR : Hid (rwf s 16 4294967295 (s.size - 2) 2 0 = (v, 0, 0)) := by rw [Hid, HM.out, Nat.sub_self]; rfl
      by_cases hzz : s.size = 2
      · have hzI : (s.size : Int) = 2 := by omega
        have HE : Hid (rowV s 2 16 4294967295 = (0, 2, 40)) := by rw [Hid, rowV, if_pos hzz]
        go_wp2
        refine bodyPost_ret (results_tmp3 rfl _ _ _) rfl ?_
        exact ⟨by rw [HE.out]; rfl, rfl⟩
      · have hzb : ((s.size : Int) == 2) = false := by rw [beq_eq_false_iff_ne]; omega
        have HE : Hid (rowV s 2 16 4294967295 = (v, 0, 0)) := by rw [Hid, rowV, if_neg hzz, HR.out]
        go_wp2
        refine bodyPost_ret (results_tmp3 rfl _ _ _) rfl ?_
        refine ⟨?_, rfl⟩
        rw [HE.out]
        refine trip3 ?_ rfl rfl
        show _ = (v : Int)
        omega
set_option maxRecDepth 100000 in
set_option maxHeartbeats 4000000 in
theorem rword_b (s : ByteArray) (w : World) (hs : s.size ≤ 64) (hz : 2 ≤ s.size) (hb0 : bt s 0 = 48) (hb1 : bt s 1 = 98) :
    Calls Try.prog 5 #[.string s] w fun e w' => e = trip (rowV s 2 2 4294967295) ∧ w' = w := by
  have hsI : (s.size : Int) ≤ 64 := by have := hs; omega
  have h0 : 0 < s.size := by omega
  have h0I : (0 : Int) < (s.size : Int) := by omega
  rw [bt_eq s 0 h0] at hb0
  have h1 : 1 < s.size := by omega
  have h1I : (1 : Int) < (s.size : Int) := by omega
  rw [bt_eq s 1 h1] at hb1
  go_enter Try.func5, Try.ntmps5
  go_wp2
  go_loop [9, 10, 11] (fun x k _ => ∃ m v : Nat, 2 ≤ m ∧ m ≤ s.size ∧ k = .int .i64 m ∧ x = .int .u64 v ∧ v ≤ 4294967295 ∧ Hid (rwf s 2 4294967295 (s.size - 2) 2 0 = rwf s 2 4294967295 (s.size - m) m v)) (fun _ k _ => s.size - (intOf k).toNat)
  case atStart => exact ⟨2, 0, Nat.le_refl _, by omega, rfl, rfl, Nat.zero_le _, rfl⟩
  case round =>
    obtain ⟨m, v, him, hms, rfl, rfl, hv, HM⟩ := hrel
    by_cases hlt : m < s.size
    · have hltI : (m : Int) < (s.size : Int) := by omega
      have hye := bt_eq s m hlt
      have hyl := bt_lt s m
      obtain ⟨y, hy⟩ : ∃ y, y = bt s m := ⟨_, rfl⟩
      have HY : Hid (bt s m = y) := hy.symm
      rw [← hy] at hye hyl
      have hsy : (s[m]'hlt).toNat = y := hye.symm
      clear hye hy
      obtain ⟨d, hd⟩ : ∃ d, d = dg y := ⟨_, rfl⟩
      have HD : Hid (dg y = d) := hd.symm
      have hdl := dg_le y
      rw [← hd] at hdl
      clear hd
      have hne : ¬ s.size = 2 := by omega
      obtain ⟨f, hf⟩ : ∃ f, s.size - m = f + 1 := ⟨s.size - m - 1, by omega⟩
      have HF2 : Hid (s.size - m = f + 1) := hf
      clear hf
      have HDY : Hid (dg (bt s m) = d) := by rw [Hid, HY.out, HD.out]
      by_cases c0 : d = 16
      · have HN : Hid (hn y = -1) := by rw [Hid, hn, HD.out, if_pos c0]
        have HE : Hid (rowV s 2 2 4294967295 = (0, m, 40)) := by rw [Hid, rowV, if_neg hne, HM.out, HF2.out, rwf_big _ _ _ _ _ _ (by rw [HDY.out]; omega)]
        clear c0
        go_wp2_with (go_at_call 8; refine (hexn_any _ _ (by omega)).mono ?_; rintro e w' ⟨rfl, hw'⟩; rw [HN.out]; subst hw')
        refine bodyPost_ret (results_tmp3 rfl _ _ _) rfl ?_
        exact ⟨by rw [HE.out]; rfl, rfl⟩
      · have HN : Hid (hn y = d) := by rw [Hid, hn, HD.out, if_neg c0]
        have hd0 : (0 : Int) ≤ (d : Int) := by omega
        by_cases c1 : 2 ≤ d
        · have HE : Hid (rowV s 2 2 4294967295 = (0, m, 40)) := by rw [Hid, rowV, if_neg hne, HM.out, HF2.out, rwf_big _ _ _ _ _ _ (by rw [HDY.out]; exact c1)]
          have c1I : (2 : Int) ≤ (d : Int) := by omega
          go_wp2_with (go_at_call 8; refine (hexn_any _ _ (by omega)).mono ?_; rintro e w' ⟨rfl, hw'⟩; rw [HN.out]; subst hw')
          refine bodyPost_ret (results_tmp3 rfl _ _ _) rfl ?_
          exact ⟨by rw [HE.out]; rfl, rfl⟩
        · have c1I : (d : Int) < 2 := by omega
          by_cases c2 : 4294967295 < v * 2 + d
          · have HE : Hid (rowV s 2 2 4294967295 = (0, m, 41)) := by rw [Hid, rowV, if_neg hne, HM.out, HF2.out, rwf_over _ _ _ _ _ _ (by rw [HDY.out]; exact c1) (by rw [HDY.out]; exact c2)]
            have c2I : (4294967295 : Int) < (v : Int) * 2 + d := by omega
            go_wp2_with (go_at_call 8; refine (hexn_any _ _ (by omega)).mono ?_; rintro e w' ⟨rfl, hw'⟩; rw [HN.out]; subst hw')
            refine bodyPost_ret (results_tmp3 rfl _ _ _) rfl ?_
            exact ⟨by rw [HE.out]; rfl, rfl⟩
          · have HE : Hid (rwf s 2 4294967295 (s.size - 2) 2 0 = rwf s 2 4294967295 f (m + 1) (v * 2 + d)) := by rw [Hid, HM.out, HF2.out, rwf_on _ _ _ _ _ _ (by rw [HDY.out]; exact c1) (by rw [HDY.out]; exact c2), HDY.out]
            have c2I : (v : Int) * 2 + d ≤ 4294967295 := by omega
            go_wp2_with (go_at_call 8; refine (hexn_any _ _ (by omega)).mono ?_; rintro e w' ⟨rfl, hw'⟩; rw [HN.out]; subst hw')
            go_round
            case rel =>
              refine ⟨m + 1, v * 2 + d, by omega, by omega, by go_num, by go_num, by omega, ?_⟩
              have := HF2.out
              rw [Hid, HE.out, show s.size - (m + 1) = f by omega]
            case measure => simp [intOf]; omega
    · obtain rfl : m = s.size := by omega
      have HR : Hid (rwf s 2 4294967295 (s.size - 2) 2 0 = (v, 0, 0)) := by rw [Hid, HM.out, Nat.sub_self]; rfl
      by_cases hzz : s.size = 2
      · have hzI : (s.size : Int) = 2 := by omega
        have HE : Hid (rowV s 2 2 4294967295 = (0, 2, 40)) := by rw [Hid, rowV, if_pos hzz]
        go_wp2
        refine bodyPost_ret (results_tmp3 rfl _ _ _) rfl ?_
        exact ⟨by rw [HE.out]; rfl, rfl⟩
      · have hzb : ((s.size : Int) == 2) = false := by rw [beq_eq_false_iff_ne]; omega
        have HE : Hid (rowV s 2 2 4294967295 = (v, 0, 0)) := by rw [Hid, rowV, if_neg hzz, HR.out]
        go_wp2
        refine bodyPost_ret (results_tmp3 rfl _ _ _) rfl ?_
        refine ⟨?_, rfl⟩
        rw [HE.out]
        refine trip3 ?_ rfl rfl
        show _ = (v : Int)
        omega
set_option maxRecDepth 100000 in
set_option maxHeartbeats 4000000 in
theorem rword_m (s : ByteArray) (w : World) (hs : s.size ≤ 64) (hz : 1 ≤ s.size) (hb0 : bt s 0 = 45) :
    Calls Try.prog 5 #[.string s] w fun e w' => e = trip (neg3 (rowV s 1 10 2147483648)) ∧ w' = w := by
  have hsI : (s.size : Int) ≤ 64 := by have := hs; omega
  have h0 : 0 < s.size := by omega
  have h0I : (0 : Int) < (s.size : Int) := by omega
  rw [bt_eq s 0 h0] at hb0
  go_enter Try.func5, Try.ntmps5
  go_wp2
  go_loop [9, 10, 11] (fun x k _ => ∃ m v : Nat, 1 ≤ m ∧ m ≤ s.size ∧ k = .int .i64 m ∧ x = .int .u64 v ∧ v ≤ 2147483648 ∧ Hid (rwf s 10 2147483648 (s.size - 1) 1 0 = rwf s 10 2147483648 (s.size - m) m v)) (fun _ k _ => s.size - (intOf k).toNat)
  case atStart => exact ⟨1, 0, Nat.le_refl _, by omega, rfl, rfl, Nat.zero_le _, rfl⟩
  case round =>
    obtain ⟨m, v, him, hms, rfl, rfl, hv, HM⟩ := hrel
    by_cases hlt : m < s.size
    · have hltI : (m : Int) < (s.size : Int) := by omega
      have hye := bt_eq s m hlt
      have hyl := bt_lt s m
      obtain ⟨y, hy⟩ : ∃ y, y = bt s m := ⟨_, rfl⟩
      have HY : Hid (bt s m = y) := hy.symm
      rw [← hy] at hye hyl
      have hsy : (s[m]'hlt).toNat = y := hye.symm
      clear hye hy
      obtain ⟨d, hd⟩ : ∃ d, d = dg y := ⟨_, rfl⟩
      have HD : Hid (dg y = d) := hd.symm
      have hdl := dg_le y
      rw [← hd] at hdl
      clear hd
      have hne : ¬ s.size = 1 := by omega
      obtain ⟨f, hf⟩ : ∃ f, s.size - m = f + 1 := ⟨s.size - m - 1, by omega⟩
      have HF2 : Hid (s.size - m = f + 1) := hf
      clear hf
      have HDY : Hid (dg (bt s m) = d) := by rw [Hid, HY.out, HD.out]
      by_cases c0 : d = 16
      · have HN : Hid (hn y = -1) := by rw [Hid, hn, HD.out, if_pos c0]
        have HE : Hid (rowV s 1 10 2147483648 = (0, m, 40)) := by rw [Hid, rowV, if_neg hne, HM.out, HF2.out, rwf_big _ _ _ _ _ _ (by rw [HDY.out]; omega)]
        clear c0
        go_wp2_with (go_at_call 8; refine (hexn_any _ _ (by omega)).mono ?_; rintro e w' ⟨rfl, hw'⟩; rw [HN.out]; subst hw')
        refine bodyPost_ret (results_tmp3 rfl _ _ _) rfl ?_
        exact ⟨by rw [HE.out, neg3_0]; rfl, rfl⟩
      · have HN : Hid (hn y = d) := by rw [Hid, hn, HD.out, if_neg c0]
        have hd0 : (0 : Int) ≤ (d : Int) := by omega
        by_cases c1 : 10 ≤ d
        · have HE : Hid (rowV s 1 10 2147483648 = (0, m, 40)) := by rw [Hid, rowV, if_neg hne, HM.out, HF2.out, rwf_big _ _ _ _ _ _ (by rw [HDY.out]; exact c1)]
          have c1I : (10 : Int) ≤ (d : Int) := by omega
          go_wp2_with (go_at_call 8; refine (hexn_any _ _ (by omega)).mono ?_; rintro e w' ⟨rfl, hw'⟩; rw [HN.out]; subst hw')
          refine bodyPost_ret (results_tmp3 rfl _ _ _) rfl ?_
          exact ⟨by rw [HE.out, neg3_0]; rfl, rfl⟩
        · have c1I : (d : Int) < 10 := by omega
          by_cases c2 : 2147483648 < v * 10 + d
          · have HE : Hid (rowV s 1 10 2147483648 = (0, m, 41)) := by rw [Hid, rowV, if_neg hne, HM.out, HF2.out, rwf_over _ _ _ _ _ _ (by rw [HDY.out]; exact c1) (by rw [HDY.out]; exact c2)]
            have c2I : (2147483648 : Int) < (v : Int) * 10 + d := by omega
            go_wp2_with (go_at_call 8; refine (hexn_any _ _ (by omega)).mono ?_; rintro e w' ⟨rfl, hw'⟩; rw [HN.out]; subst hw')
            refine bodyPost_ret (results_tmp3 rfl _ _ _) rfl ?_
            exact ⟨by rw [HE.out, neg3_0]; rfl, rfl⟩
          · have HE : Hid (rwf s 10 2147483648 (s.size - 1) 1 0 = rwf s 10 2147483648 f (m + 1) (v * 10 + d)) := by rw [Hid, HM.out, HF2.out, rwf_on _ _ _ _ _ _ (by rw [HDY.out]; exact c1) (by rw [HDY.out]; exact c2), HDY.out]
            have c2I : (v : Int) * 10 + d ≤ 2147483648 := by omega
            go_wp2_with (go_at_call 8; refine (hexn_any _ _ (by omega)).mono ?_; rintro e w' ⟨rfl, hw'⟩; rw [HN.out]; subst hw')
            go_round
            case rel =>
              refine ⟨m + 1, v * 10 + d, by omega, by omega, by go_num, by go_num, by omega, ?_⟩
              have := HF2.out
              rw [Hid, HE.out, show s.size - (m + 1) = f by omega]
            case measure => simp [intOf]; omega
    · obtain rfl : m = s.size := by omega
      have HR : Hid (rwf s 10 2147483648 (s.size - 1) 1 0 = (v, 0, 0)) := by rw [Hid, HM.out, Nat.sub_self]; rfl
      by_cases hzz : s.size = 1
      · have hzI : (s.size : Int) = 1 := by omega
        have HE : Hid (rowV s 1 10 2147483648 = (0, 1, 40)) := by rw [Hid, rowV, if_pos hzz]
        go_wp2
        refine bodyPost_ret (results_tmp3 rfl _ _ _) rfl ?_
        exact ⟨by rw [HE.out, neg3_0]; rfl, rfl⟩
      · have hzb : ((s.size : Int) == 1) = false := by rw [beq_eq_false_iff_ne]; omega
        have HE : Hid (rowV s 1 10 2147483648 = (v, 0, 0)) := by rw [Hid, rowV, if_neg hzz, HR.out]
        go_wp2
        refine bodyPost_ret (results_tmp3 rfl _ _ _) rfl ?_
        refine ⟨?_, rfl⟩
        rw [HE.out]
        refine trip3 ?_ rfl rfl
        show _ = (((4294967296 - v) % 4294967296 : Nat) : Int)
        omega
set_option maxRecDepth 100000 in
set_option maxHeartbeats 4000000 in
theorem rword_e (s : ByteArray) (w : World) (hs : s.size ≤ 64) (hz : s.size = 0) :
    Calls Try.prog 5 #[.string s] w fun e w' => e = trip (rowV s 0 10 4294967295) ∧ w' = w := by
  have hsI : (s.size : Int) ≤ 64 := by have := hs; omega
  have hzI : (s.size : Int) = 0 := by omega
  go_enter Try.func5, Try.ntmps5
  go_wp2
  go_loop [9, 10, 11] (fun x k _ => ∃ m v : Nat, 0 ≤ m ∧ m ≤ s.size ∧ k = .int .i64 m ∧ x = .int .u64 v ∧ v ≤ 4294967295 ∧ Hid (rwf s 10 4294967295 (s.size - 0) 0 0 = rwf s 10 4294967295 (s.size - m) m v)) (fun _ k _ => s.size - (intOf k).toNat)
  case atStart => exact ⟨0, 0, Nat.le_refl _, by omega, rfl, rfl, Nat.zero_le _, rfl⟩
  case round =>
    obtain ⟨m, v, him, hms, rfl, rfl, hv, HM⟩ := hrel
    by_cases hlt : m < s.size
    · exact absurd hlt (by omega)
    · obtain rfl : m = s.size := by omega
      have HR : Hid (rwf s 10 4294967295 (s.size - 0) 0 0 = (v, 0, 0)) := by rw [Hid, HM.out, Nat.sub_self]; rfl
      have HE : Hid (rowV s 0 10 4294967295 = (0, 0, 40)) := by rw [Hid, rowV, if_pos hz]
      go_wp2
      refine bodyPost_ret (results_tmp3 rfl _ _ _) rfl ?_
      exact ⟨by rw [HE.out]; rfl, rfl⟩
set_option maxRecDepth 100000 in
set_option maxHeartbeats 4000000 in
theorem rword_f (s : ByteArray) (w : World) (hs : s.size ≤ 64) (hz : s.size = 1) (hb0 : bt s 0 ≠ 45) (hb1 : bt s 0 ≠ 48) :
    Calls Try.prog 5 #[.string s] w fun e w' => e = trip (rowV s 0 10 4294967295) ∧ w' = w := by
  have hsI : (s.size : Int) ≤ 64 := by have := hs; omega
  have h0 : 0 < s.size := by omega
  have h0I : (0 : Int) < (s.size : Int) := by omega
  rw [bt_eq s 0 h0] at hb0 hb1
  have hc0 : (((s[0]'h0).toNat : Int) == 45) = false := by rw [beq_eq_false_iff_ne]; omega
  have hc1 : (((s[0]'h0).toNat : Int) == 48) = false := by rw [beq_eq_false_iff_ne]; omega
  clear hb0 hb1
  have h1I : (s.size : Int) = 1 := by omega
  go_enter Try.func5, Try.ntmps5
  go_wp2
  go_loop [9, 10, 11] (fun x k _ => ∃ m v : Nat, 0 ≤ m ∧ m ≤ s.size ∧ k = .int .i64 m ∧ x = .int .u64 v ∧ v ≤ 4294967295 ∧ Hid (rwf s 10 4294967295 (s.size - 0) 0 0 = rwf s 10 4294967295 (s.size - m) m v)) (fun _ k _ => s.size - (intOf k).toNat)
  case atStart => exact ⟨0, 0, Nat.le_refl _, by omega, rfl, rfl, Nat.zero_le _, rfl⟩
  case round =>
    obtain ⟨m, v, him, hms, rfl, rfl, hv, HM⟩ := hrel
    by_cases hlt : m < s.size
    · have hltI : (m : Int) < (s.size : Int) := by omega
      have hye := bt_eq s m hlt
      have hyl := bt_lt s m
      obtain ⟨y, hy⟩ : ∃ y, y = bt s m := ⟨_, rfl⟩
      have HY : Hid (bt s m = y) := hy.symm
      rw [← hy] at hye hyl
      have hsy : (s[m]'hlt).toNat = y := hye.symm
      clear hye hy
      obtain ⟨d, hd⟩ : ∃ d, d = dg y := ⟨_, rfl⟩
      have HD : Hid (dg y = d) := hd.symm
      have hdl := dg_le y
      rw [← hd] at hdl
      clear hd
      have hne : ¬ s.size = 0 := by omega
      obtain ⟨f, hf⟩ : ∃ f, s.size - m = f + 1 := ⟨s.size - m - 1, by omega⟩
      have HF2 : Hid (s.size - m = f + 1) := hf
      clear hf
      have HDY : Hid (dg (bt s m) = d) := by rw [Hid, HY.out, HD.out]
      by_cases c0 : d = 16
      · have HN : Hid (hn y = -1) := by rw [Hid, hn, HD.out, if_pos c0]
        have HE : Hid (rowV s 0 10 4294967295 = (0, m, 40)) := by rw [Hid, rowV, if_neg hne, HM.out, HF2.out, rwf_big _ _ _ _ _ _ (by rw [HDY.out]; omega)]
        clear c0
        go_wp2_with (go_at_call 8; refine (hexn_any _ _ (by omega)).mono ?_; rintro e w' ⟨rfl, hw'⟩; rw [HN.out]; subst hw')
        refine bodyPost_ret (results_tmp3 rfl _ _ _) rfl ?_
        exact ⟨by rw [HE.out]; rfl, rfl⟩
      · have HN : Hid (hn y = d) := by rw [Hid, hn, HD.out, if_neg c0]
        have hd0 : (0 : Int) ≤ (d : Int) := by omega
        by_cases c1 : 10 ≤ d
        · have HE : Hid (rowV s 0 10 4294967295 = (0, m, 40)) := by rw [Hid, rowV, if_neg hne, HM.out, HF2.out, rwf_big _ _ _ _ _ _ (by rw [HDY.out]; exact c1)]
          have c1I : (10 : Int) ≤ (d : Int) := by omega
          go_wp2_with (go_at_call 8; refine (hexn_any _ _ (by omega)).mono ?_; rintro e w' ⟨rfl, hw'⟩; rw [HN.out]; subst hw')
          refine bodyPost_ret (results_tmp3 rfl _ _ _) rfl ?_
          exact ⟨by rw [HE.out]; rfl, rfl⟩
        · have c1I : (d : Int) < 10 := by omega
          by_cases c2 : 4294967295 < v * 10 + d
          · have HE : Hid (rowV s 0 10 4294967295 = (0, m, 41)) := by rw [Hid, rowV, if_neg hne, HM.out, HF2.out, rwf_over _ _ _ _ _ _ (by rw [HDY.out]; exact c1) (by rw [HDY.out]; exact c2)]
            have c2I : (4294967295 : Int) < (v : Int) * 10 + d := by omega
            go_wp2_with (go_at_call 8; refine (hexn_any _ _ (by omega)).mono ?_; rintro e w' ⟨rfl, hw'⟩; rw [HN.out]; subst hw')
            refine bodyPost_ret (results_tmp3 rfl _ _ _) rfl ?_
            exact ⟨by rw [HE.out]; rfl, rfl⟩
          · have HE : Hid (rwf s 10 4294967295 (s.size - 0) 0 0 = rwf s 10 4294967295 f (m + 1) (v * 10 + d)) := by rw [Hid, HM.out, HF2.out, rwf_on _ _ _ _ _ _ (by rw [HDY.out]; exact c1) (by rw [HDY.out]; exact c2), HDY.out]
            have c2I : (v : Int) * 10 + d ≤ 4294967295 := by omega
            go_wp2_with (go_at_call 8; refine (hexn_any _ _ (by omega)).mono ?_; rintro e w' ⟨rfl, hw'⟩; rw [HN.out]; subst hw')
            go_round
            case rel =>
              refine ⟨m + 1, v * 10 + d, by omega, by omega, by go_num, by go_num, by omega, ?_⟩
              have := HF2.out
              rw [Hid, HE.out, show s.size - (m + 1) = f by omega]
            case measure => simp [intOf]; omega
    · obtain rfl : m = s.size := by omega
      have HR : Hid (rwf s 10 4294967295 (s.size - 0) 0 0 = (v, 0, 0)) := by rw [Hid, HM.out, Nat.sub_self]; rfl
      have hzz : ¬ s.size = 0 := by omega
      · have hzb : ((s.size : Int) == 0) = false := by rw [beq_eq_false_iff_ne]; omega
        have HE : Hid (rowV s 0 10 4294967295 = (v, 0, 0)) := by rw [Hid, rowV, if_neg hzz, HR.out]
        go_wp2
        refine bodyPost_ret (results_tmp3 rfl _ _ _) rfl ?_
        refine ⟨?_, rfl⟩
        rw [HE.out]
        refine trip3 ?_ rfl rfl
        show _ = (v : Int)
        omega
set_option maxRecDepth 100000 in
set_option maxHeartbeats 4000000 in
theorem rword_k (s : ByteArray) (w : World) (hs : s.size ≤ 64) (hz : 2 ≤ s.size) (hb0 : bt s 0 ≠ 45) (hb1 : bt s 0 ≠ 48) :
    Calls Try.prog 5 #[.string s] w fun e w' => e = trip (rowV s 0 10 4294967295) ∧ w' = w := by
  have hsI : (s.size : Int) ≤ 64 := by have := hs; omega
  have h0 : 0 < s.size := by omega
  have h0I : (0 : Int) < (s.size : Int) := by omega
  rw [bt_eq s 0 h0] at hb0 hb1
  have hc0 : (((s[0]'h0).toNat : Int) == 45) = false := by rw [beq_eq_false_iff_ne]; omega
  have hc1 : (((s[0]'h0).toNat : Int) == 48) = false := by rw [beq_eq_false_iff_ne]; omega
  clear hb0 hb1
  have h1I : (1 : Int) < (s.size : Int) := by omega
  go_enter Try.func5, Try.ntmps5
  go_wp2
  go_loop [9, 10, 11] (fun x k _ => ∃ m v : Nat, 0 ≤ m ∧ m ≤ s.size ∧ k = .int .i64 m ∧ x = .int .u64 v ∧ v ≤ 4294967295 ∧ Hid (rwf s 10 4294967295 (s.size - 0) 0 0 = rwf s 10 4294967295 (s.size - m) m v)) (fun _ k _ => s.size - (intOf k).toNat)
  case atStart => exact ⟨0, 0, Nat.le_refl _, by omega, rfl, rfl, Nat.zero_le _, rfl⟩
  case round =>
    obtain ⟨m, v, him, hms, rfl, rfl, hv, HM⟩ := hrel
    by_cases hlt : m < s.size
    · have hltI : (m : Int) < (s.size : Int) := by omega
      have hye := bt_eq s m hlt
      have hyl := bt_lt s m
      obtain ⟨y, hy⟩ : ∃ y, y = bt s m := ⟨_, rfl⟩
      have HY : Hid (bt s m = y) := hy.symm
      rw [← hy] at hye hyl
      have hsy : (s[m]'hlt).toNat = y := hye.symm
      clear hye hy
      obtain ⟨d, hd⟩ : ∃ d, d = dg y := ⟨_, rfl⟩
      have HD : Hid (dg y = d) := hd.symm
      have hdl := dg_le y
      rw [← hd] at hdl
      clear hd
      have hne : ¬ s.size = 0 := by omega
      obtain ⟨f, hf⟩ : ∃ f, s.size - m = f + 1 := ⟨s.size - m - 1, by omega⟩
      have HF2 : Hid (s.size - m = f + 1) := hf
      clear hf
      have HDY : Hid (dg (bt s m) = d) := by rw [Hid, HY.out, HD.out]
      by_cases c0 : d = 16
      · have HN : Hid (hn y = -1) := by rw [Hid, hn, HD.out, if_pos c0]
        have HE : Hid (rowV s 0 10 4294967295 = (0, m, 40)) := by rw [Hid, rowV, if_neg hne, HM.out, HF2.out, rwf_big _ _ _ _ _ _ (by rw [HDY.out]; omega)]
        clear c0
        go_wp2_with (go_at_call 8; refine (hexn_any _ _ (by omega)).mono ?_; rintro e w' ⟨rfl, hw'⟩; rw [HN.out]; subst hw')
        refine bodyPost_ret (results_tmp3 rfl _ _ _) rfl ?_
        exact ⟨by rw [HE.out]; rfl, rfl⟩
      · have HN : Hid (hn y = d) := by rw [Hid, hn, HD.out, if_neg c0]
        have hd0 : (0 : Int) ≤ (d : Int) := by omega
        by_cases c1 : 10 ≤ d
        · have HE : Hid (rowV s 0 10 4294967295 = (0, m, 40)) := by rw [Hid, rowV, if_neg hne, HM.out, HF2.out, rwf_big _ _ _ _ _ _ (by rw [HDY.out]; exact c1)]
          have c1I : (10 : Int) ≤ (d : Int) := by omega
          go_wp2_with (go_at_call 8; refine (hexn_any _ _ (by omega)).mono ?_; rintro e w' ⟨rfl, hw'⟩; rw [HN.out]; subst hw')
          refine bodyPost_ret (results_tmp3 rfl _ _ _) rfl ?_
          exact ⟨by rw [HE.out]; rfl, rfl⟩
        · have c1I : (d : Int) < 10 := by omega
          by_cases c2 : 4294967295 < v * 10 + d
          · have HE : Hid (rowV s 0 10 4294967295 = (0, m, 41)) := by rw [Hid, rowV, if_neg hne, HM.out, HF2.out, rwf_over _ _ _ _ _ _ (by rw [HDY.out]; exact c1) (by rw [HDY.out]; exact c2)]
            have c2I : (4294967295 : Int) < (v : Int) * 10 + d := by omega
            go_wp2_with (go_at_call 8; refine (hexn_any _ _ (by omega)).mono ?_; rintro e w' ⟨rfl, hw'⟩; rw [HN.out]; subst hw')
            refine bodyPost_ret (results_tmp3 rfl _ _ _) rfl ?_
            exact ⟨by rw [HE.out]; rfl, rfl⟩
          · have HE : Hid (rwf s 10 4294967295 (s.size - 0) 0 0 = rwf s 10 4294967295 f (m + 1) (v * 10 + d)) := by rw [Hid, HM.out, HF2.out, rwf_on _ _ _ _ _ _ (by rw [HDY.out]; exact c1) (by rw [HDY.out]; exact c2), HDY.out]
            have c2I : (v : Int) * 10 + d ≤ 4294967295 := by omega
            go_wp2_with (go_at_call 8; refine (hexn_any _ _ (by omega)).mono ?_; rintro e w' ⟨rfl, hw'⟩; rw [HN.out]; subst hw')
            go_round
            case rel =>
              refine ⟨m + 1, v * 10 + d, by omega, by omega, by go_num, by go_num, by omega, ?_⟩
              have := HF2.out
              rw [Hid, HE.out, show s.size - (m + 1) = f by omega]
            case measure => simp [intOf]; omega
    · obtain rfl : m = s.size := by omega
      have HR : Hid (rwf s 10 4294967295 (s.size - 0) 0 0 = (v, 0, 0)) := by rw [Hid, HM.out, Nat.sub_self]; rfl
      have hzz : ¬ s.size = 0 := by omega
      · have hzb : ((s.size : Int) == 0) = false := by rw [beq_eq_false_iff_ne]; omega
        have HE : Hid (rowV s 0 10 4294967295 = (v, 0, 0)) := by rw [Hid, rowV, if_neg hzz, HR.out]
        go_wp2
        refine bodyPost_ret (results_tmp3 rfl _ _ _) rfl ?_
        refine ⟨?_, rfl⟩
        rw [HE.out]
        refine trip3 ?_ rfl rfl
        show _ = (v : Int)
        omega
set_option maxRecDepth 100000 in
set_option maxHeartbeats 4000000 in
theorem rword_g (s : ByteArray) (w : World) (hs : s.size ≤ 64) (hz : s.size = 1) (hb0 : bt s 0 = 48) :
    Calls Try.prog 5 #[.string s] w fun e w' => e = trip (rowV s 0 10 4294967295) ∧ w' = w := by
  have hsI : (s.size : Int) ≤ 64 := by have := hs; omega
  have h0 : 0 < s.size := by omega
  have h0I : (0 : Int) < (s.size : Int) := by omega
  rw [bt_eq s 0 h0] at hb0
  have h1I : (s.size : Int) = 1 := by omega
  go_enter Try.func5, Try.ntmps5
  go_wp2
  go_loop [9, 10, 11] (fun x k _ => ∃ m v : Nat, 0 ≤ m ∧ m ≤ s.size ∧ k = .int .i64 m ∧ x = .int .u64 v ∧ v ≤ 4294967295 ∧ Hid (rwf s 10 4294967295 (s.size - 0) 0 0 = rwf s 10 4294967295 (s.size - m) m v)) (fun _ k _ => s.size - (intOf k).toNat)
  case atStart => exact ⟨0, 0, Nat.le_refl _, by omega, rfl, rfl, Nat.zero_le _, rfl⟩
  case round =>
    obtain ⟨m, v, him, hms, rfl, rfl, hv, HM⟩ := hrel
    by_cases hlt : m < s.size
    · have hltI : (m : Int) < (s.size : Int) := by omega
      have hye := bt_eq s m hlt
      have hyl := bt_lt s m
      obtain ⟨y, hy⟩ : ∃ y, y = bt s m := ⟨_, rfl⟩
      have HY : Hid (bt s m = y) := hy.symm
      rw [← hy] at hye hyl
      have hsy : (s[m]'hlt).toNat = y := hye.symm
      clear hye hy
      obtain ⟨d, hd⟩ : ∃ d, d = dg y := ⟨_, rfl⟩
      have HD : Hid (dg y = d) := hd.symm
      have hdl := dg_le y
      rw [← hd] at hdl
      clear hd
      have hne : ¬ s.size = 0 := by omega
      obtain ⟨f, hf⟩ : ∃ f, s.size - m = f + 1 := ⟨s.size - m - 1, by omega⟩
      have HF2 : Hid (s.size - m = f + 1) := hf
      clear hf
      have HDY : Hid (dg (bt s m) = d) := by rw [Hid, HY.out, HD.out]
      by_cases c0 : d = 16
      · have HN : Hid (hn y = -1) := by rw [Hid, hn, HD.out, if_pos c0]
        have HE : Hid (rowV s 0 10 4294967295 = (0, m, 40)) := by rw [Hid, rowV, if_neg hne, HM.out, HF2.out, rwf_big _ _ _ _ _ _ (by rw [HDY.out]; omega)]
        clear c0
        go_wp2_with (go_at_call 8; refine (hexn_any _ _ (by omega)).mono ?_; rintro e w' ⟨rfl, hw'⟩; rw [HN.out]; subst hw')
        refine bodyPost_ret (results_tmp3 rfl _ _ _) rfl ?_
        exact ⟨by rw [HE.out]; rfl, rfl⟩
      · have HN : Hid (hn y = d) := by rw [Hid, hn, HD.out, if_neg c0]
        have hd0 : (0 : Int) ≤ (d : Int) := by omega
        by_cases c1 : 10 ≤ d
        · have HE : Hid (rowV s 0 10 4294967295 = (0, m, 40)) := by rw [Hid, rowV, if_neg hne, HM.out, HF2.out, rwf_big _ _ _ _ _ _ (by rw [HDY.out]; exact c1)]
          have c1I : (10 : Int) ≤ (d : Int) := by omega
          go_wp2_with (go_at_call 8; refine (hexn_any _ _ (by omega)).mono ?_; rintro e w' ⟨rfl, hw'⟩; rw [HN.out]; subst hw')
          refine bodyPost_ret (results_tmp3 rfl _ _ _) rfl ?_
          exact ⟨by rw [HE.out]; rfl, rfl⟩
        · have c1I : (d : Int) < 10 := by omega
          by_cases c2 : 4294967295 < v * 10 + d
          · have HE : Hid (rowV s 0 10 4294967295 = (0, m, 41)) := by rw [Hid, rowV, if_neg hne, HM.out, HF2.out, rwf_over _ _ _ _ _ _ (by rw [HDY.out]; exact c1) (by rw [HDY.out]; exact c2)]
            have c2I : (4294967295 : Int) < (v : Int) * 10 + d := by omega
            go_wp2_with (go_at_call 8; refine (hexn_any _ _ (by omega)).mono ?_; rintro e w' ⟨rfl, hw'⟩; rw [HN.out]; subst hw')
            refine bodyPost_ret (results_tmp3 rfl _ _ _) rfl ?_
            exact ⟨by rw [HE.out]; rfl, rfl⟩
          · have HE : Hid (rwf s 10 4294967295 (s.size - 0) 0 0 = rwf s 10 4294967295 f (m + 1) (v * 10 + d)) := by rw [Hid, HM.out, HF2.out, rwf_on _ _ _ _ _ _ (by rw [HDY.out]; exact c1) (by rw [HDY.out]; exact c2), HDY.out]
            have c2I : (v : Int) * 10 + d ≤ 4294967295 := by omega
            go_wp2_with (go_at_call 8; refine (hexn_any _ _ (by omega)).mono ?_; rintro e w' ⟨rfl, hw'⟩; rw [HN.out]; subst hw')
            go_round
            case rel =>
              refine ⟨m + 1, v * 10 + d, by omega, by omega, by go_num, by go_num, by omega, ?_⟩
              have := HF2.out
              rw [Hid, HE.out, show s.size - (m + 1) = f by omega]
            case measure => simp [intOf]; omega
    · obtain rfl : m = s.size := by omega
      have HR : Hid (rwf s 10 4294967295 (s.size - 0) 0 0 = (v, 0, 0)) := by rw [Hid, HM.out, Nat.sub_self]; rfl
      have hzz : ¬ s.size = 0 := by omega
      · have hzb : ((s.size : Int) == 0) = false := by rw [beq_eq_false_iff_ne]; omega
        have HE : Hid (rowV s 0 10 4294967295 = (v, 0, 0)) := by rw [Hid, rowV, if_neg hzz, HR.out]
        go_wp2
        refine bodyPost_ret (results_tmp3 rfl _ _ _) rfl ?_
        refine ⟨?_, rfl⟩
        rw [HE.out]
        refine trip3 ?_ rfl rfl
        show _ = (v : Int)
        omega
set_option maxRecDepth 100000 in
set_option maxHeartbeats 4000000 in
theorem rword_h (s : ByteArray) (w : World) (hs : s.size ≤ 64) (hz : 2 ≤ s.size) (hb0 : bt s 0 = 48) (hb1 : bt s 1 ≠ 120) (hb2 : bt s 1 ≠ 98) :
    Calls Try.prog 5 #[.string s] w fun e w' => e = trip (rowV s 0 10 4294967295) ∧ w' = w := by
  have hsI : (s.size : Int) ≤ 64 := by have := hs; omega
  have h0 : 0 < s.size := by omega
  have h0I : (0 : Int) < (s.size : Int) := by omega
  rw [bt_eq s 0 h0] at hb0
  have h1 : 1 < s.size := by omega
  have h1I : (1 : Int) < (s.size : Int) := by omega
  rw [bt_eq s 1 h1] at hb1 hb2
  have hc0 : (((s[1]'h1).toNat : Int) == 120) = false := by rw [beq_eq_false_iff_ne]; omega
  have hc1 : (((s[1]'h1).toNat : Int) == 98) = false := by rw [beq_eq_false_iff_ne]; omega
  clear hb1 hb2
  go_enter Try.func5, Try.ntmps5
  go_wp2
  go_loop [9, 10, 11] (fun x k _ => ∃ m v : Nat, 0 ≤ m ∧ m ≤ s.size ∧ k = .int .i64 m ∧ x = .int .u64 v ∧ v ≤ 4294967295 ∧ Hid (rwf s 10 4294967295 (s.size - 0) 0 0 = rwf s 10 4294967295 (s.size - m) m v)) (fun _ k _ => s.size - (intOf k).toNat)
  case atStart => exact ⟨0, 0, Nat.le_refl _, by omega, rfl, rfl, Nat.zero_le _, rfl⟩
  case round =>
    obtain ⟨m, v, him, hms, rfl, rfl, hv, HM⟩ := hrel
    by_cases hlt : m < s.size
    · have hltI : (m : Int) < (s.size : Int) := by omega
      have hye := bt_eq s m hlt
      have hyl := bt_lt s m
      obtain ⟨y, hy⟩ : ∃ y, y = bt s m := ⟨_, rfl⟩
      have HY : Hid (bt s m = y) := hy.symm
      rw [← hy] at hye hyl
      have hsy : (s[m]'hlt).toNat = y := hye.symm
      clear hye hy
      obtain ⟨d, hd⟩ : ∃ d, d = dg y := ⟨_, rfl⟩
      have HD : Hid (dg y = d) := hd.symm
      have hdl := dg_le y
      rw [← hd] at hdl
      clear hd
      have hne : ¬ s.size = 0 := by omega
      obtain ⟨f, hf⟩ : ∃ f, s.size - m = f + 1 := ⟨s.size - m - 1, by omega⟩
      have HF2 : Hid (s.size - m = f + 1) := hf
      clear hf
      have HDY : Hid (dg (bt s m) = d) := by rw [Hid, HY.out, HD.out]
      by_cases c0 : d = 16
      · have HN : Hid (hn y = -1) := by rw [Hid, hn, HD.out, if_pos c0]
        have HE : Hid (rowV s 0 10 4294967295 = (0, m, 40)) := by rw [Hid, rowV, if_neg hne, HM.out, HF2.out, rwf_big _ _ _ _ _ _ (by rw [HDY.out]; omega)]
        clear c0
        go_wp2_with (go_at_call 8; refine (hexn_any _ _ (by omega)).mono ?_; rintro e w' ⟨rfl, hw'⟩; rw [HN.out]; subst hw')
        refine bodyPost_ret (results_tmp3 rfl _ _ _) rfl ?_
        exact ⟨by rw [HE.out]; rfl, rfl⟩
      · have HN : Hid (hn y = d) := by rw [Hid, hn, HD.out, if_neg c0]
        have hd0 : (0 : Int) ≤ (d : Int) := by omega
        by_cases c1 : 10 ≤ d
        · have HE : Hid (rowV s 0 10 4294967295 = (0, m, 40)) := by rw [Hid, rowV, if_neg hne, HM.out, HF2.out, rwf_big _ _ _ _ _ _ (by rw [HDY.out]; exact c1)]
          have c1I : (10 : Int) ≤ (d : Int) := by omega
          go_wp2_with (go_at_call 8; refine (hexn_any _ _ (by omega)).mono ?_; rintro e w' ⟨rfl, hw'⟩; rw [HN.out]; subst hw')
          refine bodyPost_ret (results_tmp3 rfl _ _ _) rfl ?_
          exact ⟨by rw [HE.out]; rfl, rfl⟩
        · have c1I : (d : Int) < 10 := by omega
          by_cases c2 : 4294967295 < v * 10 + d
          · have HE : Hid (rowV s 0 10 4294967295 = (0, m, 41)) := by rw [Hid, rowV, if_neg hne, HM.out, HF2.out, rwf_over _ _ _ _ _ _ (by rw [HDY.out]; exact c1) (by rw [HDY.out]; exact c2)]
            have c2I : (4294967295 : Int) < (v : Int) * 10 + d := by omega
            go_wp2_with (go_at_call 8; refine (hexn_any _ _ (by omega)).mono ?_; rintro e w' ⟨rfl, hw'⟩; rw [HN.out]; subst hw')
            refine bodyPost_ret (results_tmp3 rfl _ _ _) rfl ?_
            exact ⟨by rw [HE.out]; rfl, rfl⟩
          · have HE : Hid (rwf s 10 4294967295 (s.size - 0) 0 0 = rwf s 10 4294967295 f (m + 1) (v * 10 + d)) := by rw [Hid, HM.out, HF2.out, rwf_on _ _ _ _ _ _ (by rw [HDY.out]; exact c1) (by rw [HDY.out]; exact c2), HDY.out]
            have c2I : (v : Int) * 10 + d ≤ 4294967295 := by omega
            go_wp2_with (go_at_call 8; refine (hexn_any _ _ (by omega)).mono ?_; rintro e w' ⟨rfl, hw'⟩; rw [HN.out]; subst hw')
            go_round
            case rel =>
              refine ⟨m + 1, v * 10 + d, by omega, by omega, by go_num, by go_num, by omega, ?_⟩
              have := HF2.out
              rw [Hid, HE.out, show s.size - (m + 1) = f by omega]
            case measure => simp [intOf]; omega
    · obtain rfl : m = s.size := by omega
      have HR : Hid (rwf s 10 4294967295 (s.size - 0) 0 0 = (v, 0, 0)) := by rw [Hid, HM.out, Nat.sub_self]; rfl
      have hzz : ¬ s.size = 0 := by omega
      · have hzb : ((s.size : Int) == 0) = false := by rw [beq_eq_false_iff_ne]; omega
        have HE : Hid (rowV s 0 10 4294967295 = (v, 0, 0)) := by rw [Hid, rowV, if_neg hzz, HR.out]
        go_wp2
        refine bodyPost_ret (results_tmp3 rfl _ _ _) rfl ?_
        refine ⟨?_, rfl⟩
        rw [HE.out]
        refine trip3 ?_ rfl rfl
        show _ = (v : Int)
        omega
end Go.Proofs.Ytgoekampndcinaa
