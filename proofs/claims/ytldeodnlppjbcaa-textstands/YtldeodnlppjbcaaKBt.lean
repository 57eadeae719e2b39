import Derived.Test.YtldeodnlppjbcaaKSt
namespace Go.Proofs.Ytldeodnlppjbcaa
open Go.RowKit
set_option maxRecDepth 100000

theorem BC.step {s : ByteArray} {i k : Nat} (h : BC s i k) (hi : i < k) (hn : bt s i ≠ 35) : blk s i ∧ BC s (i + 1) k := by
  obtain ⟨p, h1, h2, h3, h4⟩ := h
  have hp : i < p := by
    rcases Nat.lt_or_ge i p with h | h
    · exact h
    · obtain rfl : p = i := by omega
      rcases h4 with h4 | h4
      · omega
      · exact absurd h4.1 hn
  exact ⟨h3 i (Nat.le_refl _) hp, p, hp, h2, fun j hj1 hj2 => h3 j (by omega) hj2, h4⟩
theorem BC.com {s : ByteArray} {i k : Nat} (h : BC s i k) (hi : i < k) (hn : bt s i = 35) : ∀ j, i ≤ j → j < k → bt s j ≠ 10 := by
  obtain ⟨p, h1, h2, h3, h4⟩ := h
  have hp : p = i := by
    rcases Nat.lt_or_ge i p with h | h
    · have := h3 i (Nat.le_refl _) h
      unfold blk at this; omega
    · omega
  subst hp
  rcases h4 with h4 | h4
  · omega
  · exact h4.2
theorem BC.self (s : ByteArray) (k : Nat) : BC s k k := ⟨k, Nat.le_refl _, Nat.le_refl _, fun j h1 h2 => by omega, .inl rfl⟩
set_option maxHeartbeats 2000000 in
theorem between_any (s : ByteArray) (i k : Nat) (w : World) (hik : i ≤ k) (hk : k ≤ s.size) (hz : s.size ≤ 9223372036854775807) (hB : BC s i k) :
    Calls Try.prog 12 #[.string s, .int .i64 i, .int .i64 k] w fun e w' => e = .returned (.bool true) ∧ w' = w := by
  have HB : Hid (BC s i k) := hB
  clear hB
  go_enter Try.func12, Try.ntmps12
  go_wp2_with fail
  go_loopg [1] (k - i) (fun gh x wr => ∃ j : Nat, gh = k - j ∧ j ≤ k ∧ x = .int .i64 j ∧ wr = w ∧ Hid (BC s j k))
  case atStart => exact ⟨i, rfl, hik, rfl, rfl, HB⟩
  case round =>
    clear HB
    obtain ⟨j, hgj, hj, rfl, rfl, HJ⟩ := hrel
    by_cases hlt : j < k
    · have hltI : (j : Int) < (k : Int) := by omega
      have hjs : j < s.size := by omega
      have hjsI : (j : Int) < (s.size : Int) := by omega
      have hy := bt_get s j hjs
      by_cases h35 : bt s j = 35
      · have HC : Hid (∀ m, j ≤ m → m < k → bt s m ≠ 10) := HJ.out.com hlt h35
        rw [h35] at hy
        clear HJ h35
        generalize gk = g0 at *
        go_wp2_with fail
        go_loopg [1] (k - j) (fun gh x wi => ∃ m : Nat, gh = k - m ∧ j ≤ m ∧ m ≤ k ∧ x = .int .i64 m ∧ wi = wr)
        case atStart => exact ⟨j, rfl, Nat.le_refl _, by omega, rfl, rfl⟩
        case round =>
          obtain ⟨m, hgm, hjm, hmk, rfl, rfl⟩ := hrel
          by_cases hmlt : m < k
          · have hmI : (m : Int) < (k : Int) := by omega
            have hms : m < s.size := by omega
            have hmsI : (m : Int) < (s.size : Int) := by omega
            have hym := bt_get s m hms
            have hne := HC.out m hjm hmlt
            have hneI : ¬ ((bt s m : Nat) : Int) = 10 := by omega
            generalize bt s m = y at *
            go_wp2_with fail
            go_roundg (k - (m + 1))
            case measure => omega
            case rel => exact ⟨m + 1, rfl, by omega, by omega, by go_num, rfl⟩
          · obtain rfl : m = k := by omega
            go_wp2_with fail
            go_roundg 0
            case measure => omega
            case rel => exact ⟨m, by omega, Nat.le_refl _, rfl, rfl, BC.self s m⟩
      · obtain ⟨hbk, hbn⟩ := HJ.out.step hlt h35
        have HN := hidK hbn
        have h35I : ¬ ((bt s j : Nat) : Int) = 35 := by omega
        unfold blk at hbk
        generalize bt s j = y at *
        clear HJ hbn h35
        rcases hbk with rfl | rfl | rfl
        · go_wp2_with fail
          go_roundg (k - (j + 1))
          case measure => omega
          case rel => exact ⟨j + 1, rfl, by omega, by go_num, rfl, HN⟩
        · go_wp2_with fail
          go_roundg (k - (j + 1))
          case measure => omega
          case rel => exact ⟨j + 1, rfl, by omega, by go_num, rfl, HN⟩
        · go_wp2_with fail
          go_roundg (k - (j + 1))
          case measure => omega
          case rel => exact ⟨j + 1, rfl, by omega, by go_num, rfl, HN⟩
    · have hltI : ¬ (j : Int) < (k : Int) := by omega
      go_wp2_with fail
      go_ret
      exact ⟨rfl, rfl⟩
end Go.Proofs.Ytldeodnlppjbcaa
