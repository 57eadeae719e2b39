import Derived.Test.YtldeodnlppjbcaaKLit
namespace Go.Proofs.Ytldeodnlppjbcaa
open Go.RowKit
set_option maxRecDepth 100000

theorem hidK {p : Prop} (h : p) : Hid p := h
theorem bt_get (s : ByteArray) (i : Nat) (h : i < s.size) : (s[i]'h).toNat = bt s i := (bt_eq s i h).symm
set_option maxHeartbeats 1000000 in
theorem litEnd_any (s : ByteArray) (a : Nat) (w : World) (ha : a < s.size) (hs : s.size ≤ 140737488355328) :
    Calls Try.prog 42 #[.string s, .int .i64 a] w fun e w' => e = .returned (.int .i64 (litEnd s a)) ∧ w' = w := by
  obtain ⟨m, hm⟩ : ∃ m, m = bt s a := ⟨_, rfl⟩
  obtain ⟨R, hR⟩ : ∃ R, litEnd s a = R := ⟨_, rfl⟩
  rw [hR]
  have HR : Hid (litF s m a s.size (a + 1) = R) := by rw [Hid, hm]; exact hR
  have haI : (a : Int) < (s.size : Int) := by omega
  have hma : (s[a]'ha).toNat = m := (bt_get s a ha).trans hm.symm
  clear hR hm
  go_enter Try.func42, Try.ntmps42
  go_wp2
  go_loopw [6] (fun i wr => ∃ k f : Nat, k ≤ s.size + 1 ∧ i = .int .i64 k ∧ wr = w ∧ s.size - k ≤ f ∧ Hid (litF s m a f k = R)) (fun i _ => s.size + 1 - (intOf i).toNat)
  case atStart => exact ⟨a + 1, s.size, by omega, by simp, rfl, by omega, HR⟩
  case round =>
    clear HR
    obtain ⟨k, f, hk, rfl, rfl, hf, HK⟩ := hrel
    by_cases hlt : k < s.size
    · have hltI : (k : Int) < (s.size : Int) := by omega
      obtain ⟨g, hg, hst⟩ := litF_step s m a f k hlt hf
      rw [Hid, hst] at HK
      have hy := bt_get s k hlt
      generalize bt s k = y at *
      clear hst
      by_cases c1 : y = m
      · subst c1
        rw [if_pos rfl] at HK
        have HK2 := hidK HK
        clear HK
        go_wp2
        go_ret
        exact ⟨ret_int (by rw [← HK2.out]; simp), rfl⟩
      · have c1I : ¬ (y : Int) = (m : Int) := by omega
        rw [if_neg c1] at HK
        by_cases c2 : y = 10
        · subst c2
          rw [if_pos rfl] at HK
          have HK2 := hidK HK
          clear HK
          go_wp2
          go_ret
          exact ⟨ret_int (by rw [← HK2.out]), rfl⟩
        · have c2I : ¬ (y : Int) = 10 := by omega
          rw [if_neg c2] at HK
          by_cases c3 : y = 92
          · subst c3
            rw [if_pos rfl] at HK
            have HK2 := hidK HK
            clear HK
            go_wp2
            go_roundw
            case rel => exact ⟨k + 2, g, by omega, by go_num, trivial, by omega, HK2⟩
            case measure => simp [intOf]; omega
          · have c3I : ¬ (y : Int) = 92 := by omega
            rw [if_neg c3] at HK
            have HK2 := hidK HK
            clear HK
            go_wp2
            go_roundw
            case rel => exact ⟨k + 1, g, by omega, by go_num, trivial, hg, HK2⟩
            case measure => simp [intOf]; omega
    · have hltI : ¬ (k : Int) < (s.size : Int) := by omega
      rw [Hid, litF_stop s m a f k hlt] at HK
      have HK2 := hidK HK
      clear HK
      go_wp2
      go_ret
      exact ⟨ret_int (by rw [← HK2.out]), rfl⟩
end Go.Proofs.Ytldeodnlppjbcaa
