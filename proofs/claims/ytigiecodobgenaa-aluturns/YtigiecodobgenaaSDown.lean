import Derived.Test.YtigiecodobgenaaSBit
namespace Go.Proofs.Ytigiecodobgenaa
open Go.RowKit

theorem mod_step (V i j : Nat) : V / 2 ^ i % 2 ^ (j + 1) = V / 2 ^ i % 2 ^ j + 2 ^ j * (V / 2 ^ (i + j) % 2) := by
  have h : V / 2 ^ (i + j) = V / 2 ^ i / 2 ^ j := by rw [Nat.pow_add, Nat.div_div_eq_div_mul]
  rw [h, Nat.pow_succ, Nat.mod_mul]
theorem mod_word (V k : Nat) : V % 4294967296 ^ (k + 1) = V % 4294967296 ^ k + 4294967296 ^ k * (V / 4294967296 ^ k % 4294967296) := by
  rw [Nat.pow_succ, Nat.mod_mul]
theorem div_word (V n k : Nat) : V / 2 ^ (n + 32 * k) % 2 ^ 32 = V / 2 ^ n / 4294967296 ^ k % 4294967296 := by
  rw [Nat.pow_add, Nat.pow_mul, ← Nat.div_div_eq_div_mul]
theorem nv_one (x : Nat) : nv [x] = x := by simp [nv]
theorem or_bit (a j : Nat) (ha : a < 2 ^ j) (hj : j < 32) : bits .or .u32 (a : Int) ((2 ^ j : Nat) : Int) = ((a + 2 ^ j : Nat) : Int) := by
  have h1 : 2 ^ j ≤ 2147483648 := Nat.pow_le_pow_right (by decide) (show j ≤ 31 by omega)
  have := u32_or_nat (2 ^ j) a (by omega) (by omega)
  rw [nat_join j (2 ^ j) a (Nat.mod_self _) ha] at this
  have e := u32_or_nat a (2 ^ j) (by omega) (by omega)
  rw [Nat.or_comm, nat_join j (2 ^ j) a (Nat.mod_self _) ha, Nat.add_comm] at e
  exact e

set_option maxRecDepth 100000 in
set_option maxHeartbeats 4000000 in
theorem down_any (ao : Option Addr) (cap : Nat) (zs : List Nat) (n : Nat) (w : World) (hl : zs.length ≤ 1000) (hn : n ≤ 100000) (hr : ReadsU w ao zs w.heap.size) (hW : Words zs) :
    Calls Try.prog 36 #[.slice ao zs.length cap, .int .i64 n] w fun e w' => (∃ v, e = .returned v ∧ NatV w' v (nv zs / 2 ^ n)) ∧ Below w.heap.size w w' := by
  obtain ⟨i0, hi, hz0, hz1, hz2⟩ := info_parts Try.infoU
  go_enter Try.func36, Try.ntmps36
  go_wp2
  go_loopw [5, 6, 7, 8] (fun v i _ _ wr => ∃ k : Nat, ∃ L : List Nat, (k = 0 ∨ n + 32 * k < 32 * zs.length + 32) ∧ i = .int .i64 ((n + 32 * k : Nat) : Int) ∧ L.length = k ∧ Words L ∧ nv L = nv zs / 2 ^ n % 4294967296 ^ k ∧ wr.ownsRow w.heap.size 22 1 v k (uk L) ∧ Below w.heap.size w wr)
    (fun _ i _ _ _ => 32 * zs.length - (intOf i).toNat)
  case atStart => exact ⟨0, [], Or.inl rfl, by simp, rfl, (fun z hz => by simp at hz), by simp [nv, Nat.mod_one], World.ownsRow_nil _ _ _ _, Below.refl _ _⟩
  case round =>
    obtain ⟨k, L, hk, rfl, hLl, hLW, hval, hown, hb⟩ := hrel
    have hB := hb.size
    obtain ⟨I, hI⟩ : ∃ I, I = n + 32 * k := ⟨_, rfl⟩
    rw [← hI] at hk ⊢
    by_cases hlt : I < 32 * zs.length
    · have hltI : (I : Int) < 32 * (zs.length : Int) := by omega
      have hIb : I ≤ 32000 := by omega
      have HI : Hid (I = n + 32 * k) := hI
      have HK : Hid (nv L = nv zs / 2 ^ n % 4294967296 ^ k ∧ L.length = k ∧ Words L) := ⟨hval, hLl, hLW⟩
      clear hI hval hLl hLW hk
      rename World => wr
      go_wp2
      go_loop [7, 8] (fun x j => ∃ m : Nat, m ≤ 32 ∧ j = .int .i64 m ∧ x = .int .u32 ((nv zs / 2 ^ I % 2 ^ m : Nat) : Int)) (fun _ j => 32 - (intOf j).toNat)
      case atStart => exact ⟨0, by omega, rfl, by simp [Nat.mod_one]⟩
      case round =>
        obtain ⟨m, hm, rfl, rfl⟩ := hrel
        by_cases hml : m < 32
        · have hmI : (m : Int) < 32 := by omega
          have ht := bit_any ao cap zs (I + m) wr hl (by omega) ((hr.below hb).mono hB) hW
          have HS : Hid (nv zs / 2 ^ I % 2 ^ (m + 1) = nv zs / 2 ^ I % 2 ^ m + 2 ^ m * (nv zs / 2 ^ (I + m) % 2)) := mod_step _ _ _
          have hx := Nat.mod_lt (nv zs / 2 ^ I) (Nat.two_pow_pos m)
          have hor := or_bit (nv zs / 2 ^ I % 2 ^ m) m hx hml
          have hp32 : 2 ^ m ≤ 2147483648 := Nat.pow_le_pow_right (by decide) (show m ≤ 31 by omega)
          have hpI : ((2 : Int) ^ m) = ((2 ^ m : Nat) : Int) := by simp
          have hpw : IntKind.u32.wrap ((2 ^ m : Nat) : Int) = ((2 ^ m : Nat) : Int) := by rw [IntKind.wrap_u32']; omega
          have hb2 := Nat.mod_lt (nv zs / 2 ^ (I + m)) (show 0 < 2 by decide)
          generalize nv zs / 2 ^ (I + m) % 2 = bb at *
          generalize nv zs / 2 ^ I % 2 ^ m = xx at *
          have hcases : bb = 0 ∨ bb = 1 := by omega
          rcases hcases with rfl | rfl
          · have ht' : Calls Try.prog 52 #[.slice ao zs.length cap, .int .i64 ((I + m : Nat) : Int)] wr fun e w' => e = .returned (.bool false) ∧ w' = wr := ht
            rw [Int.natCast_add] at ht'
            clear ht hor hpI hpw
            go_wp2_with (go_at_call 52; refine ht'.mono ?_; rintro e wq ⟨rfl, hq⟩; subst wq)
            go_round
            case rel => exact ⟨m + 1, by omega, by go_num, by rw [HS.out]; simp⟩
            case measure => simp [intOf]; omega
          · have ht' : Calls Try.prog 52 #[.slice ao zs.length cap, .int .i64 ((I + m : Nat) : Int)] wr fun e w' => e = .returned (.bool true) ∧ w' = wr := ht
            rw [Int.natCast_add] at ht'
            clear ht
            generalize 2 ^ m = pm at *
            go_wp2_with (go_at_call 52; refine ht'.mono ?_; rintro e wq ⟨rfl, hq⟩; subst wq)
            go_round
            case rel => exact ⟨m + 1, by omega, by go_num, by rw [HS.out]; simp⟩
            case measure => simp [intOf]; omega
        · obtain rfl : m = 32 := by omega
          obtain ⟨hval, hLl, hLW⟩ := HK.out
          have hx := Nat.mod_lt (nv zs / 2 ^ I) (Nat.two_pow_pos 32)
          have HV : Hid (nv (L ++ [nv zs / 2 ^ I % 2 ^ 32]) = nv zs / 2 ^ n % 4294967296 ^ (k + 1)) := by
            rw [Hid, nv_append, hLl, hval, nv_one, HI.out, mod_word, div_word]
          generalize nv zs / 2 ^ I % 2 ^ 32 = LC at *
          have hLC : LC < 4294967296 := hx
          have HLW : Hid (Words (L ++ [LC])) := by
            intro y hy
            rcases List.mem_append.1 hy with h | h
            · exact hLW y h
            · simp at h; omega
          have HLL : Hid ((L ++ [LC]).length = k + 1) := by rw [Hid]; simp [hLl]
          have hkb : k ≤ 1000 := by have := HI.out; omega
          clear hval hLl hLW hx HK
          go_wp2_with (at_builtin; refine wpList_append_own _ rfl _ _ 61 rfl w.heap.size 22 i0 (.int .u32 0) 1 4 Try.underlying61 hi hz0 hz1 hz2 rfl (by decide) _ _ _ rfl (hown.alloc _) ⟨_, 0, none⟩ 1 1 [.int .u32 (LC : Int)] rfl rfl ?c1 ?c2 ?c3 ?c4 ?c5 ?_)
          case c2 => rfl
          case c3 => unfold maxLen; omega
          case c4 => omega
          case c5 => omega
          intro v' w1 hown' hgrow _
          have R1 : w1.ownsRow w.heap.size 22 1 v' (k + 1) (uk (L ++ [LC])) := own_snocU hown'
          have R2 := grown_belowU hb hB hown hgrow
          clear hown' hgrow hown
          go_wp2
          go_roundw
          case rel => exact ⟨k + 1, L ++ [LC], Or.inr (by have := HI.out; omega), by rw [HI.out]; go_num, HLL.out, HLW.out, HV.out, R1, R2⟩
          case measure => simp [intOf]; omega
    · have hltI : ¬ (I : Int) < 32 * (zs.length : Int) := by omega
      have hkb : k ≤ 1001 := by omega
      have HV : Hid (nv L = nv zs / 2 ^ n) := by
        rw [Hid, hval]
        apply Nat.mod_eq_of_lt
        rw [Nat.div_lt_iff_lt_mul (Nat.two_pow_pos n)]
        refine Nat.lt_of_lt_of_le (nv_lt hW) ?_
        rw [show (4294967296 : Nat) = 2 ^ 32 from rfl, ← Nat.pow_mul, ← Nat.pow_mul, ← Nat.pow_add]
        exact Nat.pow_le_pow_right (by decide) (by omega)
      have HLW : Hid (Words L) := hLW
      have R1 := hown
      rw [← hLl] at R1
      obtain ⟨ao', cap', rfl, hrd⟩ := own_readsU R1
      have hcap := own_cap R1
      have HRD : Hid (ReadsU _ ao' L _) := hrd
      have cc := cut_any ao' cap' L _ hcap.1 (by omega) hrd hcap.2
      clear R1 hrd hown hval hLW hk hI
      subst hLl
      go_wp2_with (go_at_call 50; refine cc.mono ?_; rintro e wq ⟨⟨nn, hnn, rfl, ht, hN⟩, hq⟩; subst wq)
      go_ret
      have hl3 : (L.take nn).length = nn := by simp; omega
      exact ⟨⟨_, rfl, ao', cap', L.take nn, by rw [hl3]; rfl, by rw [hl3]; omega, hcap.2, by rw [ht]; exact HV.out, hN, words_take HLW.out nn, HRD.out.take nn hnn⟩, hb⟩
end Go.Proofs.Ytigiecodobgenaa
