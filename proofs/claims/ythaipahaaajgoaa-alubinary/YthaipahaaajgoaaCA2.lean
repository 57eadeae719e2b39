import Derived.Test.YthaipahaaajgoaaCA1
import Derived.Test.YthaipahaaajgoaaCA0
import Derived.Deep.RegionHeld3
namespace Go.Proofs.Ythaipahaaajgoaa
open Go.RowKit

theorem less_end {zs ys L : List Nat} {k cr : Nat} (hk : k = zs.length) (hl2 : ys.length ≤ zs.length) (hle : nv ys ≤ nv zs) (hcr : cr ≤ 1) (hLl : L.length = k) (hLW : Words L) (hval : nv L + nv (ys.take k) = nv (zs.take k) + 4294967296 ^ k * cr) : nv L = nv zs - nv ys := by
  have h1 := nv_lt hLW
  rw [hLl] at h1
  rw [List.take_of_length_le (by rw [hk]; exact hl2), List.take_of_length_le (Nat.le_of_eq hk.symm)] at hval
  generalize 4294967296 ^ k = P at hval h1
  rcases (show cr = 0 ∨ cr = 1 by omega) with h | h
  · subst h; omega
  · subst h; omega
set_option maxRecDepth 100000 in
set_option maxHeartbeats 4000000 in
theorem less_any (ao bo : Option Addr) (ca cb : Nat) (zs ys : List Nat) (w : World) (hl : zs.length ≤ 1000) (hl2 : ys.length ≤ zs.length) (hle : nv ys ≤ nv zs) (hr : ReadsU w ao zs w.heap.size) (hr2 : ReadsU w bo ys w.heap.size) (hW : Words zs) (hW2 : Words ys) :
    Calls Try.prog 43 #[.slice ao zs.length ca, .slice bo ys.length cb] w fun e w' => (∃ v, e = .returned v ∧ NatV w' v (nv zs - nv ys)) ∧ Below w.heap.size w w' := by
  obtain ⟨i0, hi, hz0, hz1, hz2⟩ := info_parts Try.infoU
  go_enter Try.func43, Try.ntmps43
  go_wp2
  go_loopw [5, 6, 7] (fun v c i wr => ∃ k cr : Nat, ∃ L : List Nat, k ≤ zs.length ∧ i = .int .i64 k ∧ c = .int .u64 (cr : Int) ∧ cr ≤ 1 ∧ L.length = k ∧ Words L ∧ nv L + nv (ys.take k) = nv (zs.take k) + 4294967296 ^ k * cr ∧ wr.ownsRow w.heap.size 22 1 v k (uk L) ∧ Below w.heap.size w wr)
    (fun _ _ i _ => zs.length - (intOf i).toNat)
  case atStart => exact ⟨0, 0, [], Nat.zero_le _, rfl, rfl, by decide, rfl, (fun z hz => by simp at hz), by simp [nv], World.ownsRow_nil _ _ _ _, Below.refl _ _⟩
  case round =>
    obtain ⟨k, cr, L, hk, rfl, rfl, hcr, hLl, hLW, hval, hown, hb⟩ := hrel
    have hB := hb.size
    have st1 := take_step zs k
    have st2 := take_step ys k
    have zw := words_get hW k
    have yw := words_get hW2 k
    have key : ∀ z y lo hh : Nat, zs.getD k 0 = z → ys.getD k 0 = y → lo + cr + y = z + 4294967296 * hh → lo < 4294967296 → Words (L ++ [lo]) ∧ (L ++ [lo]).length = k + 1 ∧ nv (L ++ [lo]) + nv (ys.take (k + 1)) = nv (zs.take (k + 1)) + 4294967296 ^ (k + 1) * hh := by
      intro z y lo hh e1 e2 e3 e4
      rw [e1] at st1 zw
      rw [e2] at st2 yw
      refine ⟨?_, by simp [hLl], ?_⟩
      · intro u hu
        rcases List.mem_append.1 hu with h | h
        · exact hLW u h
        · simp at h; omega
      · rw [st1, st2, nv_append, hLl, Nat.pow_succ, Nat.mul_assoc, show nv [lo] = lo by simp [nv]]
        have h7 : 4294967296 ^ k * (lo + cr + y) = 4294967296 ^ k * z + 4294967296 ^ k * (4294967296 * hh) := by rw [e3, Nat.mul_add]
        rw [Nat.mul_add, Nat.mul_add] at h7
        omega
    by_cases h1 : k < zs.length
    · obtain ⟨z, hz⟩ : ∃ z, zs.getD k 0 = z := ⟨_, rfl⟩
      obtain ⟨y, hy⟩ : ∃ y, ys.getD k 0 = y := ⟨_, rfl⟩
      rw [hz] at zw
      rw [hy] at yw
      obtain ⟨Y, hY⟩ : ∃ Y, Y = cr + y := ⟨_, rfl⟩
      obtain ⟨b1, off1, rfl, hbl1, hc1⟩ := (hr.below hb) (by omega)
      have hck1 := hc1 k h1
      rw [hz] at hck1
      have hi1 : (k : Int) < (zs.length : Int) := by omega
      clear hc1
      have hkb : k ≤ 1000 := by omega
      have hYb : Y < 18446744073709551616 := by omega
      have hzb : z < 18446744073709551616 := by omega
      by_cases h2 : k < ys.length
      · by_cases h3 : z < Y
        · obtain ⟨b2, off2, rfl, hbl2, hc2⟩ := (hr2.below hb) (by omega)
          have hck2 := hc2 k h2
          rw [hy] at hck2
          have hi2 : (k : Int) < (ys.length : Int) := by omega
          clear hc2
          have e1 : (cr : Int) + (y : Int) = (Y : Int) := by omega
          obtain ⟨X, hX⟩ : ∃ X, X = z + 4294967296 := ⟨_, rfl⟩
          have hXb : X < 18446744073709551616 := by omega
          obtain ⟨lo, hlo⟩ : ∃ lo, lo = X - Y := ⟨_, rfl⟩
          have HK : Hid _ := key z y lo 1 hz hy (by omega) (by omega)
          have hh1 : (z : Int) < (Y : Int) := by omega
          have e2 : (z : Int) + 4294967296 = (X : Int) := by omega
          have e3 : (X : Int) - (Y : Int) = (lo : Int) := by omega
          have e4 : (Y : Int) ≤ (X : Int) := by omega
          have hlob : lo < 4294967296 := by omega
          have e2' : IntKind.u32.wrap (lo : Int) = (lo : Int) := by rw [IntKind.wrap_u32']; omega
          clear hX
          clear hY
          clear key st1 st2 hval hLW hLl hlo hz hy hle
          go_wp2_with (at_builtin; refine wpList_append_own _ rfl _ _ 50 rfl w.heap.size 22 i0 (.int .u32 0) 1 4 Try.underlying50 hi hz0 hz1 hz2 rfl (by decide) _ _ _ rfl (hown.alloc _) ⟨_, 0, none⟩ 1 1 [.int .u32 (lo : Int)] rfl rfl ?c1 ?c2 ?c3 ?c4 ?c5 ?_)
          all_goals first
            | (intro j u hj
               match j, hj with
               | 0, hj => simp at hj; subst hj; simp [Addr.add]; done)
            | (show Value.oneCell' _ = true; rfl)
            | (intro u hu; simp at hu; subst hu; rfl)
            | (unfold maxLen; omega)
            | omega
            | (simp; omega)
            | skip
          intro v' w1 hown' hgrow _
          have R1 : w1.ownsRow w.heap.size 22 1 v' (k + 1) (uk (L ++ [lo])) := own_snocU hown'
          have R2 := grown_belowU hb hB hown hgrow
          clear hown' hgrow hown
          go_wp2
          go_roundw
          case rel => exact ⟨k + 1, 1, L ++ [lo], by omega, by go_num, rfl, by decide, HK.out.2.1, HK.out.1, HK.out.2.2, R1, R2⟩
          case measure => simp [intOf]; omega
        · obtain ⟨b2, off2, rfl, hbl2, hc2⟩ := (hr2.below hb) (by omega)
          have hck2 := hc2 k h2
          rw [hy] at hck2
          have hi2 : (k : Int) < (ys.length : Int) := by omega
          clear hc2
          have e1 : (cr : Int) + (y : Int) = (Y : Int) := by omega
          obtain ⟨lo, hlo⟩ : ∃ lo, lo = z - Y := ⟨_, rfl⟩
          have HK : Hid _ := key z y lo 0 hz hy (by omega) (by omega)
          have hh1 : decide ((z : Int) < (Y : Int)) = false := decide_eq_false (by omega)
          have e3 : (z : Int) - (Y : Int) = (lo : Int) := by omega
          have e4 : (Y : Int) ≤ (z : Int) := by omega
          have hlob : lo < 4294967296 := by omega
          have e2' : IntKind.u32.wrap (lo : Int) = (lo : Int) := by rw [IntKind.wrap_u32']; omega
          clear hY
          clear key st1 st2 hval hLW hLl hlo hz hy hle
          go_wp2_with (at_builtin; refine wpList_append_own _ rfl _ _ 50 rfl w.heap.size 22 i0 (.int .u32 0) 1 4 Try.underlying50 hi hz0 hz1 hz2 rfl (by decide) _ _ _ rfl (hown.alloc _) ⟨_, 0, none⟩ 1 1 [.int .u32 (lo : Int)] rfl rfl ?p1 ?p2 ?p3 ?p4 ?p5 ?_)
          all_goals first
            | (intro j u hj
               match j, hj with
               | 0, hj => simp at hj; subst hj; simp [Addr.add]; done)
            | (show Value.oneCell' _ = true; rfl)
            | (intro u hu; simp at hu; subst hu; rfl)
            | (unfold maxLen; omega)
            | omega
            | (simp; omega)
            | skip
          intro v' w1 hown' hgrow _
          have R1 : w1.ownsRow w.heap.size 22 1 v' (k + 1) (uk (L ++ [lo])) := own_snocU hown'
          have R2 := grown_belowU hb hB hown hgrow
          clear hown' hgrow hown
          go_wp2
          go_roundw
          case rel => exact ⟨k + 1, 0, L ++ [lo], by omega, by go_num, rfl, by decide, HK.out.2.1, HK.out.1, HK.out.2.2, R1, R2⟩
          case measure => simp [intOf]; omega
      · by_cases h3 : z < Y
        · have hi2b : decide ((k : Int) < (ys.length : Int)) = false := decide_eq_false (by omega)
          have y0 : y = 0 := by rw [← hy]; exact getD_off h2
          have e1 : Y = cr := by omega
          subst e1
          obtain ⟨X, hX⟩ : ∃ X, X = z + 4294967296 := ⟨_, rfl⟩
          have hXb : X < 18446744073709551616 := by omega
          obtain ⟨lo, hlo⟩ : ∃ lo, lo = X - Y := ⟨_, rfl⟩
          have HK : Hid _ := key z y lo 1 hz hy (by omega) (by omega)
          have hh1 : (z : Int) < (Y : Int) := by omega
          have e2 : (z : Int) + 4294967296 = (X : Int) := by omega
          have e3 : (X : Int) - (Y : Int) = (lo : Int) := by omega
          have e4 : (Y : Int) ≤ (X : Int) := by omega
          have hlob : lo < 4294967296 := by omega
          have e2' : IntKind.u32.wrap (lo : Int) = (lo : Int) := by rw [IntKind.wrap_u32']; omega
          clear hX
          clear y0 hY
          clear key st1 st2 hval hLW hLl hlo hz hy hle
          go_wp2_with (at_builtin; refine wpList_append_own _ rfl _ _ 50 rfl w.heap.size 22 i0 (.int .u32 0) 1 4 Try.underlying50 hi hz0 hz1 hz2 rfl (by decide) _ _ _ rfl (hown.alloc _) ⟨_, 0, none⟩ 1 1 [.int .u32 (lo : Int)] rfl rfl ?q1 ?q2 ?q3 ?q4 ?q5 ?_)
          all_goals first
            | (intro j u hj
               match j, hj with
               | 0, hj => simp at hj; subst hj; simp [Addr.add]; done)
            | (show Value.oneCell' _ = true; rfl)
            | (intro u hu; simp at hu; subst hu; rfl)
            | (unfold maxLen; omega)
            | omega
            | (simp; omega)
            | skip
          intro v' w1 hown' hgrow _
          have R1 : w1.ownsRow w.heap.size 22 1 v' (k + 1) (uk (L ++ [lo])) := own_snocU hown'
          have R2 := grown_belowU hb hB hown hgrow
          clear hown' hgrow hown
          go_wp2
          go_roundw
          case rel => exact ⟨k + 1, 1, L ++ [lo], by omega, by go_num, rfl, by decide, HK.out.2.1, HK.out.1, HK.out.2.2, R1, R2⟩
          case measure => simp [intOf]; omega
        · have hi2b : decide ((k : Int) < (ys.length : Int)) = false := decide_eq_false (by omega)
          have y0 : y = 0 := by rw [← hy]; exact getD_off h2
          have e1 : Y = cr := by omega
          subst e1
          obtain ⟨lo, hlo⟩ : ∃ lo, lo = z - Y := ⟨_, rfl⟩
          have HK : Hid _ := key z y lo 0 hz hy (by omega) (by omega)
          have hh1 : decide ((z : Int) < (Y : Int)) = false := decide_eq_false (by omega)
          have e3 : (z : Int) - (Y : Int) = (lo : Int) := by omega
          have e4 : (Y : Int) ≤ (z : Int) := by omega
          have hlob : lo < 4294967296 := by omega
          have e2' : IntKind.u32.wrap (lo : Int) = (lo : Int) := by rw [IntKind.wrap_u32']; omega
          clear y0 hY
          clear key st1 st2 hval hLW hLl hlo hz hy hle
          go_wp2_with (at_builtin; refine wpList_append_own _ rfl _ _ 50 rfl w.heap.size 22 i0 (.int .u32 0) 1 4 Try.underlying50 hi hz0 hz1 hz2 rfl (by decide) _ _ _ rfl (hown.alloc _) ⟨_, 0, none⟩ 1 1 [.int .u32 (lo : Int)] rfl rfl ?s1 ?s2 ?s3 ?s4 ?s5 ?_)
          all_goals first
            | (intro j u hj
               match j, hj with
               | 0, hj => simp at hj; subst hj; simp [Addr.add]; done)
            | (show Value.oneCell' _ = true; rfl)
            | (intro u hu; simp at hu; subst hu; rfl)
            | (unfold maxLen; omega)
            | omega
            | (simp; omega)
            | skip
          intro v' w1 hown' hgrow _
          have R1 : w1.ownsRow w.heap.size 22 1 v' (k + 1) (uk (L ++ [lo])) := own_snocU hown'
          have R2 := grown_belowU hb hB hown hgrow
          clear hown' hgrow hown
          go_wp2
          go_roundw
          case rel => exact ⟨k + 1, 0, L ++ [lo], by omega, by go_num, rfl, by decide, HK.out.2.1, HK.out.1, HK.out.2.2, R1, R2⟩
          case measure => simp [intOf]; omega
    · have hi1b : decide ((k : Int) < (zs.length : Int)) = false := decide_eq_false (by omega)
      have hkz : k = zs.length := by omega
      have hk6 : k ≤ 1000000 := by omega
      have HV := less_end hkz hl2 hle hcr hLl hLW hval
      clear key st1 st2 hval zw yw hkz
      obtain ⟨ao', cap', rfl, cc⟩ := cut_own hown hLl hk6 HV hLW
      go_wp2_with (go_at_call 51; refine cc.mono ?_; rintro e wq ⟨⟨vv, rfl, hvv⟩, hq⟩; subst wq)
      go_ret
      exact ⟨⟨_, rfl, hvv⟩, hb⟩
end Go.Proofs.Ythaipahaaajgoaa
namespace Go.Proofs.Ythaipahaaajgoaa
open Go.RowKit

theorem nv_bit {zs : List Nat} (hW : Words zs) (j m : Nat) (hj : j < zs.length) (hm : m < 32) : nv zs / 2 ^ (32 * j + m) % 2 = zs.getD j 0 / 2 ^ m % 2 := by
  have h1 := nv_split zs j hj
  have h2 := nv_lt (words_take hW j)
  rw [show (zs.take j).length = j by simp; omega] at h2
  have e : 2 ^ (32 * j + m) = 4294967296 ^ j * 2 ^ m := by rw [Nat.pow_add, Nat.pow_mul]
  rw [e, ← Nat.div_div_eq_div_mul, h1, Nat.add_mul_div_left _ _ (Nat.pos_of_ne_zero (by intro h; rw [h] at h2; omega)), Nat.div_eq_of_lt h2, Nat.zero_add]
  have e2 : 4294967296 * nv (zs.drop (j + 1)) = 2 ^ m * (2 * (2 ^ (31 - m) * nv (zs.drop (j + 1)))) := by
    rw [← Nat.mul_assoc, ← Nat.mul_assoc, show 2 ^ m * 2 * 2 ^ (31 - m) = 2 ^ (m + 1 + (31 - m)) by rw [Nat.pow_add, Nat.pow_succ], show m + 1 + (31 - m) = 32 by omega]
  rw [e2, Nat.add_mul_div_left _ _ (Nat.pow_pos (by decide))]
  omega
theorem nv_bit_off {zs : List Nat} (hW : Words zs) (n : Nat) (h : zs.length ≤ n / 32) : nv zs / 2 ^ n % 2 = 0 := by
  have h2 := nv_lt hW
  have h3 : 4294967296 ^ zs.length ≤ 2 ^ n := by
    rw [show (4294967296 : Nat) = 2 ^ 32 from rfl, ← Nat.pow_mul]
    exact Nat.pow_le_pow_right (by decide) (by omega)
  rw [Nat.div_eq_of_lt (by omega)]
theorem bit_one (z m : Nat) (h : z < 4294967296) : (bits .and .u32 ((z : Int) / 2 ^ m) 1 == 1) = (z / 2 ^ m % 2 == 1) := by
  have h1 : z / 2 ^ m < 4294967296 := Nat.lt_of_le_of_lt (Nat.div_le_self _ _) h
  have h2 := u32_and_nat (z / 2 ^ m) 1 h1 (by decide)
  rw [Nat.and_one_is_mod] at h2
  have h3 : ((z : Int) / 2 ^ m) = ((z / 2 ^ m : Nat) : Int) := by simp
  rw [h3, show (1 : Int) = ((1 : Nat) : Int) from rfl, h2]
  rw [Bool.eq_iff_iff]
  simp only [beq_iff_eq]
  omega
set_option maxRecDepth 100000 in
set_option maxHeartbeats 1000000 in
theorem bit_any (ao : Option Addr) (cap : Nat) (zs : List Nat) (n : Nat) (w : World) (hl : zs.length ≤ 1000) (hn : n ≤ 1000000) (hr : ReadsU w ao zs w.heap.size) (hW : Words zs) :
    Calls Try.prog 56 #[.slice ao zs.length cap, .int .i64 n] w fun e w' => e = .returned (.bool (nv zs / 2 ^ n % 2 == 1)) ∧ w' = w := by
  obtain ⟨j, hj⟩ : ∃ j, j = n / 32 := ⟨_, rfl⟩
  obtain ⟨m, hm⟩ : ∃ m, m = n % 32 := ⟨_, rfl⟩
  have hnn : n = 32 * j + m := by omega
  have t1 : Int.tdiv (n : Int) 32 = (j : Int) := by rw [Int.tdiv_eq_ediv_of_nonneg (by omega)]; omega
  have t2 : Int.tmod (n : Int) 32 = (m : Int) := by rw [Int.tmod_eq_emod_of_nonneg (by omega)]; omega
  have g0 : decide ((n : Int) < 0) = false := decide_eq_false (by omega)
  have hjb : j ≤ 1000000 := by omega
  by_cases h1 : j < zs.length
  · obtain ⟨z, hz⟩ : ∃ z, zs.getD j 0 = z := ⟨_, rfl⟩
    have zw := words_get hW j
    have hb := nv_bit hW j m h1 (by omega)
    rw [← hnn, hz] at hb
    rw [hz] at zw
    rw [hb]
    obtain ⟨b1, off1, rfl, hbl1, hc1⟩ := hr (by omega)
    have hck1 := hc1 j h1
    rw [hz] at hck1
    have hi1 : (j : Int) < (zs.length : Int) := by omega
    have hi2 : decide ((zs.length : Int) ≤ (j : Int)) = false := decide_eq_false (by omega)
    have hmb : m < 32 := by omega
    clear hc1 hb hz hnn hj hm
    go_enter Try.func56, Try.ntmps56
    go_wp2
    go_ret
    exact ⟨by rw [bit_one z m zw]; rfl, rfl⟩
  · rw [nv_bit_off hW n (by omega)]
    have hi2 : decide ((zs.length : Int) ≤ (j : Int)) = true := decide_eq_true (by omega)
    clear hnn hj hm
    go_enter Try.func56, Try.ntmps56
    go_wp2
    go_ret
    exact ⟨rfl, rfl⟩
end Go.Proofs.Ythaipahaaajgoaa
namespace Go.Proofs.Ythaipahaaajgoaa
open Go.RowKit

theorem mod_step (V i j : Nat) : V / 2 ^ i % 2 ^ (j + 1) = V / 2 ^ i % 2 ^ j + 2 ^ j * (V / 2 ^ (i + j) % 2) := by
  have h : V / 2 ^ (i + j) = V / 2 ^ i / 2 ^ j := by rw [Nat.pow_add, Nat.div_div_eq_div_mul]
  rw [h, Nat.pow_succ, Nat.mod_mul]
theorem mod_word (V k : Nat) : V % 4294967296 ^ (k + 1) = V % 4294967296 ^ k + 4294967296 ^ k * (V / 4294967296 ^ k % 4294967296) := by
  rw [Nat.pow_succ, Nat.mod_mul]
theorem div_word (V n k : Nat) : V / 2 ^ (n + 32 * k) % 2 ^ 32 = V / 2 ^ n / 4294967296 ^ k % 4294967296 := by
  rw [Nat.pow_add, Nat.pow_mul, ← Nat.div_div_eq_div_mul]
theorem nv_one (x : Nat) : nv [x] = x := by simp [nv]
theorem or_bit (a j : Nat) (ha : a < 2 ^ j) (hj : j < 32) : bits .or .u32 (a : Int) ((2 ^ j : Nat) : Int) = ((a + 2 ^ j : Nat) : Int) := by
  have h1 : 2 ^ j ≤ 2147483648 := Nat.pow_le_pow_right (by decide) (show j ≤ 31 by omega)
  have := u32_or_nat (2 ^ j) a (by omega) (by omega)
  rw [nat_join j (2 ^ j) a (Nat.mod_self _) ha] at this
  have e := u32_or_nat a (2 ^ j) (by omega) (by omega)
  rw [Nat.or_comm, nat_join j (2 ^ j) a (Nat.mod_self _) ha, Nat.add_comm] at e
  exact e

set_option maxRecDepth 100000 in
set_option maxHeartbeats 4000000 in
theorem down_any (ao : Option Addr) (cap : Nat) (zs : List Nat) (n : Nat) (w : World) (hl : zs.length ≤ 1000) (hn : n ≤ 100000) (hr : ReadsU w ao zs w.heap.size) (hW : Words zs) :
    Calls Try.prog 55 #[.slice ao zs.length cap, .int .i64 n] w fun e w' => (∃ v, e = .returned v ∧ NatV w' v (nv zs / 2 ^ n)) ∧ Below w.heap.size w w' := by
  obtain ⟨i0, hi, hz0, hz1, hz2⟩ := info_parts Try.infoU
  go_enter Try.func55, Try.ntmps55
  go_wp2
  go_loopw [5, 6, 7, 8] (fun v i _ _ wr => ∃ k : Nat, ∃ L : List Nat, (k = 0 ∨ n + 32 * k < 32 * zs.length + 32) ∧ i = .int .i64 ((n + 32 * k : Nat) : Int) ∧ L.length = k ∧ Words L ∧ nv L = nv zs / 2 ^ n % 4294967296 ^ k ∧ wr.ownsRow w.heap.size 22 1 v k (uk L) ∧ Below w.heap.size w wr)
    (fun _ i _ _ _ => 32 * zs.length - (intOf i).toNat)
  case atStart => exact ⟨0, [], Or.inl rfl, by simp, rfl, (fun z hz => by simp at hz), by simp [nv, Nat.mod_one], World.ownsRow_nil _ _ _ _, Below.refl _ _⟩
  case round =>
    obtain ⟨k, L, hk, rfl, hLl, hLW, hval, hown, hb⟩ := hrel
    have hB := hb.size
    obtain ⟨I, hI⟩ : ∃ I, I = n + 32 * k := ⟨_, rfl⟩
    rw [← hI] at hk ⊢
    by_cases hlt : I < 32 * zs.length
    · have hltI : (I : Int) < 32 * (zs.length : Int) := by omega
      have hIb : I ≤ 32000 := by omega
      have HI : Hid (I = n + 32 * k) := hI
      have HK : Hid (nv L = nv zs / 2 ^ n % 4294967296 ^ k ∧ L.length = k ∧ Words L) := ⟨hval, hLl, hLW⟩
      clear hI hval hLl hLW hk
      rename World => wr
      go_wp2
      go_loop [7, 8] (fun x j => ∃ m : Nat, m ≤ 32 ∧ j = .int .i64 m ∧ x = .int .u32 ((nv zs / 2 ^ I % 2 ^ m : Nat) : Int)) (fun _ j => 32 - (intOf j).toNat)
      case atStart => exact ⟨0, by omega, rfl, by simp [Nat.mod_one]⟩
      case round =>
        obtain ⟨m, hm, rfl, rfl⟩ := hrel
        by_cases hml : m < 32
        · have hmI : (m : Int) < 32 := by omega
          have ht := bit_any ao cap zs (I + m) wr hl (by omega) ((hr.below hb).mono hB) hW
          have HS : Hid (nv zs / 2 ^ I % 2 ^ (m + 1) = nv zs / 2 ^ I % 2 ^ m + 2 ^ m * (nv zs / 2 ^ (I + m) % 2)) := mod_step _ _ _
          have hx := Nat.mod_lt (nv zs / 2 ^ I) (Nat.two_pow_pos m)
          have hor := or_bit (nv zs / 2 ^ I % 2 ^ m) m hx hml
          have hp32 : 2 ^ m ≤ 2147483648 := Nat.pow_le_pow_right (by decide) (show m ≤ 31 by omega)
          have hpI : ((2 : Int) ^ m) = ((2 ^ m : Nat) : Int) := by simp
          have hpw : IntKind.u32.wrap ((2 ^ m : Nat) : Int) = ((2 ^ m : Nat) : Int) := by rw [IntKind.wrap_u32']; omega
          have hb2 := Nat.mod_lt (nv zs / 2 ^ (I + m)) (show 0 < 2 by decide)
          generalize nv zs / 2 ^ (I + m) % 2 = bb at *
          generalize nv zs / 2 ^ I % 2 ^ m = xx at *
          have hcases : bb = 0 ∨ bb = 1 := by omega
          rcases hcases with rfl | rfl
          · have ht' : Calls Try.prog 56 #[.slice ao zs.length cap, .int .i64 ((I + m : Nat) : Int)] wr fun e w' => e = .returned (.bool false) ∧ w' = wr := ht
            rw [Int.natCast_add] at ht'
            clear ht hor hpI hpw
            go_wp2_with (go_at_call 56; refine ht'.mono ?_; rintro e wq ⟨rfl, hq⟩; subst wq)
            go_round
            case rel => exact ⟨m + 1, by omega, by go_num, by rw [HS.out]; simp⟩
            case measure => simp [intOf]; omega
          · have ht' : Calls Try.prog 56 #[.slice ao zs.length cap, .int .i64 ((I + m : Nat) : Int)] wr fun e w' => e = .returned (.bool true) ∧ w' = wr := ht
            rw [Int.natCast_add] at ht'
            clear ht
            generalize 2 ^ m = pm at *
            go_wp2_with (go_at_call 56; refine ht'.mono ?_; rintro e wq ⟨rfl, hq⟩; subst wq)
            go_round
            case rel => exact ⟨m + 1, by omega, by go_num, by rw [HS.out]; simp⟩
            case measure => simp [intOf]; omega
        · obtain rfl : m = 32 := by omega
          obtain ⟨hval, hLl, hLW⟩ := HK.out
          have hx := Nat.mod_lt (nv zs / 2 ^ I) (Nat.two_pow_pos 32)
          have HV : Hid (nv (L ++ [nv zs / 2 ^ I % 2 ^ 32]) = nv zs / 2 ^ n % 4294967296 ^ (k + 1)) := by
            rw [Hid, nv_append, hLl, hval, nv_one, HI.out, mod_word, div_word]
          generalize nv zs / 2 ^ I % 2 ^ 32 = LC at *
          have hLC : LC < 4294967296 := hx
          have HLW : Hid (Words (L ++ [LC])) := by
            intro y hy
            rcases List.mem_append.1 hy with h | h
            · exact hLW y h
            · simp at h; omega
          have HLL : Hid ((L ++ [LC]).length = k + 1) := by rw [Hid]; simp [hLl]
          have hkb : k ≤ 1000 := by have := HI.out; omega
          clear hval hLl hLW hx HK
          go_wp2_with (at_builtin; refine wpList_append_own _ rfl _ _ 50 rfl w.heap.size 22 i0 (.int .u32 0) 1 4 Try.underlying50 hi hz0 hz1 hz2 rfl (by decide) _ _ _ rfl (hown.alloc _) ⟨_, 0, none⟩ 1 1 [.int .u32 (LC : Int)] rfl rfl ?c1 ?c2 ?c3 ?c4 ?c5 ?_)
          case c2 => rfl
          case c3 => unfold maxLen; omega
          case c4 => omega
          case c5 => omega
          intro v' w1 hown' hgrow _
          have R1 : w1.ownsRow w.heap.size 22 1 v' (k + 1) (uk (L ++ [LC])) := own_snocU hown'
          have R2 := grown_belowU hb hB hown hgrow
          clear hown' hgrow hown
          go_wp2
          go_roundw
          case rel => exact ⟨k + 1, L ++ [LC], Or.inr (by have := HI.out; omega), by rw [HI.out]; go_num, HLL.out, HLW.out, HV.out, R1, R2⟩
          case measure => simp [intOf]; omega
    · have hltI : ¬ (I : Int) < 32 * (zs.length : Int) := by omega
      have hkb : k ≤ 1001 := by omega
      have HV : Hid (nv L = nv zs / 2 ^ n) := by
        rw [Hid, hval]
        apply Nat.mod_eq_of_lt
        rw [Nat.div_lt_iff_lt_mul (Nat.two_pow_pos n)]
        refine Nat.lt_of_lt_of_le (nv_lt hW) ?_
        rw [show (4294967296 : Nat) = 2 ^ 32 from rfl, ← Nat.pow_mul, ← Nat.pow_mul, ← Nat.pow_add]
        exact Nat.pow_le_pow_right (by decide) (by omega)
      have HLW : Hid (Words L) := hLW
      have R1 := hown
      rw [← hLl] at R1
      obtain ⟨ao', cap', rfl, hrd⟩ := own_readsU R1
      have hcap := own_cap R1
      have HRD : Hid (ReadsU _ ao' L _) := hrd
      have cc := cut_any ao' cap' L _ hcap.1 (by omega) hrd hcap.2
      clear R1 hrd hown hval hLW hk hI
      subst hLl
      go_wp2_with (go_at_call 51; refine cc.mono ?_; rintro e wq ⟨⟨nn, hnn, rfl, ht, hN⟩, hq⟩; subst wq)
      go_ret
      have hl3 : (L.take nn).length = nn := by simp; omega
      exact ⟨⟨_, rfl, ao', cap', L.take nn, by rw [hl3]; rfl, by rw [hl3]; omega, hcap.2, by rw [ht]; exact HV.out, hN, words_take HLW.out nn, HRD.out.take nn hnn⟩, hb⟩
end Go.Proofs.Ythaipahaaajgoaa
namespace Go.Proofs.Ythaipahaaajgoaa
open Go.RowKit

abbrev fm : Value := .agg #[.int .i64 24, .int .i64 (-149), .int .i64 104]
abbrev ob : Obj := .cells #[.int .i64 24, .int .i64 (-149), .int .i64 104] 44
abbrev oz : Obj := .cells #[.int .u8 0, .bool false, .int .u64 0, .int .i64 0] 41
/-- a finite value, or what is without end, if the power is too great -/
def hdV (m : Bool) (n : Nat) (p : Int) : Value := if 104 < p then .agg #[.int .u8 2, .bool m, .int .u64 0, .int .i64 0] else .agg #[.int .u8 3, .bool m, .int .u64 n, .int .i64 p]
set_option maxRecDepth 100000 in
set_option maxHeartbeats 1000000 in
theorem held_any (m : Bool) (n : Nat) (p : Int) (w : World) :
    Calls Try.prog 53 #[.agg #[.int .i64 24, .int .i64 (-149), .int .i64 104], .bool m, .int .u64 n, .int .i64 p] w fun e w' => e = .returned (hdV m n p) ∧ Below w.heap.size w w' := by
  by_cases h : 104 < p
  · have HV : Hid (hdV m n p = .agg #[.int .u8 2, .bool m, .int .u64 0, .int .i64 0]) := by rw [Hid, hdV, if_pos h]
    go_enter Try.func53, Try.ntmps53
    go_wp2_with (go_at_call 46; refine (vendless_any _ _).mono ?_; rintro e wq ⟨rfl, hq⟩; subst wq)
    refine bodyPost_ret (v := .agg #[.int .u8 2, .bool m, .int .u64 0, .int .i64 0]) (by simp [results, Try.f53, go_sem]) rfl ?_
    exact ⟨by rw [HV.out], by repeat (first | exact Below.refl _ _ | refine bel ?_ | refine Below.drew ?_)⟩
  · have HV : Hid (hdV m n p = .agg #[.int .u8 3, .bool m, .int .u64 n, .int .i64 p]) := by rw [Hid, hdV, if_neg h]
    have g1 : decide (104 < p) = false := decide_eq_false h
    go_enter Try.func53, Try.ntmps53
    go_wp2
    refine bodyPost_ret (v := .agg #[.int .u8 3, .bool m, .int .u64 n, .int .i64 p]) (by simp [results, Try.f53, go_sem]) rfl ?_
    exact ⟨by rw [HV.out], by repeat (first | exact Below.refl _ _ | refine bel ?_ | refine Below.drew ?_)⟩
@[go_sem] theorem bV3 (s : Int) (m : Bool) (p : Int) (w : World) : (Instr.build 41 #[(0, .int .u8 s), (1, .bool m), (3, .int .i64 p)]).run Try.prog w = .ok (.agg #[.int .u8 s, .bool m, .int .u64 0, .int .i64 p]) w := run_build w 41 _ _ (by kernel_rfl)
set_option maxRecDepth 100000 in
set_option maxHeartbeats 1000000 in
theorem nought_any (m : Bool) (w : World) :
    Calls Try.prog 42 #[.agg #[.int .i64 24, .int .i64 (-149), .int .i64 104], .bool m] w fun e w' => e = .returned (.agg #[.int .u8 3, .bool m, .int .u64 0, .int .i64 (-149)]) ∧ Below w.heap.size w w' := by
  go_enter Try.func42, Try.ntmps42
  go_wp2
  refine bodyPost_ret (v := .agg #[.int .u8 3, .bool m, .int .u64 0, .int .i64 (-149)]) (by simp [results, Try.f42, go_sem]) rfl ?_
  exact ⟨rfl, by repeat (first | exact Below.refl _ _ | refine bel ?_ | refine Below.drew ?_)⟩
end Go.Proofs.Ythaipahaaajgoaa
namespace Go.Proofs.Ythaipahaaajgoaa
open Go.RowKit

theorem kF {w W : World} (h : Below ((w.alloc ob).alloc oz).heap.size ((w.alloc ob).alloc oz) W) :
    W.cell? ⟨w.heap.size, 0, none⟩ = some (.int .i64 24) ∧ W.cell? ⟨w.heap.size, 1, none⟩ = some (.int .i64 (-149)) ∧ W.cell? ⟨w.heap.size, 2, none⟩ = some (.int .i64 104) := by
  refine ⟨(h.cell (p := ⟨w.heap.size, 0, none⟩) (by simp; omega)).trans (by simp), (h.cell (p := ⟨w.heap.size, 1, none⟩) (by simp; omega)).trans (by simp), (h.cell (p := ⟨w.heap.size, 2, none⟩) (by simp; omega)).trans (by simp)⟩
theorem kR {w W : World} (h : Below ((w.alloc ob).alloc oz).heap.size ((w.alloc ob).alloc oz) W) :
    W.cell? ⟨w.heap.size + 1, 0, none⟩ = some (.int .u8 0) ∧ W.cell? ⟨w.heap.size + 1, 1, none⟩ = some (.bool false) ∧ W.cell? ⟨w.heap.size + 1, 2, none⟩ = some (.int .u64 0) ∧ W.cell? ⟨w.heap.size + 1, 3, none⟩ = some (.int .i64 0) := by
  refine ⟨(h.cell (p := ⟨w.heap.size + 1, 0, none⟩) (by simp)).trans (by simp), (h.cell (p := ⟨w.heap.size + 1, 1, none⟩) (by simp)).trans (by simp), (h.cell (p := ⟨w.heap.size + 1, 2, none⟩) (by simp)).trans (by simp), (h.cell (p := ⟨w.heap.size + 1, 3, none⟩) (by simp)).trans (by simp)⟩
theorem kA {w W : World} (h : Below ((w.alloc ob).alloc oz).heap.size ((w.alloc ob).alloc oz) W) :
    W.cell? ⟨w.heap.size + 1, 0, none⟩ = some (.int .u8 0) ∧ W.cell? ⟨w.heap.size + 1, 1, none⟩ = some (.bool false) ∧ W.cell? ⟨w.heap.size + 1, 2, none⟩ = some (.int .u64 0) ∧ W.cell? ⟨w.heap.size + 1, 3, none⟩ = some (.int .i64 0) ∧ W.frozen? ⟨w.heap.size + 1, 0, none⟩ = false ∧ W.frozen? ⟨w.heap.size + 1, 1, none⟩ = false ∧ W.frozen? ⟨w.heap.size + 1, 2, none⟩ = false ∧ W.frozen? ⟨w.heap.size + 1, 3, none⟩ = false :=
  ⟨(kR h).1, (kR h).2.1, (kR h).2.2.1, (kR h).2.2.2, (h.frozen (p := ⟨w.heap.size + 1, 0, none⟩) (by simp)).trans (by simp), (h.frozen (p := ⟨w.heap.size + 1, 1, none⟩) (by simp)).trans (by simp), (h.frozen (p := ⟨w.heap.size + 1, 2, none⟩) (by simp)).trans (by simp), (h.frozen (p := ⟨w.heap.size + 1, 3, none⟩) (by simp)).trans (by simp)⟩
theorem kS {w W : World} {a b c d : Value} (h : Below ((w.alloc ob).alloc oz).heap.size ((w.alloc ob).alloc oz) W) :
    ((((W.setCell ⟨w.heap.size + 1, 0, none⟩ a).setCell ⟨w.heap.size + 1, 1, none⟩ b).setCell ⟨w.heap.size + 1, 2, none⟩ c).setCell ⟨w.heap.size + 1, 3, none⟩ d).cell? ⟨w.heap.size, 0, none⟩ = some (.int .i64 24) ∧ ((((W.setCell ⟨w.heap.size + 1, 0, none⟩ a).setCell ⟨w.heap.size + 1, 1, none⟩ b).setCell ⟨w.heap.size + 1, 2, none⟩ c).setCell ⟨w.heap.size + 1, 3, none⟩ d).cell? ⟨w.heap.size, 1, none⟩ = some (.int .i64 (-149)) ∧ ((((W.setCell ⟨w.heap.size + 1, 0, none⟩ a).setCell ⟨w.heap.size + 1, 1, none⟩ b).setCell ⟨w.heap.size + 1, 2, none⟩ c).setCell ⟨w.heap.size + 1, 3, none⟩ d).cell? ⟨w.heap.size, 2, none⟩ = some (.int .i64 104) := by
  obtain ⟨h0, h1, h2⟩ := kF h
  refine ⟨?_, ?_, ?_⟩
  all_goals rw [World.cell?_setCell_other _ _ _ _ (by simp), World.cell?_setCell_other _ _ _ _ (by simp), World.cell?_setCell_other _ _ _ _ (by simp), World.cell?_setCell_other _ _ _ _ (by simp)]
  · exact h0
  · exact h1
  · exact h2
theorem kB {w W : World} {a b c d : Value} (h : Below ((w.alloc ob).alloc oz).heap.size ((w.alloc ob).alloc oz) W) :
    Below w.heap.size w ((((W.setCell ⟨w.heap.size + 1, 0, none⟩ a).setCell ⟨w.heap.size + 1, 1, none⟩ b).setCell ⟨w.heap.size + 1, 2, none⟩ c).setCell ⟨w.heap.size + 1, 3, none⟩ d) := by
  have h1 : Below w.heap.size w W := (bel (bel (Below.refl _ _))).trans (h.mono (by simp; omega))
  exact (((h1.setCell (p := ⟨w.heap.size + 1, 0, none⟩) (Nat.le_succ _) a).setCell (p := ⟨w.heap.size + 1, 1, none⟩) (Nat.le_succ _) b).setCell (p := ⟨w.heap.size + 1, 2, none⟩) (Nat.le_succ _) c).setCell (p := ⟨w.heap.size + 1, 3, none⟩) (Nat.le_succ _) d
/-- the step's power -/
def kk (N : Nat) (P : Int) : Int := max (P + nbits N - 24) (-149)

theorem bt2 {a W w1 : World} (h : Below W.heap.size W w1) (h' : Below a.heap.size a W) : Below a.heap.size a w1 := h'.trans (h.mono h'.size)
theorem bt3 {a w1 : World} {n : Nat} (h : Below a.heap.size a w1) : Below a.heap.size a (w1.drewN n) := h.trans ⟨rfl, rfl, rfl, Nat.le_refl _, fun _ _ => rfl⟩
theorem NatV.dest {w : World} {v : Value} {x : Nat} (h : NatV w v x) : ∃ ao cap zs, v = .slice ao (List.length zs) cap ∧ List.length zs ≤ cap ∧ (ao = none → cap = 0) ∧ nv zs = x ∧ Norm zs ∧ Words zs ∧ ReadsU w ao zs w.heap.size := h
theorem small_len {zs : List Nat} (hN : Norm zs) {x : Nat} (h : nv zs = x) (hx : x < 18446744073709551616) : zs.length ≤ 2 := norm_len hN 2 (by rw [h]; exact hx)

set_option maxRecDepth 100000 in
set_option maxHeartbeats 4000000 in
theorem rnd1a (m : Bool) (ao : Option Addr) (cap : Nat) (zs : List Nat) (P : Int) (nb X M : Nat) (w : World) (hl : zs.length ≤ 100) (hr : ReadsU w ao zs w.heap.size) (hW : Words zs) (hN : Norm zs) (hz : zs.length ≠ 0) (hnb : nbits (nv zs) = nb) (hnl : nb ≤ 4000) (hP : -5000 ≤ P) (hP2 : P ≤ 5000) (hA : P + nb - 24 < -149) (hX : P - -149 = X) (hM : nv zs * 2 ^ X = M) (hMl : M < 18446744073709551616) :
    Calls Try.prog 39 #[.agg #[.int .i64 24, .int .i64 (-149), .int .i64 104], .bool m, .slice ao zs.length cap, .int .i64 P, .bool false] w fun e w' => e = .returned (hdV m M (-149)) ∧ Below w.heap.size w w' := by
  have hz' : ((zs.length : Int) == 0) = false := by rw [beq_eq_false_iff_ne]; omega
  have sz := fun W hrW => size_any ao cap zs W (by omega) hrW hW hN
  rw [hnb] at sz
  have HM : Hid (nv zs * 2 ^ X = M) := hM
  have hX5 : X ≤ 10000 := by omega
  have hPX : P + 149 = X := by omega
  have hPl : (-149 : Int) ≤ P := by omega
  have HXw : Hid (IntKind.i64.wrap (X : Int) = X) := by rw [Hid, IntKind.wrap_i64]; omega
  have HD : Hid (hdV m M (-149) = .agg #[.int .u8 3, .bool m, .int .u64 M, .int .i64 (-149)]) := by rw [Hid, hdV, if_neg (by omega)]
  clear hM hX
  go_enter Try.func39, Try.ntmps39
  go_wp2
  have hr2 : ReadsU ((w.alloc ob).alloc oz) ao zs ((w.alloc ob).alloc oz).heap.size := (hr.below (bel (bel (Below.refl _ _)))).mono (by simp; omega)
  go_quiet (((go_at_call 52); exact Calls.quiet_of_same (sz _ hr2)))
  go_wp2
  go_region_held3 (fun w' => w'.cell? ⟨w.heap.size, 0, none⟩ = some (.int .i64 24) ∧ w'.cell? ⟨w.heap.size, 1, none⟩ = some (.int .i64 (-149)) ∧ w'.cell? ⟨w.heap.size, 2, none⟩ = some (.int .i64 104)) ((first | ((try dsimp only); with_reducible refine kS ?_; (repeat (first | exact Below.refl _ _ | with_reducible refine bel ?_ | with_reducible refine Below.drew ?_ | with_reducible refine bt3 ?_ | with_reducible refine bt2 hb1 ?_ | with_reducible refine bt2 hb2 ?_)); done) | (refine kF ?_; (repeat (first | exact Below.refl _ _ | with_reducible refine bel ?_ | with_reducible refine Below.drew ?_ | with_reducible refine bt3 ?_ | with_reducible refine bt2 hb1 ?_ | with_reducible refine bt2 hb2 ?_)); done))) (first
    | (go_at_call 37; rw [HXw.out]; with_reducible refine (up_any ao cap zs X _ (by omega) (by omega) ?_ hW).mono ?_; (exact (hr2.below (by repeat (first | exact Below.refl _ _ | with_reducible refine bel ?_ | with_reducible refine Below.drew ?_ | with_reducible refine bt3 ?_))).mono (by simp)); rintro e w1 ⟨⟨v1, rfl, hv1⟩, hb1⟩; obtain ⟨ao1, cap1, zs1, rfl, hc1, hn1, hval1, hN1, hW1, hr1⟩ := hv1.dest)
    | (go_at_call 54; with_reducible refine (low_any ao1 cap1 zs1 _ (by have := small_len hN1 (hval1.trans HM.out) hMl; omega) ?_ hW1).mono ?_; (exact (hr1.below (by repeat (first | exact Below.refl _ _ | with_reducible refine bel ?_ | with_reducible refine Below.drew ?_ | with_reducible refine bt3 ?_))).mono (by simp)); rintro e wq ⟨rfl, hq⟩; rw [hval1, HM.out, Nat.mod_eq_of_lt hMl]; subst wq)
    | (go_at_call 53; with_reducible refine (held_any m M (-149) _).mono ?_; rintro e w2 ⟨rfl, hb2⟩; rw [HD.out]; obtain ⟨r0, r1, r2, r3, q0, q1, q2, q3⟩ := kA (w := w) (W := w2) (by repeat (first | exact Below.refl _ _ | with_reducible refine bel ?_ | with_reducible refine Below.drew ?_ | with_reducible refine bt3 ?_ | with_reducible refine bt2 hb1 ?_ | with_reducible refine bt2 hb2 ?_))))
  go_wp2
  refine bodyPost_ret (v := .agg #[.int .u8 3, .bool m, .int .u64 M, .int .i64 (-149)]) (by simp [results, Try.f39, go_sem, r0, r1, r2, r3]) rfl ?_
  exact ⟨by rw [HD.out], kB (by repeat (first | exact Below.refl _ _ | with_reducible refine bel ?_ | with_reducible refine Below.drew ?_ | with_reducible refine bt3 ?_ | with_reducible refine bt2 hb1 ?_ | with_reducible refine bt2 hb2 ?_))⟩
end Go.Proofs.Ythaipahaaajgoaa
namespace Go.Proofs.Ythaipahaaajgoaa
open Go.RowKit

def vS (p : Int) : Int := if 104 < p then 2 else 3
def vM (n : Nat) (p : Int) : Int := if 104 < p then 0 else n
def vP (p : Int) : Int := if 104 < p then 0 else p
theorem hdV_agg (m : Bool) (n : Nat) (p : Int) : hdV m n p = .agg #[.int .u8 (vS p), .bool m, .int .u64 (vM n p), .int .i64 (vP p)] := by
  unfold hdV vS vM vP; split <;> rfl
theorem RU {a W : World} {ao : Option Addr} {zs : List Nat} (h : ReadsU a ao zs a.heap.size) (hb : Below a.heap.size a W) : ReadsU W ao zs W.heap.size := (h.below hb).mono hb.size
theorem ag_lt {x y : Nat} (h : x < y) : ag x y = -1 := by unfold ag; rw [if_pos h]
theorem ag_eq (x : Nat) : ag x x = 0 := by unfold ag; rw [if_neg (Nat.lt_irrefl _), if_pos rfl]
theorem ag_gt {x y : Nat} (h : y < x) : ag x y = 1 := by unfold ag; rw [if_neg (by omega), if_neg (by omega)]
set_option maxRecDepth 100000 in
set_option maxHeartbeats 4000000 in
theorem rnd0 (m : Bool) (ao : Option Addr) (cap : Nat) (zs : List Nat) (P : Int) (w : World) (hz : zs.length = 0) :
    Calls Try.prog 39 #[.agg #[.int .i64 24, .int .i64 (-149), .int .i64 104], .bool m, .slice ao zs.length cap, .int .i64 P, .bool false] w fun e w' => e = .returned (hdV m 0 (-149)) ∧ Below w.heap.size w w' := by
  have hz' : (zs.length : Int) = 0 := by omega
  have HD : Hid (hdV m 0 (-149) = .agg #[.int .u8 3, .bool m, .int .u64 0, .int .i64 (-149)]) := by rw [Hid, hdV, if_neg (by omega)]; rfl
  go_enter Try.func39, Try.ntmps39
  go_wp2_with (go_at_call 42; with_reducible refine (nought_any m _).mono ?_; rintro e w2 ⟨rfl, hb2⟩; have HB : Below ((w.alloc ob).alloc oz).heap.size ((w.alloc ob).alloc oz) w2 := bt2 hb2 (by (repeat (first | exact Below.refl _ _ | with_reducible refine bel ?_ | with_reducible refine Below.drew ?_ | with_reducible refine bt3 ?_))); obtain ⟨r0, r1, r2, r3, q0, q1, q2, q3⟩ := kA HB)
  refine bodyPost_ret (v := .agg #[.int .u8 3, .bool m, .int .u64 0, .int .i64 (-149)]) (by simp [results, Try.f39, go_sem, r0, r1, r2, r3]) rfl ?_
  exact ⟨by rw [HD.out], kB HB⟩
set_option maxRecDepth 100000 in
set_option maxHeartbeats 4000000 in
theorem rnd2 (m : Bool) (ao : Option Addr) (cap : Nat) (zs : List Nat) (P : Int) (nb : Nat) (w : World) (hl : zs.length ≤ 100) (hr : ReadsU w ao zs w.heap.size) (hW : Words zs) (hN : Norm zs) (hz : zs.length ≠ 0) (hnb : nbits (nv zs) = nb) (hnl : nb ≤ 4000) (hP : -5000 ≤ P) (hP2 : P ≤ 5000) (hA : P + nb - 24 < -149) (hkP : P < -149) (hD : (nb : Int) + 1 < -149 - P) :
    Calls Try.prog 39 #[.agg #[.int .i64 24, .int .i64 (-149), .int .i64 104], .bool m, .slice ao zs.length cap, .int .i64 P, .bool false] w fun e w' => e = .returned (hdV m 0 (-149)) ∧ Below w.heap.size w w' := by
  have hz' : ((zs.length : Int) == 0) = false := by rw [beq_eq_false_iff_ne]; omega
  have sz := fun W hrW => size_any ao cap zs W (by omega) hrW hW hN
  rw [hnb] at sz
  have HD : Hid (hdV m 0 (-149) = .agg #[.int .u8 3, .bool m, .int .u64 0, .int .i64 (-149)]) := by rw [Hid, hdV, if_neg (by omega)]; rfl
  have hr2 : ReadsU ((w.alloc ob).alloc oz) ao zs ((w.alloc ob).alloc oz).heap.size := RU hr (bel (bel (Below.refl _ _)))
  go_enter Try.func39, Try.ntmps39
  go_wp2
  go_quiet (((go_at_call 52); exact Calls.quiet_of_same (sz _ hr2)))
  go_wp2_with (first
    | (go_at_call 52; with_reducible refine (sz _ (RU hr2 (by (repeat (first | exact Below.refl _ _ | with_reducible refine bel ?_ | with_reducible refine Below.drew ?_ | with_reducible refine bt3 ?_))))).mono ?_; rintro e wq ⟨rfl, hq⟩; subst wq)
    | (go_at_call 42; with_reducible refine (nought_any m _).mono ?_; rintro e w2 ⟨rfl, hb2⟩; have HB : Below ((w.alloc ob).alloc oz).heap.size ((w.alloc ob).alloc oz) w2 := bt2 hb2 (by (repeat (first | exact Below.refl _ _ | with_reducible refine bel ?_ | with_reducible refine Below.drew ?_ | with_reducible refine bt3 ?_))); obtain ⟨r0, r1, r2, r3, q0, q1, q2, q3⟩ := kA HB))
  refine bodyPost_ret (v := .agg #[.int .u8 3, .bool m, .int .u64 0, .int .i64 (-149)]) (by simp [results, Try.f39, go_sem, r0, r1, r2, r3]) rfl ?_
  exact ⟨by rw [HD.out], kB HB⟩
set_option maxRecDepth 100000 in
set_option maxHeartbeats 4000000 in
theorem rnd1b (m : Bool) (ao : Option Addr) (cap : Nat) (zs : List Nat) (P : Int) (nb X M : Nat) (K : Int) (w : World) (hl : zs.length ≤ 100) (hr : ReadsU w ao zs w.heap.size) (hW : Words zs) (hN : Norm zs) (hz : zs.length ≠ 0) (hnb : nbits (nv zs) = nb) (hnl : nb ≤ 4000) (hP : -5000 ≤ P) (hP2 : P ≤ 5000) (hA : ¬ P + nb - 24 < -149) (hK : P + nb - 24 = K) (hKP : K ≤ P) (hX : P - K = X) (hM : nv zs * 2 ^ X = M) (hMl : M < 18446744073709551616) :
    Calls Try.prog 39 #[.agg #[.int .i64 24, .int .i64 (-149), .int .i64 104], .bool m, .slice ao zs.length cap, .int .i64 P, .bool false] w fun e w' => e = .returned (hdV m M K) ∧ Below w.heap.size w w' := by
  have hz' : ((zs.length : Int) == 0) = false := by rw [beq_eq_false_iff_ne]; omega
  have sz := fun W hrW => size_any ao cap zs W (by omega) hrW hW hN
  rw [hnb] at sz
  have HM : Hid (nv zs * 2 ^ X = M) := hM
  have hX5 : X ≤ 10000 := by omega
  have hA' : (-149 : Int) ≤ K := by omega
  have HXw : Hid (IntKind.i64.wrap (P - K) = X) := by rw [Hid, IntKind.wrap_i64]; omega
  have HXw' : Hid (IntKind.i64.wrap (X : Int) = X) := by rw [Hid, IntKind.wrap_i64]; omega
  have HD : Hid (hdV m M K = .agg #[.int .u8 (vS K), .bool m, .int .u64 (vM M K), .int .i64 (vP K)]) := hdV_agg m M K
  have hr2 : ReadsU ((w.alloc ob).alloc oz) ao zs ((w.alloc ob).alloc oz).heap.size := RU hr (bel (bel (Below.refl _ _)))
  clear hM
  go_enter Try.func39, Try.ntmps39
  go_wp2
  go_quiet (((go_at_call 52); exact Calls.quiet_of_same (sz _ hr2)))
  go_wp2
  go_region_held3 (fun w' => w'.cell? ⟨w.heap.size, 0, none⟩ = some (.int .i64 24) ∧ w'.cell? ⟨w.heap.size, 1, none⟩ = some (.int .i64 (-149)) ∧ w'.cell? ⟨w.heap.size, 2, none⟩ = some (.int .i64 104)) ((first | ((try dsimp only); with_reducible refine kS ?_; (repeat (first | exact Below.refl _ _ | with_reducible refine bel ?_ | with_reducible refine Below.drew ?_ | with_reducible refine bt3 ?_ | with_reducible refine bt2 hb1 ?_ | with_reducible refine bt2 hb2 ?_)); done) | (refine kF ?_; (repeat (first | exact Below.refl _ _ | with_reducible refine bel ?_ | with_reducible refine Below.drew ?_ | with_reducible refine bt3 ?_ | with_reducible refine bt2 hb1 ?_ | with_reducible refine bt2 hb2 ?_)); done))) (first
    | (go_at_call 37; (first | rw [HXw.out] | rw [HXw'.out]); with_reducible refine (up_any ao cap zs X _ (by omega) (by omega) (RU hr2 (by (repeat (first | exact Below.refl _ _ | with_reducible refine bel ?_ | with_reducible refine Below.drew ?_ | with_reducible refine bt3 ?_ | with_reducible refine bt2 hb1 ?_ | with_reducible refine bt2 hb2 ?_)))) hW).mono ?_; rintro e w1 ⟨⟨v1, rfl, hv1⟩, hb1⟩; obtain ⟨ao1, cap1, zs1, rfl, hc1, hn1, hval1, hN1, hW1, hr1⟩ := hv1.dest)
    | (go_at_call 54; with_reducible refine (low_any ao1 cap1 zs1 _ (by have := small_len hN1 (hval1.trans HM.out) hMl; omega) (RU hr1 (by (repeat (first | exact Below.refl _ _ | with_reducible refine bel ?_ | with_reducible refine Below.drew ?_ | with_reducible refine bt3 ?_ | with_reducible refine bt2 hb1 ?_ | with_reducible refine bt2 hb2 ?_)))) hW1).mono ?_; rintro e wq ⟨rfl, hq⟩; rw [hval1, HM.out, Nat.mod_eq_of_lt hMl]; subst wq)
    | (go_at_call 53; with_reducible refine (held_any m M K _).mono ?_; rintro e w2 ⟨rfl, hb2⟩; rw [HD.out]; obtain ⟨r0, r1, r2, r3, q0, q1, q2, q3⟩ := kA (w := w) (W := w2) (by (repeat (first | exact Below.refl _ _ | with_reducible refine bel ?_ | with_reducible refine Below.drew ?_ | with_reducible refine bt3 ?_ | with_reducible refine bt2 hb1 ?_ | with_reducible refine bt2 hb2 ?_)))))
  go_wp2
  refine bodyPost_ret (v := .agg #[.int .u8 (vS K), .bool m, .int .u64 (vM M K), .int .i64 (vP K)]) (by simp [results, Try.f39, go_sem, r0, r1, r2, r3]) rfl ?_
  exact ⟨by rw [HD.out], kB (by (repeat (first | exact Below.refl _ _ | with_reducible refine bel ?_ | with_reducible refine Below.drew ?_ | with_reducible refine bt3 ?_ | with_reducible refine bt2 hb1 ?_ | with_reducible refine bt2 hb2 ?_)))⟩
end Go.Proofs.Ythaipahaaajgoaa
namespace Go.Proofs.Ythaipahaaajgoaa
open Go.RowKit

theorem len5 {zs5 zs : List Nat} (hN : Norm zs5) {R q2 : Nat} (h : nv zs5 = R) (hR : nv zs - q2 = R) (_ : q2 ≤ nv zs) (hW : Words zs) (hl : zs.length ≤ 100) : zs5.length ≤ 1000000 := by
  have := norm_len hN zs.length (by have := nv_lt hW; omega)
  omega
theorem held_lit (m : Bool) (p : Int) (w : World) : Calls Try.prog 53 #[.agg #[.int .i64 24, .int .i64 (-149), .int .i64 104], .bool m, .int .u64 8388608, .int .i64 p] w fun e w' => e = .returned (hdV m 8388608 p) ∧ Below w.heap.size w w' := held_any m 8388608 p w
theorem nat_1 (w : World) : Calls Try.prog 38 #[.int .u64 1] w fun e w' => (∃ v, e = .returned v ∧ NatV w' v 1) ∧ Below w.heap.size w w' := nat_any 1 w (by decide)
theorem len7 {zs7 : List Nat} (hN : Norm zs7) {half D : Nat} (h : nv zs7 = half) (hh : 2 ^ (D - 1) = half) (hD : D ≤ 4001) : zs7.length ≤ 1000000 := by
  have h1 : ∀ k, D - 1 < 32 * k → zs7.length ≤ k := fun k hk => norm_len hN k (by
    rw [h, ← hh, show (4294967296 : Nat) = 2 ^ 32 from rfl, ← Nat.pow_mul]
    exact Nat.pow_lt_pow_right (by decide) hk)
  have := h1 200 (by omega)
  omega
end Go.Proofs.Ythaipahaaajgoaa
namespace Go.Proofs.Ythaipahaaajgoaa
open Go.RowKit

set_option maxRecDepth 100000 in
set_option maxHeartbeats 4000000 in
theorem rnd3Ll (m : Bool) (ao : Option Addr) (cap : Nat) (zs : List Nat) (P : Int) (nb D q R half : Nat) (K : Int) (w : World) (hl : zs.length ≤ 100) (hr : ReadsU w ao zs w.heap.size) (hW : Words zs) (hN : Norm zs) (hz : zs.length ≠ 0) (hnb : nbits (nv zs) = nb) (hnl : nb ≤ 4000) (hP : -5000 ≤ P) (hP2 : P ≤ 5000) (hA : P + nb - 24 < -149) (hK : -149 = K) (hKP : P < K) (hX : K - P = D) (hD : D ≤ nb + 1) (hq : nv zs / 2 ^ D = q) (hql : q < 16777216) (hR : nv zs - q * 2 ^ D = R) (hh : 2 ^ (D - 1) = half) (hs : R < half)  :
    Calls Try.prog 39 #[.agg #[.int .i64 24, .int .i64 (-149), .int .i64 104], .bool m, .slice ao zs.length cap, .int .i64 P, .bool false] w fun e w' => e = .returned (hdV m q K) ∧ Below w.heap.size w w' := by
  have hz' : ((zs.length : Int) == 0) = false := by rw [beq_eq_false_iff_ne]; omega
  have sz := fun W hrW => size_any ao cap zs W (by omega) hrW hW hN
  rw [hnb] at sz
  have hql64 : q < 18446744073709551616 := by have := hql; omega
  have hD1 : 1 ≤ D := by omega
  have hDl : D ≤ 4001 := by omega
  have hqD : q * 2 ^ D ≤ nv zs := by rw [← hq]; exact Nat.div_mul_le_self _ _
  have hDI : (D : Int) ≤ (nb : Int) + 1 := by have := hD; omega
  have HQ : Hid (nv zs / 2 ^ D = q) := hq
  have HR : Hid (nv zs - q * 2 ^ D = R) := hR
  have HH : Hid (2 ^ (D - 1) = half) := hh
  have HQD : Hid (q * 2 ^ D ≤ nv zs) := hqD
  have HDw : Hid (IntKind.i64.wrap (D : Int) = D) := by rw [Hid, IntKind.wrap_i64]; omega
  have HAG : Hid (ag R half = -1) := by rw [Hid]; exact ag_lt hs
  have hD1' : (D : Int) - 1 = ((D - 1 : Nat) : Int) := by omega
  subst hK
  have hX' : -149 - P = (D : Int) := hX
  have ho' : ((q : Int) == 16777216) = false := by rw [beq_eq_false_iff_ne]; omega
  have HD : Hid (hdV m q (-149) = .agg #[.int .u8 (vS (-149)), .bool m, .int .u64 (vM q (-149)), .int .i64 (vP (-149))]) := hdV_agg m q (-149)
  have hr2 : ReadsU ((w.alloc ob).alloc oz) ao zs ((w.alloc ob).alloc oz).heap.size := RU hr (bel (bel (Below.refl _ _)))
  clear hq hR hh hqD hr
  go_enter Try.func39, Try.ntmps39
  go_wp2
  go_quiet (((go_at_call 52); exact Calls.quiet_of_same (sz _ hr2)))
  have HB : Below ((w.alloc ob).alloc oz).heap.size ((w.alloc ob).alloc oz) ((w.alloc ob).alloc oz) := Below.refl _ _
  have HB5 : True := trivial
  go_wp2_with (first
    | (go_at_call 52; with_reducible refine (sz _ (RU hr2 (by (repeat (first | exact HB | exact Below.refl _ _ | with_reducible refine bel ?_ | with_reducible refine Below.drew ?_ | with_reducible refine bt3 ?_))))).mono ?_; rintro e wq ⟨rfl, hq⟩; subst wq)
    | (go_at_call 55; with_reducible refine (down_any ao cap zs D _ (by omega) (by omega) (RU hr2 (by (repeat (first | exact HB | exact Below.refl _ _ | with_reducible refine bel ?_ | with_reducible refine Below.drew ?_ | with_reducible refine bt3 ?_)))) hW).mono ?_; rintro e w1 ⟨⟨v1, rfl, hv1⟩, hb1⟩; obtain ⟨ao1, cap1, zs1, rfl, hc1, hn1, hval1, hN1, hW1, hr1⟩ := hv1.dest; replace HB : Below ((w.alloc ob).alloc oz).heap.size ((w.alloc ob).alloc oz) w1 := bt2 hb1 (by (repeat (first | exact HB | exact Below.refl _ _ | with_reducible refine bel ?_ | with_reducible refine Below.drew ?_ | with_reducible refine bt3 ?_))); clear hb1 hv1; rw [HQ.out] at hval1)
    | (go_at_call 54; with_reducible refine (low_any ao1 cap1 zs1 _ (by have := small_len hN1 hval1 hql64; omega) (RU hr1 (by (repeat (first | exact Below.refl _ _ | with_reducible refine bel ?_ | with_reducible refine Below.drew ?_ | with_reducible refine bt3 ?_)))) hW1).mono ?_; rintro e wq ⟨rfl, hq⟩; rw [hval1, Nat.mod_eq_of_lt hql64]; subst wq; clear hval1 hN1 hW1 hr1 hc1 hn1)
    | (go_at_call 37; with_reducible refine (up_any ao1 cap1 zs1 D _ (by have := small_len hN1 hval1 hql64; omega) (by omega) (RU hr1 (by (repeat (first | exact Below.refl _ _ | with_reducible refine bel ?_ | with_reducible refine Below.drew ?_ | with_reducible refine bt3 ?_)))) hW1).mono ?_; rintro e w4 ⟨⟨v4, rfl, hv4⟩, hb4⟩; obtain ⟨ao4, cap4, zs4, rfl, hc4, hn4, hval4, hN4, hW4, hr4⟩ := hv4.dest; replace HB : Below ((w.alloc ob).alloc oz).heap.size ((w.alloc ob).alloc oz) w4 := bt2 hb4 (by (repeat (first | exact HB | exact Below.refl _ _ | with_reducible refine bel ?_ | with_reducible refine Below.drew ?_ | with_reducible refine bt3 ?_))); clear hb4 hv4; rw [hval1] at hval4)
    | (go_at_call 43; with_reducible refine (less_any ao ao4 cap cap4 zs zs4 _ (by omega) (norm_len hN4 _ (Nat.lt_of_le_of_lt (Nat.le_trans (Nat.le_of_eq hval4) HQD.out) (nv_lt hW))) (Nat.le_trans (Nat.le_of_eq hval4) HQD.out) (RU hr2 (by (repeat (first | exact HB | exact Below.refl _ _ | with_reducible refine bel ?_ | with_reducible refine Below.drew ?_ | with_reducible refine bt3 ?_)))) (RU hr4 (by (repeat (first | exact Below.refl _ _ | with_reducible refine bel ?_ | with_reducible refine Below.drew ?_ | with_reducible refine bt3 ?_)))) hW hW4).mono ?_; rintro e w5 ⟨⟨v5, rfl, hv5⟩, hb5⟩; obtain ⟨ao5, cap5, zs5, rfl, hc5, hn5, hval5, hN5, hW5, hr5⟩ := hv5.dest; replace HB : Below ((w.alloc ob).alloc oz).heap.size ((w.alloc ob).alloc oz) w5 := bt2 hb5 (by (repeat (first | exact HB | exact Below.refl _ _ | with_reducible refine bel ?_ | with_reducible refine Below.drew ?_ | with_reducible refine bt3 ?_))); clear hb5 hv5; rw [hval4, HR.out] at hval5; replace HB5 : Below w5.heap.size w5 w5 := Below.refl _ _)
    | (go_at_call 38; with_reducible refine (nat_1 _).mono ?_; rintro e w6 ⟨⟨v6, rfl, hv6⟩, hb6⟩; obtain ⟨ao6, cap6, zs6, rfl, hc6, hn6, hval6, hN6, hW6, hr6⟩ := hv6.dest; replace HB : Below ((w.alloc ob).alloc oz).heap.size ((w.alloc ob).alloc oz) w6 := bt2 hb6 (by (repeat (first | exact HB | exact Below.refl _ _ | with_reducible refine bel ?_ | with_reducible refine Below.drew ?_ | with_reducible refine bt3 ?_))); replace HB5 : Below w5.heap.size w5 w6 := bt2 hb6 (by (repeat (first | exact HB5 | exact Below.refl _ _ | with_reducible refine bel ?_ | with_reducible refine Below.drew ?_ | with_reducible refine bt3 ?_))); clear hb6 hv6)
    | (go_at_call 37; with_reducible refine (up_any ao6 cap6 zs6 (D - 1) _ (by have := small_len hN6 hval6 (by omega); omega) (by omega) (RU hr6 (by (repeat (first | exact Below.refl _ _ | with_reducible refine bel ?_ | with_reducible refine Below.drew ?_ | with_reducible refine bt3 ?_)))) hW6).mono ?_; rintro e w7 ⟨⟨v7, rfl, hv7⟩, hb7⟩; obtain ⟨ao7, cap7, zs7, rfl, hc7, hn7, hval7, hN7, hW7, hr7⟩ := hv7.dest; replace HB : Below ((w.alloc ob).alloc oz).heap.size ((w.alloc ob).alloc oz) w7 := bt2 hb7 (by (repeat (first | exact HB | exact Below.refl _ _ | with_reducible refine bel ?_ | with_reducible refine Below.drew ?_ | with_reducible refine bt3 ?_))); replace HB5 : Below w5.heap.size w5 w7 := bt2 hb7 (by (repeat (first | exact HB5 | exact Below.refl _ _ | with_reducible refine bel ?_ | with_reducible refine Below.drew ?_ | with_reducible refine bt3 ?_))); clear hb7 hv7; rw [hval6, Nat.one_mul, HH.out] at hval7)
    | (go_at_call 41; with_reducible refine (against_any ao5 ao7 cap5 cap7 zs5 zs7 _ (len5 hN5 hval5 HR.out HQD.out hW hl) (len7 hN7 hval7 HH.out hDl) (RU hr5 (by (repeat (first | exact HB5 | exact Below.refl _ _ | with_reducible refine bel ?_ | with_reducible refine Below.drew ?_ | with_reducible refine bt3 ?_)))) (RU hr7 (by (repeat (first | exact Below.refl _ _ | with_reducible refine bel ?_ | with_reducible refine Below.drew ?_ | with_reducible refine bt3 ?_)))) hW5 hW7 hN5 hN7).mono ?_; rintro e wq ⟨rfl, kq, hq⟩; subst wq; rw [hval5, hval7, HAG.out]; obtain ⟨f0, f1, f2⟩ := kF HB)
    | (go_at_call 53; with_reducible refine (held_any m q (-149) _).mono ?_; rintro e w9 ⟨rfl, hb9⟩; rw [HD.out]; replace HB : Below ((w.alloc ob).alloc oz).heap.size ((w.alloc ob).alloc oz) w9 := bt2 hb9 (by (repeat (first | exact HB | exact Below.refl _ _ | with_reducible refine bel ?_ | with_reducible refine Below.drew ?_ | with_reducible refine bt3 ?_))); obtain ⟨r0, r1, r2, r3, q0, q1, q2, q3⟩ := kA HB))
  refine bodyPost_ret (v := .agg #[.int .u8 (vS (-149)), .bool m, .int .u64 (vM q (-149)), .int .i64 (vP (-149))]) (by simp [results, Try.f39, go_sem, r0, r1, r2, r3]) rfl ?_
  exact ⟨by rw [HD.out], kB HB⟩
set_option maxRecDepth 100000 in
set_option maxHeartbeats 4000000 in
theorem rnd3Le (m : Bool) (ao : Option Addr) (cap : Nat) (zs : List Nat) (P : Int) (nb D q R half : Nat) (K : Int) (w : World) (hl : zs.length ≤ 100) (hr : ReadsU w ao zs w.heap.size) (hW : Words zs) (hN : Norm zs) (hz : zs.length ≠ 0) (hnb : nbits (nv zs) = nb) (hnl : nb ≤ 4000) (hP : -5000 ≤ P) (hP2 : P ≤ 5000) (hA : P + nb - 24 < -149) (hK : -149 = K) (hKP : P < K) (hX : K - P = D) (hD : D ≤ nb + 1) (hq : nv zs / 2 ^ D = q) (hql : q < 16777216) (hR : nv zs - q * 2 ^ D = R) (hh : 2 ^ (D - 1) = half) (hs : R = half) (hq2 : q % 2 = 0)  :
    Calls Try.prog 39 #[.agg #[.int .i64 24, .int .i64 (-149), .int .i64 104], .bool m, .slice ao zs.length cap, .int .i64 P, .bool false] w fun e w' => e = .returned (hdV m q K) ∧ Below w.heap.size w w' := by
  have hz' : ((zs.length : Int) == 0) = false := by rw [beq_eq_false_iff_ne]; omega
  have sz := fun W hrW => size_any ao cap zs W (by omega) hrW hW hN
  rw [hnb] at sz
  have hql64 : q < 18446744073709551616 := by have := hql; omega
  have hD1 : 1 ≤ D := by omega
  have hDl : D ≤ 4001 := by omega
  have hqD : q * 2 ^ D ≤ nv zs := by rw [← hq]; exact Nat.div_mul_le_self _ _
  have hDI : (D : Int) ≤ (nb : Int) + 1 := by have := hD; omega
  have HQ : Hid (nv zs / 2 ^ D = q) := hq
  have HR : Hid (nv zs - q * 2 ^ D = R) := hR
  have HH : Hid (2 ^ (D - 1) = half) := hh
  have HQD : Hid (q * 2 ^ D ≤ nv zs) := hqD
  have HDw : Hid (IntKind.i64.wrap (D : Int) = D) := by rw [Hid, IntKind.wrap_i64]; omega
  have HAG : Hid (ag R half = 0) := by rw [Hid]; rw [hs]; exact ag_eq _
  have hD1' : (D : Int) - 1 = ((D - 1 : Nat) : Int) := by omega
  subst hK
  have hX' : -149 - P = (D : Int) := hX
  have hq3 : ((q : Int) % 2 == 1) = false := by rw [beq_eq_false_iff_ne]; omega
  have ho' : ((q : Int) == 16777216) = false := by rw [beq_eq_false_iff_ne]; omega
  have HD : Hid (hdV m q (-149) = .agg #[.int .u8 (vS (-149)), .bool m, .int .u64 (vM q (-149)), .int .i64 (vP (-149))]) := hdV_agg m q (-149)
  have hr2 : ReadsU ((w.alloc ob).alloc oz) ao zs ((w.alloc ob).alloc oz).heap.size := RU hr (bel (bel (Below.refl _ _)))
  clear hq hR hh hqD hr
  go_enter Try.func39, Try.ntmps39
  go_wp2
  go_quiet (((go_at_call 52); exact Calls.quiet_of_same (sz _ hr2)))
  have HB : Below ((w.alloc ob).alloc oz).heap.size ((w.alloc ob).alloc oz) ((w.alloc ob).alloc oz) := Below.refl _ _
  have HB5 : True := trivial
  go_wp2_with (first
    | (go_at_call 52; with_reducible refine (sz _ (RU hr2 (by (repeat (first | exact HB | exact Below.refl _ _ | with_reducible refine bel ?_ | with_reducible refine Below.drew ?_ | with_reducible refine bt3 ?_))))).mono ?_; rintro e wq ⟨rfl, hq⟩; subst wq)
    | (go_at_call 55; with_reducible refine (down_any ao cap zs D _ (by omega) (by omega) (RU hr2 (by (repeat (first | exact HB | exact Below.refl _ _ | with_reducible refine bel ?_ | with_reducible refine Below.drew ?_ | with_reducible refine bt3 ?_)))) hW).mono ?_; rintro e w1 ⟨⟨v1, rfl, hv1⟩, hb1⟩; obtain ⟨ao1, cap1, zs1, rfl, hc1, hn1, hval1, hN1, hW1, hr1⟩ := hv1.dest; replace HB : Below ((w.alloc ob).alloc oz).heap.size ((w.alloc ob).alloc oz) w1 := bt2 hb1 (by (repeat (first | exact HB | exact Below.refl _ _ | with_reducible refine bel ?_ | with_reducible refine Below.drew ?_ | with_reducible refine bt3 ?_))); clear hb1 hv1; rw [HQ.out] at hval1)
    | (go_at_call 54; with_reducible refine (low_any ao1 cap1 zs1 _ (by have := small_len hN1 hval1 hql64; omega) (RU hr1 (by (repeat (first | exact Below.refl _ _ | with_reducible refine bel ?_ | with_reducible refine Below.drew ?_ | with_reducible refine bt3 ?_)))) hW1).mono ?_; rintro e wq ⟨rfl, hq⟩; rw [hval1, Nat.mod_eq_of_lt hql64]; subst wq; clear hval1 hN1 hW1 hr1 hc1 hn1)
    | (go_at_call 37; with_reducible refine (up_any ao1 cap1 zs1 D _ (by have := small_len hN1 hval1 hql64; omega) (by omega) (RU hr1 (by (repeat (first | exact Below.refl _ _ | with_reducible refine bel ?_ | with_reducible refine Below.drew ?_ | with_reducible refine bt3 ?_)))) hW1).mono ?_; rintro e w4 ⟨⟨v4, rfl, hv4⟩, hb4⟩; obtain ⟨ao4, cap4, zs4, rfl, hc4, hn4, hval4, hN4, hW4, hr4⟩ := hv4.dest; replace HB : Below ((w.alloc ob).alloc oz).heap.size ((w.alloc ob).alloc oz) w4 := bt2 hb4 (by (repeat (first | exact HB | exact Below.refl _ _ | with_reducible refine bel ?_ | with_reducible refine Below.drew ?_ | with_reducible refine bt3 ?_))); clear hb4 hv4; rw [hval1] at hval4)
    | (go_at_call 43; with_reducible refine (less_any ao ao4 cap cap4 zs zs4 _ (by omega) (norm_len hN4 _ (Nat.lt_of_le_of_lt (Nat.le_trans (Nat.le_of_eq hval4) HQD.out) (nv_lt hW))) (Nat.le_trans (Nat.le_of_eq hval4) HQD.out) (RU hr2 (by (repeat (first | exact HB | exact Below.refl _ _ | with_reducible refine bel ?_ | with_reducible refine Below.drew ?_ | with_reducible refine bt3 ?_)))) (RU hr4 (by (repeat (first | exact Below.refl _ _ | with_reducible refine bel ?_ | with_reducible refine Below.drew ?_ | with_reducible refine bt3 ?_)))) hW hW4).mono ?_; rintro e w5 ⟨⟨v5, rfl, hv5⟩, hb5⟩; obtain ⟨ao5, cap5, zs5, rfl, hc5, hn5, hval5, hN5, hW5, hr5⟩ := hv5.dest; replace HB : Below ((w.alloc ob).alloc oz).heap.size ((w.alloc ob).alloc oz) w5 := bt2 hb5 (by (repeat (first | exact HB | exact Below.refl _ _ | with_reducible refine bel ?_ | with_reducible refine Below.drew ?_ | with_reducible refine bt3 ?_))); clear hb5 hv5; rw [hval4, HR.out] at hval5; replace HB5 : Below w5.heap.size w5 w5 := Below.refl _ _)
    | (go_at_call 38; with_reducible refine (nat_1 _).mono ?_; rintro e w6 ⟨⟨v6, rfl, hv6⟩, hb6⟩; obtain ⟨ao6, cap6, zs6, rfl, hc6, hn6, hval6, hN6, hW6, hr6⟩ := hv6.dest; replace HB : Below ((w.alloc ob).alloc oz).heap.size ((w.alloc ob).alloc oz) w6 := bt2 hb6 (by (repeat (first | exact HB | exact Below.refl _ _ | with_reducible refine bel ?_ | with_reducible refine Below.drew ?_ | with_reducible refine bt3 ?_))); replace HB5 : Below w5.heap.size w5 w6 := bt2 hb6 (by (repeat (first | exact HB5 | exact Below.refl _ _ | with_reducible refine bel ?_ | with_reducible refine Below.drew ?_ | with_reducible refine bt3 ?_))); clear hb6 hv6)
    | (go_at_call 37; with_reducible refine (up_any ao6 cap6 zs6 (D - 1) _ (by have := small_len hN6 hval6 (by omega); omega) (by omega) (RU hr6 (by (repeat (first | exact Below.refl _ _ | with_reducible refine bel ?_ | with_reducible refine Below.drew ?_ | with_reducible refine bt3 ?_)))) hW6).mono ?_; rintro e w7 ⟨⟨v7, rfl, hv7⟩, hb7⟩; obtain ⟨ao7, cap7, zs7, rfl, hc7, hn7, hval7, hN7, hW7, hr7⟩ := hv7.dest; replace HB : Below ((w.alloc ob).alloc oz).heap.size ((w.alloc ob).alloc oz) w7 := bt2 hb7 (by (repeat (first | exact HB | exact Below.refl _ _ | with_reducible refine bel ?_ | with_reducible refine Below.drew ?_ | with_reducible refine bt3 ?_))); replace HB5 : Below w5.heap.size w5 w7 := bt2 hb7 (by (repeat (first | exact HB5 | exact Below.refl _ _ | with_reducible refine bel ?_ | with_reducible refine Below.drew ?_ | with_reducible refine bt3 ?_))); clear hb7 hv7; rw [hval6, Nat.one_mul, HH.out] at hval7)
    | (go_at_call 41; with_reducible refine (against_any ao5 ao7 cap5 cap7 zs5 zs7 _ (len5 hN5 hval5 HR.out HQD.out hW hl) (len7 hN7 hval7 HH.out hDl) (RU hr5 (by (repeat (first | exact HB5 | exact Below.refl _ _ | with_reducible refine bel ?_ | with_reducible refine Below.drew ?_ | with_reducible refine bt3 ?_)))) (RU hr7 (by (repeat (first | exact Below.refl _ _ | with_reducible refine bel ?_ | with_reducible refine Below.drew ?_ | with_reducible refine bt3 ?_)))) hW5 hW7 hN5 hN7).mono ?_; rintro e wq ⟨rfl, kq, hq⟩; subst wq; rw [hval5, hval7, HAG.out]; obtain ⟨f0, f1, f2⟩ := kF HB)
    | (go_at_call 53; with_reducible refine (held_any m q (-149) _).mono ?_; rintro e w9 ⟨rfl, hb9⟩; rw [HD.out]; replace HB : Below ((w.alloc ob).alloc oz).heap.size ((w.alloc ob).alloc oz) w9 := bt2 hb9 (by (repeat (first | exact HB | exact Below.refl _ _ | with_reducible refine bel ?_ | with_reducible refine Below.drew ?_ | with_reducible refine bt3 ?_))); obtain ⟨r0, r1, r2, r3, q0, q1, q2, q3⟩ := kA HB))
  refine bodyPost_ret (v := .agg #[.int .u8 (vS (-149)), .bool m, .int .u64 (vM q (-149)), .int .i64 (vP (-149))]) (by simp [results, Try.f39, go_sem, r0, r1, r2, r3]) rfl ?_
  exact ⟨by rw [HD.out], kB HB⟩
set_option maxRecDepth 100000 in
set_option maxHeartbeats 4000000 in
theorem rnd3Lg (m : Bool) (ao : Option Addr) (cap : Nat) (zs : List Nat) (P : Int) (nb D q R half : Nat) (K : Int) (w : World) (hl : zs.length ≤ 100) (hr : ReadsU w ao zs w.heap.size) (hW : Words zs) (hN : Norm zs) (hz : zs.length ≠ 0) (hnb : nbits (nv zs) = nb) (hnl : nb ≤ 4000) (hP : -5000 ≤ P) (hP2 : P ≤ 5000) (hA : P + nb - 24 < -149) (hK : -149 = K) (hKP : P < K) (hX : K - P = D) (hD : D ≤ nb + 1) (hq : nv zs / 2 ^ D = q) (hql : q < 16777216) (hR : nv zs - q * 2 ^ D = R) (hh : 2 ^ (D - 1) = half) (hs : half < R) (k1 : Nat) (hk1 : q + 1 = k1) (ho : k1 ≠ 16777216) :
    Calls Try.prog 39 #[.agg #[.int .i64 24, .int .i64 (-149), .int .i64 104], .bool m, .slice ao zs.length cap, .int .i64 P, .bool false] w fun e w' => e = .returned (hdV m k1 K) ∧ Below w.heap.size w w' := by
  have hz' : ((zs.length : Int) == 0) = false := by rw [beq_eq_false_iff_ne]; omega
  have sz := fun W hrW => size_any ao cap zs W (by omega) hrW hW hN
  rw [hnb] at sz
  have hql64 : q < 18446744073709551616 := by have := hql; omega
  have hD1 : 1 ≤ D := by omega
  have hDl : D ≤ 4001 := by omega
  have hqD : q * 2 ^ D ≤ nv zs := by rw [← hq]; exact Nat.div_mul_le_self _ _
  have hDI : (D : Int) ≤ (nb : Int) + 1 := by have := hD; omega
  have HQ : Hid (nv zs / 2 ^ D = q) := hq
  have HR : Hid (nv zs - q * 2 ^ D = R) := hR
  have HH : Hid (2 ^ (D - 1) = half) := hh
  have HQD : Hid (q * 2 ^ D ≤ nv zs) := hqD
  have HDw : Hid (IntKind.i64.wrap (D : Int) = D) := by rw [Hid, IntKind.wrap_i64]; omega
  have HAG : Hid (ag R half = 1) := by rw [Hid]; exact ag_gt hs
  have hD1' : (D : Int) - 1 = ((D - 1 : Nat) : Int) := by omega
  subst hK
  have hX' : -149 - P = (D : Int) := hX
  have hk1' : (q : Int) + 1 = (k1 : Int) := by omega
  have ho' : ((k1 : Int) == 16777216) = false := by rw [beq_eq_false_iff_ne]; omega
  have HD : Hid (hdV m k1 (-149) = .agg #[.int .u8 (vS (-149)), .bool m, .int .u64 (vM k1 (-149)), .int .i64 (vP (-149))]) := hdV_agg m k1 (-149)
  have hr2 : ReadsU ((w.alloc ob).alloc oz) ao zs ((w.alloc ob).alloc oz).heap.size := RU hr (bel (bel (Below.refl _ _)))
  clear hq hR hh hqD hr
  go_enter Try.func39, Try.ntmps39
  go_wp2
  go_quiet (((go_at_call 52); exact Calls.quiet_of_same (sz _ hr2)))
  have HB : Below ((w.alloc ob).alloc oz).heap.size ((w.alloc ob).alloc oz) ((w.alloc ob).alloc oz) := Below.refl _ _
  have HB5 : True := trivial
  go_wp2_with (first
    | (go_at_call 52; with_reducible refine (sz _ (RU hr2 (by (repeat (first | exact HB | exact Below.refl _ _ | with_reducible refine bel ?_ | with_reducible refine Below.drew ?_ | with_reducible refine bt3 ?_))))).mono ?_; rintro e wq ⟨rfl, hq⟩; subst wq)
    | (go_at_call 55; with_reducible refine (down_any ao cap zs D _ (by omega) (by omega) (RU hr2 (by (repeat (first | exact HB | exact Below.refl _ _ | with_reducible refine bel ?_ | with_reducible refine Below.drew ?_ | with_reducible refine bt3 ?_)))) hW).mono ?_; rintro e w1 ⟨⟨v1, rfl, hv1⟩, hb1⟩; obtain ⟨ao1, cap1, zs1, rfl, hc1, hn1, hval1, hN1, hW1, hr1⟩ := hv1.dest; replace HB : Below ((w.alloc ob).alloc oz).heap.size ((w.alloc ob).alloc oz) w1 := bt2 hb1 (by (repeat (first | exact HB | exact Below.refl _ _ | with_reducible refine bel ?_ | with_reducible refine Below.drew ?_ | with_reducible refine bt3 ?_))); clear hb1 hv1; rw [HQ.out] at hval1)
    | (go_at_call 54; with_reducible refine (low_any ao1 cap1 zs1 _ (by have := small_len hN1 hval1 hql64; omega) (RU hr1 (by (repeat (first | exact Below.refl _ _ | with_reducible refine bel ?_ | with_reducible refine Below.drew ?_ | with_reducible refine bt3 ?_)))) hW1).mono ?_; rintro e wq ⟨rfl, hq⟩; rw [hval1, Nat.mod_eq_of_lt hql64]; subst wq; clear hval1 hN1 hW1 hr1 hc1 hn1)
    | (go_at_call 37; with_reducible refine (up_any ao1 cap1 zs1 D _ (by have := small_len hN1 hval1 hql64; omega) (by omega) (RU hr1 (by (repeat (first | exact Below.refl _ _ | with_reducible refine bel ?_ | with_reducible refine Below.drew ?_ | with_reducible refine bt3 ?_)))) hW1).mono ?_; rintro e w4 ⟨⟨v4, rfl, hv4⟩, hb4⟩; obtain ⟨ao4, cap4, zs4, rfl, hc4, hn4, hval4, hN4, hW4, hr4⟩ := hv4.dest; replace HB : Below ((w.alloc ob).alloc oz).heap.size ((w.alloc ob).alloc oz) w4 := bt2 hb4 (by (repeat (first | exact HB | exact Below.refl _ _ | with_reducible refine bel ?_ | with_reducible refine Below.drew ?_ | with_reducible refine bt3 ?_))); clear hb4 hv4; rw [hval1] at hval4)
    | (go_at_call 43; with_reducible refine (less_any ao ao4 cap cap4 zs zs4 _ (by omega) (norm_len hN4 _ (Nat.lt_of_le_of_lt (Nat.le_trans (Nat.le_of_eq hval4) HQD.out) (nv_lt hW))) (Nat.le_trans (Nat.le_of_eq hval4) HQD.out) (RU hr2 (by (repeat (first | exact HB | exact Below.refl _ _ | with_reducible refine bel ?_ | with_reducible refine Below.drew ?_ | with_reducible refine bt3 ?_)))) (RU hr4 (by (repeat (first | exact Below.refl _ _ | with_reducible refine bel ?_ | with_reducible refine Below.drew ?_ | with_reducible refine bt3 ?_)))) hW hW4).mono ?_; rintro e w5 ⟨⟨v5, rfl, hv5⟩, hb5⟩; obtain ⟨ao5, cap5, zs5, rfl, hc5, hn5, hval5, hN5, hW5, hr5⟩ := hv5.dest; replace HB : Below ((w.alloc ob).alloc oz).heap.size ((w.alloc ob).alloc oz) w5 := bt2 hb5 (by (repeat (first | exact HB | exact Below.refl _ _ | with_reducible refine bel ?_ | with_reducible refine Below.drew ?_ | with_reducible refine bt3 ?_))); clear hb5 hv5; rw [hval4, HR.out] at hval5; replace HB5 : Below w5.heap.size w5 w5 := Below.refl _ _)
    | (go_at_call 38; with_reducible refine (nat_1 _).mono ?_; rintro e w6 ⟨⟨v6, rfl, hv6⟩, hb6⟩; obtain ⟨ao6, cap6, zs6, rfl, hc6, hn6, hval6, hN6, hW6, hr6⟩ := hv6.dest; replace HB : Below ((w.alloc ob).alloc oz).heap.size ((w.alloc ob).alloc oz) w6 := bt2 hb6 (by (repeat (first | exact HB | exact Below.refl _ _ | with_reducible refine bel ?_ | with_reducible refine Below.drew ?_ | with_reducible refine bt3 ?_))); replace HB5 : Below w5.heap.size w5 w6 := bt2 hb6 (by (repeat (first | exact HB5 | exact Below.refl _ _ | with_reducible refine bel ?_ | with_reducible refine Below.drew ?_ | with_reducible refine bt3 ?_))); clear hb6 hv6)
    | (go_at_call 37; with_reducible refine (up_any ao6 cap6 zs6 (D - 1) _ (by have := small_len hN6 hval6 (by omega); omega) (by omega) (RU hr6 (by (repeat (first | exact Below.refl _ _ | with_reducible refine bel ?_ | with_reducible refine Below.drew ?_ | with_reducible refine bt3 ?_)))) hW6).mono ?_; rintro e w7 ⟨⟨v7, rfl, hv7⟩, hb7⟩; obtain ⟨ao7, cap7, zs7, rfl, hc7, hn7, hval7, hN7, hW7, hr7⟩ := hv7.dest; replace HB : Below ((w.alloc ob).alloc oz).heap.size ((w.alloc ob).alloc oz) w7 := bt2 hb7 (by (repeat (first | exact HB | exact Below.refl _ _ | with_reducible refine bel ?_ | with_reducible refine Below.drew ?_ | with_reducible refine bt3 ?_))); replace HB5 : Below w5.heap.size w5 w7 := bt2 hb7 (by (repeat (first | exact HB5 | exact Below.refl _ _ | with_reducible refine bel ?_ | with_reducible refine Below.drew ?_ | with_reducible refine bt3 ?_))); clear hb7 hv7; rw [hval6, Nat.one_mul, HH.out] at hval7)
    | (go_at_call 41; with_reducible refine (against_any ao5 ao7 cap5 cap7 zs5 zs7 _ (len5 hN5 hval5 HR.out HQD.out hW hl) (len7 hN7 hval7 HH.out hDl) (RU hr5 (by (repeat (first | exact HB5 | exact Below.refl _ _ | with_reducible refine bel ?_ | with_reducible refine Below.drew ?_ | with_reducible refine bt3 ?_)))) (RU hr7 (by (repeat (first | exact Below.refl _ _ | with_reducible refine bel ?_ | with_reducible refine Below.drew ?_ | with_reducible refine bt3 ?_)))) hW5 hW7 hN5 hN7).mono ?_; rintro e wq ⟨rfl, kq, hq⟩; subst wq; rw [hval5, hval7, HAG.out]; obtain ⟨f0, f1, f2⟩ := kF HB)
    | (go_at_call 53; with_reducible refine (held_any m k1 (-149) _).mono ?_; rintro e w9 ⟨rfl, hb9⟩; rw [HD.out]; replace HB : Below ((w.alloc ob).alloc oz).heap.size ((w.alloc ob).alloc oz) w9 := bt2 hb9 (by (repeat (first | exact HB | exact Below.refl _ _ | with_reducible refine bel ?_ | with_reducible refine Below.drew ?_ | with_reducible refine bt3 ?_))); obtain ⟨r0, r1, r2, r3, q0, q1, q2, q3⟩ := kA HB))
  refine bodyPost_ret (v := .agg #[.int .u8 (vS (-149)), .bool m, .int .u64 (vM k1 (-149)), .int .i64 (vP (-149))]) (by simp [results, Try.f39, go_sem, r0, r1, r2, r3]) rfl ?_
  exact ⟨by rw [HD.out], kB HB⟩
end Go.Proofs.Ythaipahaaajgoaa
