import Derived.Test.YtacfiecobdbjaaaLRefN
import Derived.Test.YtacfiecobdbjaaaLOver
namespace Go.Proofs.Ytacfiecobdbjaaa
open Go.RowKit

theorem nb_get (w : Nat) : ∀ (x : Int) (j : Nat), j < w → (nb w x).getD j 0 = x / 256 ^ j % 256 := by
  induction w with
  | zero => intro x j h; omega
  | succ w ih =>
    intro x j h
    rw [show nb (w + 1) x = x % 256 :: nb w (x / 256) from rfl]
    cases j with
    | zero => simp
    | succ j =>
      rw [List.getD_cons_succ, ih _ _ (by omega), Int.ediv_ediv_of_nonneg (by decide), Int.mul_comm, ← pow256]
theorem wth_in (w : Nat) (zs : List Int) (p k : Nat) (x : Int) (h : p + w ≤ zs.length) (h1 : p ≤ k) (h2 : k < p + w) : (wth w zs p x).getD k 0 = x / 256 ^ (k - p) % 256 := by
  have hl : (zs.take p).length = p := by simp; omega
  rw [← nb_get w x (k - p) (by omega), wth]
  simp only [List.getD]
  rw [List.getElem?_append_right (by omega), hl, List.getElem?_append_left (by rw [nb_len]; omega)]
theorem wth_out (w : Nat) (zs : List Int) (p k : Nat) (x : Int) (h : p + w ≤ zs.length) (h1 : ¬ (p ≤ k ∧ k < p + w)) : (wth w zs p x).getD k 0 = zs.getD k 0 := by
  have hl : (zs.take p).length = p := by simp; omega
  simp only [wth, List.getD]
  by_cases hk : k < p
  · rw [List.getElem?_append_left (by omega), List.getElem?_take, if_pos hk]
  · rw [List.getElem?_append_right (by omega), hl, List.getElem?_append_right (by rw [nb_len]; omega), nb_len, List.getElem?_drop]
    congr 2; omega

set_option maxRecDepth 100000 in
set_option maxHeartbeats 2000000 in
theorem rwith_any (w : Nat) (hw1 : 1 ≤ w) (hw8 : w ≤ 8) (ao : Option Addr) (n cap : Nat) (zs : List Int) (at_ x : Int) (W : World) (hz : zs.length = n) (hn : n ≤ 16777216) (hr : Reads W ao zs W.heap.size) (x0 : 0 ≤ x) (x1 : x < 18446744073709551616) (hin : 0 ≤ at_ ∧ at_ + w ≤ (n : Int)) :
    Calls Try.prog 14 #[.int .i64 w, .slice ao n cap, .int .i64 at_, .int .u64 x] W fun e w' => ∃ v, e = .returned (.tuple #[v, .int .i64 0]) ∧ w'.ownsRow W.heap.size 5 1 v n (bv (wth w zs at_.toNat x)) ∧ Below W.heap.size W w' := by
  obtain ⟨i0, hi, hz0, hz1, hz2⟩ := info_parts Try.info5
  obtain ⟨h0, h1⟩ := hin
  obtain ⟨p, rfl⟩ := Int.eq_ofNat_of_zero_le h0
  rw [Int.toNat_natCast]
  have hpl : p + w ≤ zs.length := by omega
  have hwl := wth_len w zs p x hpl
  have HWI : Hid (∀ k, p ≤ k → k < p + w → (wth w zs p x).getD k 0 = x / 256 ^ (k - p) % 256) := fun k => wth_in w zs p k x hpl
  have HWO : Hid (∀ k, ¬ (p ≤ k ∧ k < p + w) → (wth w zs p x).getD k 0 = zs.getD k 0) := fun k => wth_out w zs p k x hpl
  rw [hz] at hwl
  have HN : Hid (zs.length = n) := hz
  have HWL : Hid ((wth w zs p x).length = n) := hwl
  clear hz hwl hpl
  generalize wth w zs p x = ZS at HWI HWO HWL
  have d0 : decide ((p : Int) < 0) = false := by simp
  have d1 : decide ((n : Int) - (w : Int) < (p : Int)) = false := by simp; omega
  go_enter Try.func14, Try.ntmps14
  go_wp2_with fail
  go_loopw [3, 10, 11] (fun xv v i wr => ∃ (k : Nat) (y : Int), k ≤ n ∧ i = .int .i64 k ∧ xv = .int .u64 y ∧ y = x / 256 ^ (min (k - p) w) ∧ 0 ≤ y ∧ y < 18446744073709551616 ∧ wr.ownsRow W.heap.size 5 1 v k (bv (ZS.take k)) ∧ Below W.heap.size W wr)
    (fun _ _ i _ => n - (intOf i).toNat)
  case atStart => exact ⟨0, x, Nat.zero_le _, rfl, rfl, by simp, x0, x1, World.ownsRow_nil _ _ _ _, Below.refl _ _⟩
  case round =>
    clear d0 d1
    obtain ⟨k, y, hk, rfl, rfl, hy, y0, y1, hown, hb⟩ := hrel
    have HY : Hid (y = x / 256 ^ (min (k - p) w)) := hy
    clear hy
    have hB := hb.size
    by_cases hlt : k < n
    · have hkI : (k : Int) < (n : Int) := by omega
      have hts := take_snoc ZS k (by rw [HWL.out]; exact hlt)
      by_cases hin : p ≤ k ∧ k < p + w
      · have hg := HWI.out k hin.1 hin.2
        rw [hg] at hts
        have HYm : Hid (y = x / 256 ^ (k - p)) := by rw [HY.out, Nat.min_eq_left (by omega)]; exact rfl
        have HS : Hid (ZS.take (k + 1) = ZS.take k ++ [y % 256]) := by rw [HYm.out]; exact hts
        have HY2 : Hid (y / 256 = x / 256 ^ (min (k + 1 - p) w)) := by rw [HYm.out, div_pow, Nat.min_eq_left (by omega), show k + 1 - p = k - p + 1 by omega]; exact rfl
        have g1 : decide ((p : Int) ≤ (k : Int)) = true := by simp; omega
        have g2 : decide ((k : Int) < (p : Int) + (w : Int)) = true := by simp; omega
        have g1' : (p : Int) ≤ (k : Int) := by omega
        have g2' : (k : Int) < (p : Int) + (w : Int) := by omega
        clear hts hg hin HY HYm
        go_wp2_with (at_builtin; refine wpList_append_own _ rfl _ _ 26 rfl W.heap.size 5 i0 (.int .u8 0) 1 1 Try.underlying26 hi hz0 hz1 hz2 rfl (by decide) _ _ _ rfl (hown.alloc _) ⟨_, 0, none⟩ 1 1 [.int .u8 (y % 256)] rfl rfl ?d1 ?d2 ?d3 ?d4 ?d5 ?_)
        case d1 =>
          intro j u hj
          match j, hj with
          | 0, hj => simp at hj; subst hj; simp [Addr.add]
        case d2 => intro u hu; simp at hu; subst hu; rfl
        case d3 => unfold maxLen; omega
        case d4 => omega
        case d5 => simp; omega
        intro v' w2 hown' hgrow _
        have R1 := own_snoc HS.out hown'
        have R2 := grown_below hb hB hown hgrow
        clear hown' hgrow hown
        go_wp2_with fail
        go_roundw
        case rel => exact ⟨k + 1, y / 256, by omega, by go_num, rfl, HY2.out, by omega, by omega, R1, R2⟩
        case measure => simp [intOf]; omega
      · have hg := HWO.out k hin
        rw [hg] at hts
        obtain ⟨b, off, rfl, hbl, hc⟩ := (hr.below hb) (by rw [HN.out]; omega)
        have hck := hc k (by rw [HN.out]; exact hlt)
        clear hc
        generalize zs.getD k 0 = c at hck hts
        have HS : Hid (ZS.take (k + 1) = ZS.take k ++ [c]) := hts
        have HY2 : Hid (y = x / 256 ^ (min (k + 1 - p) w)) := by
          rw [HY.out]
          have : min (k - p) w = min (k + 1 - p) w := by omega
          rw [this]; exact rfl
        clear hts hg HY
        by_cases hpk : p ≤ k
        · have g1 : decide ((p : Int) ≤ (k : Int)) = true := by simp; omega
          have g2 : decide ((k : Int) < (p : Int) + (w : Int)) = false := by simp; omega
          have g1' : (p : Int) ≤ (k : Int) := by omega
          have g2' : ¬ (k : Int) < (p : Int) + (w : Int) := by omega
          clear hin
          go_wp2_with (at_builtin; refine wpList_append_own _ rfl _ _ 26 rfl W.heap.size 5 i0 (.int .u8 0) 1 1 Try.underlying26 hi hz0 hz1 hz2 rfl (by decide) _ _ _ rfl (hown.alloc _) ⟨_, 0, none⟩ 1 1 [.int .u8 c] rfl rfl ?e1 ?e2 ?e3 ?e4 ?e5 ?_)
          case e2 => first | (intro u hu; simp at hu; subst hu; rfl) | rfl | simp
          case e3 => unfold maxLen; omega
          case e4 => omega
          case e5 => first | omega | (simp; omega)
          intro v' w2 hown' hgrow _
          have R1 := own_snoc HS.out hown'
          have R2 := grown_below hb hB hown hgrow
          clear hown' hgrow hown
          go_wp2_with fail
          go_roundw
          case rel => exact ⟨k + 1, y, by omega, by go_num, rfl, HY2.out, y0, y1, R1, R2⟩
          case measure => simp [intOf]; omega
        · have g1 : decide ((p : Int) ≤ (k : Int)) = false := by simp; omega
          have g1' : ¬ (p : Int) ≤ (k : Int) := by omega
          clear hin
          go_wp2_with (at_builtin; refine wpList_append_own _ rfl _ _ 26 rfl W.heap.size 5 i0 (.int .u8 0) 1 1 Try.underlying26 hi hz0 hz1 hz2 rfl (by decide) _ _ _ rfl (hown.alloc _) ⟨_, 0, none⟩ 1 1 [.int .u8 c] rfl rfl ?f1 ?f2 ?f3 ?f4 ?f5 ?_)
          case f2 => first | (intro u hu; simp at hu; subst hu; rfl) | rfl | simp
          case f3 => unfold maxLen; omega
          case f4 => omega
          case f5 => first | omega | (simp; omega)
          intro v' w2 hown' hgrow _
          have R1 := own_snoc HS.out hown'
          have R2 := grown_below hb hB hown hgrow
          clear hown' hgrow hown
          go_wp2_with fail
          go_roundw
          case rel => exact ⟨k + 1, y, by omega, by go_num, rfl, HY2.out, y0, y1, R1, R2⟩
          case measure => simp [intOf]; omega
    · obtain rfl : k = n := by omega
      have hkI : ¬ (k : Int) < (k : Int) := by omega
      rw [List.take_of_length_le (by rw [HWL.out]; exact Nat.le_refl _)] at hown
      go_wp2_with fail
      go_ret2
      exact ⟨_, rfl, hown, hb⟩
theorem rwithE_any (w : Nat) (hw8 : w ≤ 8) (ao : Option Addr) (n cap : Nat) (at_ x : Int) (W : World) (hn : n ≤ 16777216) (_ : -9223372036854775808 ≤ at_) (_ : at_ ≤ 9223372036854775807) (hin : ¬ (0 ≤ at_ ∧ at_ + w ≤ (n : Int))) :
    Calls Try.prog 14 #[.int .i64 w, .slice ao n cap, .int .i64 at_, .int .u64 x] W fun e w' => e = .returned (.tuple #[.slice none 0 0, .int .i64 20]) ∧ w' = W := by
  by_cases h0 : 0 ≤ at_
  · have d0 : decide (at_ < 0) = false := by simp; omega
    have d1 : decide ((n : Int) - (w : Int) < at_) = true := by simp; omega
    clear hin
    go_enter Try.func14, Try.ntmps14
    go_wp2_with fail
    go_ret2
    exact ⟨rfl, rfl⟩
  · have d0 : decide (at_ < 0) = true := by simp; omega
    clear hin
    go_enter Try.func14, Try.ntmps14
    go_wp2_with fail
    go_ret2
    exact ⟨rfl, rfl⟩
end Go.Proofs.Ytacfiecobdbjaaa
