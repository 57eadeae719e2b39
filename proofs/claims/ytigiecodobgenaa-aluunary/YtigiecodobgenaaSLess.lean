import Derived.Test.YtigiecodobgenaaSPlus
namespace Go.Proofs.Ytigiecodobgenaa
open Go.RowKit

theorem less_end {zs ys L : List Nat} {k cr : Nat} (hk : k = zs.length) (hl2 : ys.length ≤ zs.length) (hle : nv ys ≤ nv zs) (hcr : cr ≤ 1) (hLl : L.length = k) (hLW : Words L) (hval : nv L + nv (ys.take k) = nv (zs.take k) + 4294967296 ^ k * cr) : nv L = nv zs - nv ys := by
  have h1 := nv_lt hLW
  rw [hLl] at h1
  rw [List.take_of_length_le (by rw [hk]; exact hl2), List.take_of_length_le (Nat.le_of_eq hk.symm)] at hval
  generalize 4294967296 ^ k = P at hval h1
  rcases (show cr = 0 ∨ cr = 1 by omega) with h | h
  · subst h; omega
  · subst h; omega
set_option maxRecDepth 100000 in
set_option maxHeartbeats 4000000 in
theorem less_any (ao bo : Option Addr) (ca cb : Nat) (zs ys : List Nat) (w : World) (hl : zs.length ≤ 1000) (hl2 : ys.length ≤ zs.length) (hle : nv ys ≤ nv zs) (hr : ReadsU w ao zs w.heap.size) (hr2 : ReadsU w bo ys w.heap.size) (hW : Words zs) (hW2 : Words ys) :
    Calls Try.prog 48 #[.slice ao zs.length ca, .slice bo ys.length cb] w fun e w' => (∃ v, e = .returned v ∧ NatV w' v (nv zs - nv ys)) ∧ Below w.heap.size w w' := by
  obtain ⟨i0, hi, hz0, hz1, hz2⟩ := info_parts Try.infoU
  go_enter Try.func48, Try.ntmps48
  go_wp2
  go_loopw [5, 6, 7] (fun v c i wr => ∃ k cr : Nat, ∃ L : List Nat, k ≤ zs.length ∧ i = .int .i64 k ∧ c = .int .u64 (cr : Int) ∧ cr ≤ 1 ∧ L.length = k ∧ Words L ∧ nv L + nv (ys.take k) = nv (zs.take k) + 4294967296 ^ k * cr ∧ wr.ownsRow w.heap.size 22 1 v k (uk L) ∧ Below w.heap.size w wr)
    (fun _ _ i _ => zs.length - (intOf i).toNat)
  case atStart => exact ⟨0, 0, [], Nat.zero_le _, rfl, rfl, by decide, rfl, (fun z hz => by simp at hz), by simp [nv], World.ownsRow_nil _ _ _ _, Below.refl _ _⟩
  case round =>
    obtain ⟨k, cr, L, hk, rfl, rfl, hcr, hLl, hLW, hval, hown, hb⟩ := hrel
    have hB := hb.size
    have st1 := take_step zs k
    have st2 := take_step ys k
    have zw := words_get hW k
    have yw := words_get hW2 k
    have key : ∀ z y lo hh : Nat, zs.getD k 0 = z → ys.getD k 0 = y → lo + cr + y = z + 4294967296 * hh → lo < 4294967296 → Words (L ++ [lo]) ∧ (L ++ [lo]).length = k + 1 ∧ nv (L ++ [lo]) + nv (ys.take (k + 1)) = nv (zs.take (k + 1)) + 4294967296 ^ (k + 1) * hh := by
      intro z y lo hh e1 e2 e3 e4
      rw [e1] at st1 zw
      rw [e2] at st2 yw
      refine ⟨?_, by simp [hLl], ?_⟩
      · intro u hu
        rcases List.mem_append.1 hu with h | h
        · exact hLW u h
        · simp at h; omega
      · rw [st1, st2, nv_append, hLl, Nat.pow_succ, Nat.mul_assoc, show nv [lo] = lo by simp [nv]]
        have h7 : 4294967296 ^ k * (lo + cr + y) = 4294967296 ^ k * z + 4294967296 ^ k * (4294967296 * hh) := by rw [e3, Nat.mul_add]
        rw [Nat.mul_add, Nat.mul_add] at h7
        omega
    by_cases h1 : k < zs.length
    · obtain ⟨z, hz⟩ : ∃ z, zs.getD k 0 = z := ⟨_, rfl⟩
      obtain ⟨y, hy⟩ : ∃ y, ys.getD k 0 = y := ⟨_, rfl⟩
      rw [hz] at zw
      rw [hy] at yw
      obtain ⟨Y, hY⟩ : ∃ Y, Y = cr + y := ⟨_, rfl⟩
      obtain ⟨b1, off1, rfl, hbl1, hc1⟩ := (hr.below hb) (by omega)
      have hck1 := hc1 k h1
      rw [hz] at hck1
      have hi1 : (k : Int) < (zs.length : Int) := by omega
      clear hc1
      have hkb : k ≤ 1000 := by omega
      have hYb : Y < 18446744073709551616 := by omega
      have hzb : z < 18446744073709551616 := by omega
      by_cases h2 : k < ys.length
      · by_cases h3 : z < Y
        · obtain ⟨b2, off2, rfl, hbl2, hc2⟩ := (hr2.below hb) (by omega)
          have hck2 := hc2 k h2
          rw [hy] at hck2
          have hi2 : (k : Int) < (ys.length : Int) := by omega
          clear hc2
          have e1 : (cr : Int) + (y : Int) = (Y : Int) := by omega
          obtain ⟨X, hX⟩ : ∃ X, X = z + 4294967296 := ⟨_, rfl⟩
          have hXb : X < 18446744073709551616 := by omega
          obtain ⟨lo, hlo⟩ : ∃ lo, lo = X - Y := ⟨_, rfl⟩
          have HK : Hid _ := key z y lo 1 hz hy (by omega) (by omega)
          have hh1 : (z : Int) < (Y : Int) := by omega
          have e2 : (z : Int) + 4294967296 = (X : Int) := by omega
          have e3 : (X : Int) - (Y : Int) = (lo : Int) := by omega
          have e4 : (Y : Int) ≤ (X : Int) := by omega
          have hlob : lo < 4294967296 := by omega
          have e2' : IntKind.u32.wrap (lo : Int) = (lo : Int) := by rw [IntKind.wrap_u32']; omega
          clear hX
          clear hY
          clear key st1 st2 hval hLW hLl hlo hz hy hle
          go_wp2_with (at_builtin; refine wpList_append_own _ rfl _ _ 61 rfl w.heap.size 22 i0 (.int .u32 0) 1 4 Try.underlying61 hi hz0 hz1 hz2 rfl (by decide) _ _ _ rfl (hown.alloc _) ⟨_, 0, none⟩ 1 1 [.int .u32 (lo : Int)] rfl rfl ?c1 ?c2 ?c3 ?c4 ?c5 ?_)
          all_goals first
            | (intro j u hj
               match j, hj with
               | 0, hj => simp at hj; subst hj; simp [Addr.add]; done)
            | (show Value.oneCell' _ = true; rfl)
            | (intro u hu; simp at hu; subst hu; rfl)
            | (unfold maxLen; omega)
            | omega
            | (simp; omega)
            | skip
          intro v' w1 hown' hgrow _
          have R1 : w1.ownsRow w.heap.size 22 1 v' (k + 1) (uk (L ++ [lo])) := own_snocU hown'
          have R2 := grown_belowU hb hB hown hgrow
          clear hown' hgrow hown
          go_wp2
          go_roundw
          case rel => exact ⟨k + 1, 1, L ++ [lo], by omega, by go_num, rfl, by decide, HK.out.2.1, HK.out.1, HK.out.2.2, R1, R2⟩
          case measure => simp [intOf]; omega
        · obtain ⟨b2, off2, rfl, hbl2, hc2⟩ := (hr2.below hb) (by omega)
          have hck2 := hc2 k h2
          rw [hy] at hck2
          have hi2 : (k : Int) < (ys.length : Int) := by omega
          clear hc2
          have e1 : (cr : Int) + (y : Int) = (Y : Int) := by omega
          obtain ⟨lo, hlo⟩ : ∃ lo, lo = z - Y := ⟨_, rfl⟩
          have HK : Hid _ := key z y lo 0 hz hy (by omega) (by omega)
          have hh1 : decide ((z : Int) < (Y : Int)) = false := decide_eq_false (by omega)
          have e3 : (z : Int) - (Y : Int) = (lo : Int) := by omega
          have e4 : (Y : Int) ≤ (z : Int) := by omega
          have hlob : lo < 4294967296 := by omega
          have e2' : IntKind.u32.wrap (lo : Int) = (lo : Int) := by rw [IntKind.wrap_u32']; omega
          clear hY
          clear key st1 st2 hval hLW hLl hlo hz hy hle
          go_wp2_with (at_builtin; refine wpList_append_own _ rfl _ _ 61 rfl w.heap.size 22 i0 (.int .u32 0) 1 4 Try.underlying61 hi hz0 hz1 hz2 rfl (by decide) _ _ _ rfl (hown.alloc _) ⟨_, 0, none⟩ 1 1 [.int .u32 (lo : Int)] rfl rfl ?p1 ?p2 ?p3 ?p4 ?p5 ?_)
          all_goals first
            | (intro j u hj
               match j, hj with
               | 0, hj => simp at hj; subst hj; simp [Addr.add]; done)
            | (show Value.oneCell' _ = true; rfl)
            | (intro u hu; simp at hu; subst hu; rfl)
            | (unfold maxLen; omega)
            | omega
            | (simp; omega)
            | skip
          intro v' w1 hown' hgrow _
          have R1 : w1.ownsRow w.heap.size 22 1 v' (k + 1) (uk (L ++ [lo])) := own_snocU hown'
          have R2 := grown_belowU hb hB hown hgrow
          clear hown' hgrow hown
          go_wp2
          go_roundw
          case rel => exact ⟨k + 1, 0, L ++ [lo], by omega, by go_num, rfl, by decide, HK.out.2.1, HK.out.1, HK.out.2.2, R1, R2⟩
          case measure => simp [intOf]; omega
      · by_cases h3 : z < Y
        · have hi2b : decide ((k : Int) < (ys.length : Int)) = false := decide_eq_false (by omega)
          have y0 : y = 0 := by rw [← hy]; exact getD_off h2
          have e1 : Y = cr := by omega
          subst e1
          obtain ⟨X, hX⟩ : ∃ X, X = z + 4294967296 := ⟨_, rfl⟩
          have hXb : X < 18446744073709551616 := by omega
          obtain ⟨lo, hlo⟩ : ∃ lo, lo = X - Y := ⟨_, rfl⟩
          have HK : Hid _ := key z y lo 1 hz hy (by omega) (by omega)
          have hh1 : (z : Int) < (Y : Int) := by omega
          have e2 : (z : Int) + 4294967296 = (X : Int) := by omega
          have e3 : (X : Int) - (Y : Int) = (lo : Int) := by omega
          have e4 : (Y : Int) ≤ (X : Int) := by omega
          have hlob : lo < 4294967296 := by omega
          have e2' : IntKind.u32.wrap (lo : Int) = (lo : Int) := by rw [IntKind.wrap_u32']; omega
          clear hX
          clear y0 hY
          clear key st1 st2 hval hLW hLl hlo hz hy hle
          go_wp2_with (at_builtin; refine wpList_append_own _ rfl _ _ 61 rfl w.heap.size 22 i0 (.int .u32 0) 1 4 Try.underlying61 hi hz0 hz1 hz2 rfl (by decide) _ _ _ rfl (hown.alloc _) ⟨_, 0, none⟩ 1 1 [.int .u32 (lo : Int)] rfl rfl ?q1 ?q2 ?q3 ?q4 ?q5 ?_)
          all_goals first
            | (intro j u hj
               match j, hj with
               | 0, hj => simp at hj; subst hj; simp [Addr.add]; done)
            | (show Value.oneCell' _ = true; rfl)
            | (intro u hu; simp at hu; subst hu; rfl)
            | (unfold maxLen; omega)
            | omega
            | (simp; omega)
            | skip
          intro v' w1 hown' hgrow _
          have R1 : w1.ownsRow w.heap.size 22 1 v' (k + 1) (uk (L ++ [lo])) := own_snocU hown'
          have R2 := grown_belowU hb hB hown hgrow
          clear hown' hgrow hown
          go_wp2
          go_roundw
          case rel => exact ⟨k + 1, 1, L ++ [lo], by omega, by go_num, rfl, by decide, HK.out.2.1, HK.out.1, HK.out.2.2, R1, R2⟩
          case measure => simp [intOf]; omega
        · have hi2b : decide ((k : Int) < (ys.length : Int)) = false := decide_eq_false (by omega)
          have y0 : y = 0 := by rw [← hy]; exact getD_off h2
          have e1 : Y = cr := by omega
          subst e1
          obtain ⟨lo, hlo⟩ : ∃ lo, lo = z - Y := ⟨_, rfl⟩
          have HK : Hid _ := key z y lo 0 hz hy (by omega) (by omega)
          have hh1 : decide ((z : Int) < (Y : Int)) = false := decide_eq_false (by omega)
          have e3 : (z : Int) - (Y : Int) = (lo : Int) := by omega
          have e4 : (Y : Int) ≤ (z : Int) := by omega
          have hlob : lo < 4294967296 := by omega
          have e2' : IntKind.u32.wrap (lo : Int) = (lo : Int) := by rw [IntKind.wrap_u32']; omega
          clear y0 hY
          clear key st1 st2 hval hLW hLl hlo hz hy hle
          go_wp2_with (at_builtin; refine wpList_append_own _ rfl _ _ 61 rfl w.heap.size 22 i0 (.int .u32 0) 1 4 Try.underlying61 hi hz0 hz1 hz2 rfl (by decide) _ _ _ rfl (hown.alloc _) ⟨_, 0, none⟩ 1 1 [.int .u32 (lo : Int)] rfl rfl ?s1 ?s2 ?s3 ?s4 ?s5 ?_)
          all_goals first
            | (intro j u hj
               match j, hj with
               | 0, hj => simp at hj; subst hj; simp [Addr.add]; done)
            | (show Value.oneCell' _ = true; rfl)
            | (intro u hu; simp at hu; subst hu; rfl)
            | (unfold maxLen; omega)
            | omega
            | (simp; omega)
            | skip
          intro v' w1 hown' hgrow _
          have R1 : w1.ownsRow w.heap.size 22 1 v' (k + 1) (uk (L ++ [lo])) := own_snocU hown'
          have R2 := grown_belowU hb hB hown hgrow
          clear hown' hgrow hown
          go_wp2
          go_roundw
          case rel => exact ⟨k + 1, 0, L ++ [lo], by omega, by go_num, rfl, by decide, HK.out.2.1, HK.out.1, HK.out.2.2, R1, R2⟩
          case measure => simp [intOf]; omega
    · have hi1b : decide ((k : Int) < (zs.length : Int)) = false := decide_eq_false (by omega)
      have hkz : k = zs.length := by omega
      have hk6 : k ≤ 1000000 := by omega
      have HV := less_end hkz hl2 hle hcr hLl hLW hval
      clear key st1 st2 hval zw yw hkz
      obtain ⟨ao', cap', rfl, cc⟩ := cut_own hown hLl hk6 HV hLW
      go_wp2_with (go_at_call 50; refine cc.mono ?_; rintro e wq ⟨⟨vv, rfl, hvv⟩, hq⟩; subst wq)
      go_ret
      exact ⟨⟨_, rfl, hvv⟩, hb⟩
end Go.Proofs.Ytigiecodobgenaa
