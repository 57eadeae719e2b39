import Derived.Test.YtigiecodobgenaaSLow
namespace Go.Proofs.Ytigiecodobgenaa
open Go.RowKit

theorem take_step (zs : List Nat) (k : Nat) : nv (zs.take (k + 1)) = nv (zs.take k) + 4294967296 ^ k * zs.getD k 0 := by
  by_cases hlt : k < zs.length
  · have e1 : zs.take (k + 1) = zs.take k ++ [zs.getD k 0] := by
      rw [List.take_succ_eq_append_getElem hlt]
      simp [List.getD, List.getElem?_eq_getElem hlt]
    rw [e1, nv_append, show (zs.take k).length = k by simp; omega]
    simp [nv]
  · rw [List.take_of_length_le (by omega), List.take_of_length_le (by omega)]
    simp [List.getD, List.getElem?_eq_none (Nat.le_of_not_lt hlt)]
theorem getD_off {zs : List Nat} {k : Nat} (h : ¬ k < zs.length) : zs.getD k 0 = 0 := by
  simp [List.getD, List.getElem?_eq_none (Nat.le_of_not_lt h)]
/-- from an own row to a number that is cut -/
theorem cut_own {w w1 : World} {v' : Value} {ZZ : List Nat} {n x : Nat} (R1 : w1.ownsRow w.heap.size 22 1 v' n (uk ZZ)) (hn : ZZ.length = n) (hlen : n ≤ 1000000) (hx : nv ZZ = x) (hW : Words ZZ) :
    ∃ ao cap, v' = .slice ao n cap ∧ Calls Try.prog 50 #[.slice ao n cap] w1 fun e w' => (∃ v, e = .returned v ∧ NatV w1 v x) ∧ w' = w1 := by
  subst hn
  obtain ⟨ao', cap', rfl, hrd⟩ := own_readsU R1
  have hcap := own_cap R1
  refine ⟨ao', cap', rfl, (cut_any ao' cap' ZZ w1 hcap.1 hlen hrd hcap.2).mono ?_⟩
  rintro e wq ⟨⟨nn, hnn, rfl, ht, hN⟩, hq⟩
  have hl3 : (ZZ.take nn).length = nn := by simp; omega
  exact ⟨⟨_, rfl, ao', cap', ZZ.take nn, by rw [hl3], by rw [hl3]; omega, hcap.2, by rw [ht]; exact hx, hN, words_take hW nn, hrd.take nn hnn⟩, hq⟩
set_option maxRecDepth 100000 in
set_option maxHeartbeats 4000000 in
theorem plus_any (ao bo : Option Addr) (ca cb : Nat) (zs ys : List Nat) (w : World) (hl : zs.length ≤ 1000) (hl2 : ys.length ≤ 1000) (hr : ReadsU w ao zs w.heap.size) (hr2 : ReadsU w bo ys w.heap.size) (hW : Words zs) (hW2 : Words ys) :
    Calls Try.prog 43 #[.slice ao zs.length ca, .slice bo ys.length cb] w fun e w' => (∃ v, e = .returned v ∧ NatV w' v (nv zs + nv ys)) ∧ Below w.heap.size w w' := by
  obtain ⟨i0, hi, hz0, hz1, hz2⟩ := info_parts Try.infoU
  go_enter Try.func43, Try.ntmps43
  go_wp2
  go_loopw [5, 6, 7] (fun v c i wr => ∃ k cr : Nat, ∃ L : List Nat, (k ≤ zs.length ∨ k ≤ ys.length) ∧ i = .int .i64 k ∧ c = .int .u64 (cr : Int) ∧ cr ≤ 1 ∧ L.length = k ∧ Words L ∧ nv L + 4294967296 ^ k * cr = nv (zs.take k) + nv (ys.take k) ∧ wr.ownsRow w.heap.size 22 1 v k (uk L) ∧ Below w.heap.size w wr)
    (fun _ _ i _ => zs.length + ys.length - (intOf i).toNat)
  case atStart => exact ⟨0, 0, [], Or.inl (Nat.zero_le _), rfl, rfl, by decide, rfl, (fun z hz => by simp at hz), by simp [nv], World.ownsRow_nil _ _ _ _, Below.refl _ _⟩
  case round =>
    obtain ⟨k, cr, L, hk, rfl, rfl, hcr, hLl, hLW, hval, hown, hb⟩ := hrel
    have hB := hb.size
    have st1 := take_step zs k
    have st2 := take_step ys k
    have zw := words_get hW k
    have yw := words_get hW2 k
    have key : ∀ z y X lo hh : Nat, zs.getD k 0 = z → ys.getD k 0 = y → X = cr + z + y → lo = X % 4294967296 → hh = X / 4294967296 → hh ≤ 1 ∧ lo < 4294967296 ∧ Words (L ++ [lo]) ∧ (L ++ [lo]).length = k + 1 ∧ nv (L ++ [lo]) + 4294967296 ^ (k + 1) * hh = nv (zs.take (k + 1)) + nv (ys.take (k + 1)) := by
      intro z y X lo hh e1 e2 e3 e4 e5
      rw [e1] at st1 zw
      rw [e2] at st2 yw
      refine ⟨by omega, by omega, ?_, by simp [hLl], ?_⟩
      · intro u hu
        rcases List.mem_append.1 hu with h | h
        · exact hLW u h
        · simp at h; omega
      · rw [st1, st2, nv_append, hLl, Nat.pow_succ, Nat.mul_assoc, show nv [lo] = lo by simp [nv]]
        have h6 : lo + 4294967296 * hh = cr + z + y := by omega
        have h7 : 4294967296 ^ k * (lo + 4294967296 * hh) = 4294967296 ^ k * cr + 4294967296 ^ k * z + 4294967296 ^ k * y := by rw [h6, Nat.mul_add, Nat.mul_add]
        rw [Nat.mul_add] at h7
        omega
    by_cases h1 : k < zs.length
    · by_cases h2 : k < ys.length
      · obtain ⟨z, hz⟩ : ∃ z, zs.getD k 0 = z := ⟨_, rfl⟩
        obtain ⟨y, hy⟩ : ∃ y, ys.getD k 0 = y := ⟨_, rfl⟩
        rw [hz] at zw
        rw [hy] at yw
        obtain ⟨X, hX⟩ : ∃ X, X = cr + z + y := ⟨_, rfl⟩
        obtain ⟨lo, hlo⟩ : ∃ lo, lo = X % 4294967296 := ⟨_, rfl⟩
        obtain ⟨hh, hhh⟩ : ∃ hh, hh = X / 4294967296 := ⟨_, rfl⟩
        have HK : Hid _ := key z y X lo hh hz hy hX hlo hhh
        obtain ⟨b1, off1, rfl, hbl1, hc1⟩ := (hr.below hb) (by omega)
        have hck1 := hc1 k h1
        rw [hz] at hck1
        have hi1 : (k : Int) < (zs.length : Int) := by omega
        clear hc1
        obtain ⟨b2, off2, rfl, hbl2, hc2⟩ := (hr2.below hb) (by omega)
        have hck2 := hc2 k h2
        rw [hy] at hck2
        have hi2 : (k : Int) < (ys.length : Int) := by omega
        clear hc2
        have e1 : (cr : Int) + (z : Int) + (y : Int) = (X : Int) := by omega
        have e2 : (X : Int) % 4294967296 = (lo : Int) := by omega
        have e2' : IntKind.u32.wrap (X : Int) = (lo : Int) := by rw [IntKind.wrap_u32']; omega
        have e3 : (X : Int) / 4294967296 = (hh : Int) := by omega
        have hkb : k ≤ 1000 := by omega
        have hXb : X < 18446744073709551616 := by omega
        clear key st1 st2 hval hLW hLl hX hlo hhh hz hy
        go_wp2_with (at_builtin; refine wpList_append_own _ rfl _ _ 61 rfl w.heap.size 22 i0 (.int .u32 0) 1 4 Try.underlying61 hi hz0 hz1 hz2 rfl (by decide) _ _ _ rfl (hown.alloc _) ⟨_, 0, none⟩ 1 1 [.int .u32 (lo : Int)] rfl rfl ?c1 ?c2 ?c3 ?c4 ?c5 ?_)
        case c1 =>
          intro j u hj
          match j, hj with
          | 0, hj => simp at hj; subst hj; simp [Addr.add]
        case c2 => first | rfl | (intro u hu; simp at hu; subst hu; rfl)
        case c3 => unfold maxLen; omega
        case c4 => omega
        case c5 => first | omega | (simp; omega)
        intro v' w1 hown' hgrow _
        obtain ⟨k1, k2, k3, k4, k5⟩ := HK.out
        have HKK : Hid (hh ≤ 1 ∧ Words (L ++ [lo]) ∧ (L ++ [lo]).length = k + 1 ∧ nv (L ++ [lo]) + 4294967296 ^ (k + 1) * hh = nv (zs.take (k + 1)) + nv (ys.take (k + 1))) := ⟨k1, k3, k4, k5⟩
        have R1 : w1.ownsRow w.heap.size 22 1 v' (k + 1) (uk (L ++ [lo])) := own_snocU hown'
        have R2 := grown_belowU hb hB hown hgrow
        clear hown' hgrow hown k1 k2 k3 k4 k5 HK
        go_wp2
        go_roundw
        case rel => exact ⟨k + 1, hh, L ++ [lo], by omega, by go_num, rfl, HKK.out.1, HKK.out.2.2.1, HKK.out.2.1, HKK.out.2.2.2, R1, R2⟩
        case measure => simp [intOf]; omega
      · obtain ⟨z, hz⟩ : ∃ z, zs.getD k 0 = z := ⟨_, rfl⟩
        obtain ⟨y, hy⟩ : ∃ y, ys.getD k 0 = y := ⟨_, rfl⟩
        rw [hz] at zw
        rw [hy] at yw
        have y0 : y = 0 := by rw [← hy]; exact getD_off h2
        obtain ⟨X, hX⟩ : ∃ X, X = cr + z + y := ⟨_, rfl⟩
        obtain ⟨lo, hlo⟩ : ∃ lo, lo = X % 4294967296 := ⟨_, rfl⟩
        obtain ⟨hh, hhh⟩ : ∃ hh, hh = X / 4294967296 := ⟨_, rfl⟩
        have HK : Hid _ := key z y X lo hh hz hy hX hlo hhh
        obtain ⟨b1, off1, rfl, hbl1, hc1⟩ := (hr.below hb) (by omega)
        have hck1 := hc1 k h1
        rw [hz] at hck1
        have hi1 : (k : Int) < (zs.length : Int) := by omega
        clear hc1
        have hi2 : ¬ (k : Int) < (ys.length : Int) := by omega
        have hi2b : decide ((k : Int) < (ys.length : Int)) = false := decide_eq_false hi2
        have e1 : (cr : Int) + (z : Int) = (X : Int) := by omega
        have e2 : (X : Int) % 4294967296 = (lo : Int) := by omega
        have e2' : IntKind.u32.wrap (X : Int) = (lo : Int) := by rw [IntKind.wrap_u32']; omega
        have e3 : (X : Int) / 4294967296 = (hh : Int) := by omega
        have hkb : k ≤ 1000 := by omega
        have hXb : X < 18446744073709551616 := by omega
        clear key st1 st2 hval hLW hLl hX hlo hhh hz hy
        go_wp2_with (at_builtin; refine wpList_append_own _ rfl _ _ 61 rfl w.heap.size 22 i0 (.int .u32 0) 1 4 Try.underlying61 hi hz0 hz1 hz2 rfl (by decide) _ _ _ rfl (hown.alloc _) ⟨_, 0, none⟩ 1 1 [.int .u32 (lo : Int)] rfl rfl ?p1 ?p2 ?p3 ?p4 ?p5 ?_)
        case p2 => first | rfl | (intro u hu; simp at hu; subst hu; rfl)
        case p3 => unfold maxLen; omega
        case p4 => omega
        case p5 => first | omega | (simp; omega)
        intro v' w1 hown' hgrow _
        obtain ⟨k1, k2, k3, k4, k5⟩ := HK.out
        have HKK : Hid (hh ≤ 1 ∧ Words (L ++ [lo]) ∧ (L ++ [lo]).length = k + 1 ∧ nv (L ++ [lo]) + 4294967296 ^ (k + 1) * hh = nv (zs.take (k + 1)) + nv (ys.take (k + 1))) := ⟨k1, k3, k4, k5⟩
        have R1 : w1.ownsRow w.heap.size 22 1 v' (k + 1) (uk (L ++ [lo])) := own_snocU hown'
        have R2 := grown_belowU hb hB hown hgrow
        clear hown' hgrow hown k1 k2 k3 k4 k5 HK
        go_wp2
        go_roundw
        case rel => exact ⟨k + 1, hh, L ++ [lo], by omega, by go_num, rfl, HKK.out.1, HKK.out.2.2.1, HKK.out.2.1, HKK.out.2.2.2, R1, R2⟩
        case measure => simp [intOf]; omega
    · by_cases h2 : k < ys.length
      · obtain ⟨z, hz⟩ : ∃ z, zs.getD k 0 = z := ⟨_, rfl⟩
        obtain ⟨y, hy⟩ : ∃ y, ys.getD k 0 = y := ⟨_, rfl⟩
        rw [hz] at zw
        rw [hy] at yw
        have z0 : z = 0 := by rw [← hz]; exact getD_off h1
        obtain ⟨X, hX⟩ : ∃ X, X = cr + z + y := ⟨_, rfl⟩
        obtain ⟨lo, hlo⟩ : ∃ lo, lo = X % 4294967296 := ⟨_, rfl⟩
        obtain ⟨hh, hhh⟩ : ∃ hh, hh = X / 4294967296 := ⟨_, rfl⟩
        have HK : Hid _ := key z y X lo hh hz hy hX hlo hhh
        have hi1 : ¬ (k : Int) < (zs.length : Int) := by omega
        have hi1b : decide ((k : Int) < (zs.length : Int)) = false := decide_eq_false hi1
        obtain ⟨b2, off2, rfl, hbl2, hc2⟩ := (hr2.below hb) (by omega)
        have hck2 := hc2 k h2
        rw [hy] at hck2
        have hi2 : (k : Int) < (ys.length : Int) := by omega
        clear hc2
        have e1 : (cr : Int) + (y : Int) = (X : Int) := by omega
        have e2 : (X : Int) % 4294967296 = (lo : Int) := by omega
        have e2' : IntKind.u32.wrap (X : Int) = (lo : Int) := by rw [IntKind.wrap_u32']; omega
        have e3 : (X : Int) / 4294967296 = (hh : Int) := by omega
        have hkb : k ≤ 1000 := by omega
        have hXb : X < 18446744073709551616 := by omega
        clear key st1 st2 hval hLW hLl hX hlo hhh hz hy
        go_wp2_with (at_builtin; refine wpList_append_own _ rfl _ _ 61 rfl w.heap.size 22 i0 (.int .u32 0) 1 4 Try.underlying61 hi hz0 hz1 hz2 rfl (by decide) _ _ _ rfl (hown.alloc _) ⟨_, 0, none⟩ 1 1 [.int .u32 (lo : Int)] rfl rfl ?q1 ?q2 ?q3 ?q4 ?q5 ?_)
        case q2 => first | rfl | (intro u hu; simp at hu; subst hu; rfl)
        case q3 => unfold maxLen; omega
        case q4 => omega
        case q5 => first | omega | (simp; omega)
        intro v' w1 hown' hgrow _
        obtain ⟨k1, k2, k3, k4, k5⟩ := HK.out
        have HKK : Hid (hh ≤ 1 ∧ Words (L ++ [lo]) ∧ (L ++ [lo]).length = k + 1 ∧ nv (L ++ [lo]) + 4294967296 ^ (k + 1) * hh = nv (zs.take (k + 1)) + nv (ys.take (k + 1))) := ⟨k1, k3, k4, k5⟩
        have R1 : w1.ownsRow w.heap.size 22 1 v' (k + 1) (uk (L ++ [lo])) := own_snocU hown'
        have R2 := grown_belowU hb hB hown hgrow
        clear hown' hgrow hown k1 k2 k3 k4 k5 HK
        go_wp2
        go_roundw
        case rel => exact ⟨k + 1, hh, L ++ [lo], by omega, by go_num, rfl, HKK.out.1, HKK.out.2.2.1, HKK.out.2.1, HKK.out.2.2.2, R1, R2⟩
        case measure => simp [intOf]; omega
      · have hi1b : decide ((k : Int) < (zs.length : Int)) = false := decide_eq_false (by omega)
        have hi2b : decide ((k : Int) < (ys.length : Int)) = false := decide_eq_false (by omega)
        rw [List.take_of_length_le (by omega), List.take_of_length_le (by omega)] at hval
        have HV : Hid (nv (L ++ [cr]) = nv zs + nv ys ∧ Words (L ++ [cr]) ∧ (L ++ [cr]).length = k + 1) := by
          refine ⟨?_, ?_, by simp [hLl]⟩
          · rw [nv_append, hLl, show nv [cr] = cr by simp [nv]]; exact hval
          · intro u hu
            rcases List.mem_append.1 hu with h | h
            · exact hLW u h
            · simp at h; omega
        have e2' : IntKind.u32.wrap (cr : Int) = (cr : Int) := by rw [IntKind.wrap_u32']; omega
        have hkb : k ≤ 1000 := by omega
        clear key st1 st2 hval hLW hLl zw yw
        go_wp2_with (at_builtin; refine wpList_append_own _ rfl _ _ 61 rfl w.heap.size 22 i0 (.int .u32 0) 1 4 Try.underlying61 hi hz0 hz1 hz2 rfl (by decide) _ _ _ rfl (hown.alloc _) ⟨_, 0, none⟩ 1 1 [.int .u32 (cr : Int)] rfl rfl ?s1 ?s2 ?s3 ?s4 ?s5 ?_)
        case s1 =>
          intro j u hj
          match j, hj with
          | 0, hj => simp at hj; subst hj; simp [Addr.add]
        case s2 => first | rfl | (intro u hu; simp at hu; subst hu; rfl)
        case s3 => unfold maxLen; omega
        case s4 => omega
        case s5 => first | omega | (simp; omega)
        intro v' w1 hown' hgrow _
        have R1 : w1.ownsRow w.heap.size 22 1 v' (k + 1) (uk (L ++ [cr])) := own_snocU hown'
        have R2 := grown_belowU hb hB hown hgrow
        clear hown' hgrow hown
        obtain ⟨ao', cap', rfl, cc⟩ := cut_own R1 HV.out.2.2 (by omega) HV.out.1 HV.out.2.1
        clear R1
        go_wp2_with (go_at_call 50; refine cc.mono ?_; rintro e wq ⟨⟨vv, rfl, hvv⟩, hq⟩; subst wq)
        go_ret
        exact ⟨⟨_, rfl, hvv⟩, R2⟩
end Go.Proofs.Ytigiecodobgenaa
