import Derived.Test.YtigiecodobgenaaSNat
namespace Go.Proofs.Ytigiecodobgenaa
open Go.RowKit

theorem nv_split (zs : List Nat) (j : Nat) (hj : j < zs.length) : nv zs = nv (zs.take j) + 4294967296 ^ j * (zs.getD j 0 + 4294967296 * nv (zs.drop (j + 1))) := by
  have e : zs = zs.take j ++ (zs.getD j 0 :: zs.drop (j + 1)) := by
    have h1 := (List.take_append_drop j zs).symm
    rw [List.drop_eq_getElem_cons hj] at h1
    have e2 : zs.getD j 0 = zs[j] := by simp [List.getD, List.getElem?_eq_getElem hj]
    rw [e2]; exact h1
  have h2 : nv zs = nv (zs.take j ++ (zs.getD j 0 :: zs.drop (j + 1))) := by rw [← e]
  rw [h2, nv_append, show (zs.take j).length = j by simp; omega]
  rfl
theorem words_take {zs : List Nat} (h : Words zs) (n : Nat) : Words (zs.take n) := fun z hz => h z (List.mem_of_mem_take hz)
theorem nv_below {zs ys : List Nat} (hz : Words zs) (j : Nat) (h1 : j < zs.length) (h2 : j < ys.length) (hd : zs.drop (j + 1) = ys.drop (j + 1)) (hlt : zs.getD j 0 < ys.getD j 0) : nv zs < nv ys := by
  rw [nv_split zs j h1, nv_split ys j h2, hd]
  have h3 := nv_lt (words_take hz j)
  rw [show (zs.take j).length = j by simp; omega] at h3
  generalize zs.getD j 0 = x at *
  generalize ys.getD j 0 = y at *
  have h4 : 4294967296 ^ j * (x + 4294967296 * nv (ys.drop (j + 1)) + 1) ≤ 4294967296 ^ j * (y + 4294967296 * nv (ys.drop (j + 1))) := Nat.mul_le_mul_left _ (by omega)
  rw [Nat.mul_add _ _ 1, Nat.mul_one] at h4
  omega
theorem nv_ge {ys : List Nat} (n : Nat) (hl : ys.length = n + 1) (hN : Norm ys) : 4294967296 ^ n ≤ nv ys := by
  rw [nv_split ys n (by omega)]
  have : ys.getD n 0 ≠ 0 := by
    rcases hN with h | h
    · omega
    · rwa [hl, Nat.add_sub_cancel] at h
  have h2 : 4294967296 ^ n * 1 ≤ 4294967296 ^ n * (ys.getD n 0 + 4294967296 * nv (ys.drop (n + 1))) := Nat.mul_le_mul_left _ (by omega)
  omega
theorem nv_len {zs ys : List Nat} (hz : Words zs) (hN : Norm ys) (h : zs.length < ys.length) : nv zs < nv ys := by
  obtain ⟨n, hn⟩ : ∃ n, ys.length = n + 1 := ⟨ys.length - 1, by omega⟩
  have h1 := nv_lt hz
  have h2 := nv_ge n hn hN
  have h3 : 4294967296 ^ zs.length ≤ 4294967296 ^ n := Nat.pow_le_pow_right (by decide) (by omega)
  omega
/-- how two numbers stand -/
def ag (x y : Nat) : Int := if x < y then -1 else if x = y then 0 else 1
set_option maxHeartbeats 1000000 in
set_option maxRecDepth 100000 in
theorem against_any (ao bo : Option Addr) (ca cb : Nat) (zs ys : List Nat) (w : World) (hzl : zs.length ≤ 1000000) (_ : ys.length ≤ 1000000) (hrz : ReadsU w ao zs w.heap.size) (hry : ReadsU w bo ys w.heap.size) (wz : Words zs) (wy : Words ys) (nz : Norm zs) (ny : Norm ys) :
    Calls Try.prog 49 #[.slice ao zs.length ca, .slice bo ys.length cb] w fun e w' => e = .returned (.int .i64 (ag (nv zs) (nv ys))) ∧ ∃ k, w' = w.drewN k := by
  by_cases hl : zs.length = ys.length
  · have g0 : ((zs.length : Int) != (ys.length : Int)) = false := by simp; omega
    have HL : Hid (zs.length = ys.length) := hl
    clear hl
    go_enter Try.func49, Try.ntmps49
    go_wp2
    go_loopw [5] (fun i wr => ∃ k m : Nat, k ≤ zs.length ∧ i = .int .i64 ((k : Int) - 1) ∧ wr = w.drewN m ∧ zs.drop k = ys.drop k)
      (fun i _ => (intOf i + 1).toNat)
    case atStart => exact ⟨zs.length, 0, Nat.le_refl _, rfl, rfl, by rw [List.drop_length, HL.out, List.drop_length]⟩
    case round =>
      obtain ⟨k, m, hk, rfl, hw2, hpre⟩ := hrel
      have HP : Hid (zs.drop k = ys.drop k) := hpre
      clear hpre
      have HW2 : Hid (wr = w.drewN m) := hw2
      by_cases hk0 : k = 0
      · subst hk0
        have HA : Hid (ag (nv zs) (nv ys) = 0) := by
          have e1 := HP.out
          rw [List.drop_zero, List.drop_zero] at e1
          show ag (nv zs) (nv ys) = 0
          unfold ag; rw [e1, if_neg (by omega), if_pos rfl]
        clear hw2 HP
        go_wp2
        go_ret
        exact ⟨by rw [HA.out]; rfl, _, HW2.out⟩
      · obtain ⟨j, rfl⟩ : ∃ j, k = j + 1 := ⟨k - 1, by omega⟩
        rw [show ((j + 1 : Nat) : Int) - 1 = (j : Int) by omega]
        have hl := HL.out
        obtain ⟨b, off, rfl, hbl, hc⟩ := hry (by omega)
        obtain ⟨b2, off2, rfl, hbl2, hc2⟩ := hrz (by omega)
        have hck : wr.cell? ⟨b, off + j, none⟩ = some (.int .u32 (ys.getD j 0 : Nat)) := by rw [hw2]; exact hc j (by omega)
        have hck2 : wr.cell? ⟨b2, off2 + j, none⟩ = some (.int .u32 (zs.getD j 0 : Nat)) := by rw [hw2]; exact hc2 j (by omega)
        clear hc hc2 hw2
        have hj1 : (j : Int) < (zs.length : Int) := by omega
        have hj2 : (j : Int) < (ys.length : Int) := by omega
        have hb1 := fun h => nv_below wz j (by omega) (by omega) HP.out h
        have hb2 := fun h => nv_below wy j (by omega) (by omega) HP.out.symm h
        have HT : Hid (zs.getD j 0 = ys.getD j 0 → zs.drop j = ys.drop j) := by
          intro h
          have hj3 : j < zs.length := by omega
          have hj4 : j < ys.length := by omega
          rw [List.drop_eq_getElem_cons hj3, List.drop_eq_getElem_cons hj4, HP.out]
          simp only [List.getD, List.getElem?_eq_getElem hj3, List.getElem?_eq_getElem hj4, Option.getD_some] at h
          rw [h]
        clear HP hl
        generalize zs.getD j 0 = x at *
        generalize ys.getD j 0 = y at *
        by_cases h1 : x < y
        · have HA : Hid (ag (nv zs) (nv ys) = -1) := by show ag (nv zs) (nv ys) = -1; unfold ag; rw [if_pos (hb1 h1)]
          have g5 : decide ((x : Int) < (y : Int)) = true := decide_eq_true (by omega)
          have g5n : decide (x < y) = true := decide_eq_true h1
          have h1i : (x : Int) < (y : Int) := by omega
          clear hb1 hb2 HT
          go_wp2
          go_quiet (fail)
          go_wp2
          go_ret
          exact ⟨by rw [HA.out]; rfl, _, by rw [HW2.out, World.drewN_drewN]⟩
        · by_cases h2 : y < x
          · have HA : Hid (ag (nv zs) (nv ys) = 1) := by show ag (nv zs) (nv ys) = 1; unfold ag; have := hb2 h2; rw [if_neg (by omega), if_neg (by omega)]
            have g5 : decide ((x : Int) < (y : Int)) = false := decide_eq_false (by omega)
            have g6 : decide ((y : Int) < (x : Int)) = true := decide_eq_true (by omega)
            have g5n : decide (x < y) = false := decide_eq_false h1
            have g6n : decide (y < x) = true := decide_eq_true h2
            have h1i : ¬ (x : Int) < (y : Int) := by omega
            have h2i : (y : Int) < (x : Int) := by omega
            clear hb1 hb2 HT
            go_wp2
            go_quiet (fail)
            go_wp2
            go_quiet (fail)
            go_wp2
            go_ret
            refine ⟨by rw [HA.out]; rfl, ?_⟩
            rw [HW2.out, World.drewN_drewN, World.drewN_drewN]
            exact ⟨_, rfl⟩
          · have hxy : x = y := by omega
            have HT2 : Hid (zs.drop j = ys.drop j) := HT.out hxy
            subst hxy
            clear hb1 hb2 HT h1 h2
            go_wp2
            go_quiet (fail)
            go_wp2
            go_quiet (fail)
            go_wp2
            go_roundw
            case rel => exact ⟨j, _, by omega, by go_num, by rw [HW2.out, World.drewN_drewN], HT2.out⟩
            case measure => simp [intOf]
  · have g0 : ((zs.length : Int) != (ys.length : Int)) = true := by simp; omega
    by_cases hlt : zs.length < ys.length
    · have h1 := nv_len wz ny hlt
      have ha : ag (nv zs) (nv ys) = -1 := by unfold ag; rw [if_pos h1]
      rw [ha]
      have g1 : decide ((zs.length : Int) < (ys.length : Int)) = true := decide_eq_true (by omega)
      clear hl
      go_enter Try.func49, Try.ntmps49
      go_wp2
      go_ret
      exact ⟨rfl, 0, rfl⟩
    · have h1 := nv_len wy nz (by omega)
      have ha : ag (nv zs) (nv ys) = 1 := by unfold ag; rw [if_neg (by omega), if_neg (by omega)]
      rw [ha]
      have g1 : decide ((zs.length : Int) < (ys.length : Int)) = false := decide_eq_false (by omega)
      clear hl
      go_enter Try.func49, Try.ntmps49
      go_wp2
      go_ret
      exact ⟨rfl, 0, rfl⟩
end Go.Proofs.Ytigiecodobgenaa
