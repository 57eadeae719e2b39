import Derived.Test.YtacfiecobdbjaaaLThere
namespace Go.Proofs.Ytacfiecobdbjaaa
open Go.RowKit

theorem pow_le7 (m : Nat) (h : m ≤ 7) : (256 : Int) ^ m ≤ 72057594037927936 := by
  have : m = 0 ∨ m = 1 ∨ m = 2 ∨ m = 3 ∨ m = 4 ∨ m = 5 ∨ m = 6 ∨ m = 7 := by omega
  rcases this with rfl | rfl | rfl | rfl | rfl | rfl | rfl | rfl <;> decide
theorem div_pow (x : Int) (j : Nat) : x / 256 ^ j / 256 = x / 256 ^ (j + 1) := by
  rw [Int.ediv_ediv_of_nonneg (Int.le_of_lt (pow256_pos j)), pow256]

set_option maxRecDepth 100000 in
set_option maxHeartbeats 1000000 in
theorem rput_any (w n : Nat) (hw1 : 1 ≤ w) (hw8 : w ≤ 8) (ao : Option Addr) (cap : Nat) (xs : List Int) (W : World) (hx : xs.length = n) (hn : n ≤ 1048576) (hwf : ∀ z ∈ xs, 0 ≤ z ∧ z < 18446744073709551616) (hr : ReadsK W .u64 ao xs W.heap.size) :
    Calls Try.prog 10 #[.int .i64 w, .slice ao n cap] W fun e w' => ∃ v, e = .returned v ∧ w'.ownsRow W.heap.size 5 1 v (n * w) (bv (puts w xs n)) ∧ Below W.heap.size W w' := by
  subst hx
  obtain ⟨i0, hi, hz0, hz1, hz2⟩ := info_parts Try.info5
  have hnw : xs.length * w ≤ 8388608 := Nat.le_trans (Nat.mul_le_mul hn hw8) (by decide)
  go_enter Try.func10, Try.ntmps10
  go_wp2_with fail
  go_loopw [5, 6] (fun v i wr => ∃ k : Nat, k ≤ xs.length ∧ i = .int .i64 k ∧ wr.ownsRow W.heap.size 5 1 v (k * w) (bv (puts w xs k)) ∧ Below W.heap.size W wr)
    (fun _ i _ => xs.length - (intOf i).toNat)
  case atStart => exact ⟨0, Nat.zero_le _, rfl, by rw [Nat.zero_mul]; exact World.ownsRow_nil _ _ _ _, Below.refl _ _⟩
  case round =>
    obtain ⟨k, hk, rfl, hown, hb⟩ := hrel
    by_cases hlt : k < xs.length
    · obtain ⟨b, off, rfl, hbl, hc⟩ := (hr.below hb) (by omega)
      have hck := hc k hlt
      clear hc
      have hts := take_snoc xs k hlt
      have hxw := hwf _ (getD_mem hlt)
      generalize xs.getD k 0 = x at hck hts hxw
      have HS : Hid (puts w xs (k + 1) = puts w xs k ++ nb w x) := by simp [puts, hts, Hid]
      clear hts hwf
      have hkw : k * w ≤ 8388608 := Nat.le_trans (Nat.mul_le_mul_right w hk) hnw
      generalize puts w xs k = PP at hown HS
      obtain ⟨x0, x1⟩ := hxw
      obtain ⟨kw, hkwe⟩ : ∃ kw, kw = k * w := ⟨_, rfl⟩
      rw [← hkwe] at hown hkw
      have HKW : Hid (kw = k * w) := hkwe
      clear hkwe
      go_wp2_with fail
      go_loopw [5, 7, 8] (fun v xv i wr => ∃ (j : Nat) (y : Int), j ≤ w ∧ i = .int .i64 j ∧ xv = .int .u64 y ∧ y = x / 256 ^ j ∧ 0 ≤ y ∧ y < 18446744073709551616 ∧ wr.ownsRow W.heap.size 5 1 v (kw + j) (bv (PP ++ nb j x)) ∧ Below W.heap.size W wr)
        (fun _ _ i _ => w - (intOf i).toNat)
      case atStart => exact ⟨0, x, Nat.zero_le _, rfl, rfl, by simp, x0, x1, by simpa [nb] using hown, hb⟩
      case round =>
        clear hown hb hck hr
        obtain ⟨j, y, hj, rfl, rfl, hy, y0, y1, hown, hb⟩ := hrel
        have hB := hb.size
        have HY : Hid (y = x / 256 ^ j) := hy
        clear hy
        by_cases hlt2 : j < w
        · have hjI : (j : Int) < (w : Int) := by omega
          go_wp2_with (at_builtin; refine wpList_append_own _ rfl _ _ 26 rfl W.heap.size 5 i0 (.int .u8 0) 1 1 Try.underlying26 hi hz0 hz1 hz2 rfl (by decide) _ _ _ rfl (hown.alloc _) ⟨_, 0, none⟩ 1 1 [.int .u8 (y % 256)] rfl rfl ?d1 ?d2 ?d3 ?d4 ?d5 ?_)
          case d1 =>
            intro j u hj
            match j, hj with
            | 0, hj => simp at hj; subst hj; simp [Addr.add]
          case d2 => intro u hu; simp at hu; subst hu; rfl
          case d3 => unfold maxLen; omega
          case d4 => omega
          case d5 => simp; omega
          intro v' w2 hown' hgrow _
          have R1 := own_snoc (M := PP ++ nb (j + 1) x) (by rw [nb_snoc, List.append_assoc, HY.out]) hown'
          have R2 := grown_below hb hB hown hgrow
          clear hown' hgrow hown
          go_wp2_with fail
          go_roundw
          case rel => exact ⟨j + 1, y / 256, by omega, by go_num, rfl, by rw [HY.out, div_pow], by omega, by omega, R1, R2⟩
          case measure => simp [intOf]; omega
        · obtain rfl : j = w := by omega
          have hjI : ¬ (j : Int) < (j : Int) := by omega
          go_wp2_with fail
          go_roundw
          case rel => exact ⟨k + 1, by omega, by go_num, by rw [HS.out, Nat.add_mul, Nat.one_mul, ← HKW.out]; exact hown, hb⟩
          case measure => simp [intOf]; omega
    · obtain rfl : k = xs.length := by omega
      go_wp2_with fail
      go_ret
      exact ⟨_, rfl, hown, hb⟩

theorem getD_drop_cons' (xs : List Int) (k : Nat) (h : k < xs.length) : xs.drop k = xs.getD k 0 :: xs.drop (k + 1) := by
  rw [List.drop_eq_getElem_cons h]
  simp [List.getD, List.getElem?_eq_getElem h]
theorem num_cons (zs : List Int) (p k w : Nat) (hk : k < w) (hp : p + w ≤ zs.length) : num ((zs.drop (p + k)).take (w - k)) = zs.getD (p + k) 0 + 256 * num ((zs.drop (p + (k + 1))).take (w - (k + 1))) := by
  rw [getD_drop_cons' zs (p + k) (by omega), show w - k = (w - (k + 1)) + 1 by omega, List.take_succ_cons, num, ← Nat.add_assoc]

set_option maxRecDepth 100000 in
set_option maxHeartbeats 1000000 in
theorem rnum_any (w : Nat) (hw1 : 1 ≤ w) (hw8 : w ≤ 8) (ao : Option Addr) (n cap : Nat) (zs : List Int) (p : Nat) (W : World) (hz : zs.length = n) (hn : n ≤ 140737488355328) (hp : p + w ≤ n) (hwf : ∀ z ∈ zs, 0 ≤ z ∧ z ≤ 255) (hr : Reads W ao zs W.heap.size) :
    Calls Try.prog 50 #[.int .i64 w, .slice ao n cap, .int .i64 p] W fun e w' => e = .returned (.int .u64 (num ((zs.drop p).take w))) ∧ w' = W := by
  subst hz
  obtain ⟨b, off, rfl, hbl, hc⟩ := hr (by omega)
  have HC : Hid (∀ j, j < zs.length → W.cell? ⟨b, off + j, none⟩ = some (.int .u8 (zs.getD j 0))) := hc
  clear hc
  go_enter Try.func50, Try.ntmps50
  go_wp2_with fail
  go_loop [7, 8] (fun xv i => ∃ k : Nat, k ≤ w ∧ i = .int .i64 ((k : Int) - 1) ∧ xv = .int .u64 (num ((zs.drop (p + k)).take (w - k))))
    (fun _ i => ((intOf i) + 1).toNat)
  case atStart => exact ⟨w, Nat.le_refl _, rfl, by simp [num]⟩
  case round =>
    obtain ⟨k, hk, rfl, rfl⟩ := hrel
    by_cases hk0 : k = 0
    · subst hk0
      go_wp2_with fail
      go_ret
      exact ⟨by simp, rfl⟩
    · obtain ⟨m, rfl⟩ : ∃ m, k = m + 1 := ⟨k - 1, by omega⟩
      have hcs := num_cons zs p m w (by omega) hp
      have hck := HC.out (p + m) (by omega)
      have hrg := num_range ((zs.drop (p + (m + 1))).take (w - (m + 1))) (fun z hz => hwf z (List.mem_of_mem_drop (List.mem_of_mem_take hz)))
      have hlen : ((zs.drop (p + (m + 1))).take (w - (m + 1))).length = w - (m + 1) := by simp; omega
      rw [hlen] at hrg
      have hp7 := pow_le7 (w - (m + 1)) (by omega)
      have hcw := hwf _ (getD_mem (show p + m < zs.length by omega))
      have HS : Hid (num ((zs.drop (p + m)).take (w - m)) = zs.getD (p + m) 0 + 256 * num ((zs.drop (p + (m + 1))).take (w - (m + 1)))) := hcs
      clear hcs hlen
      generalize num ((zs.drop (p + (m + 1))).take (w - (m + 1))) = x at hrg HS
      generalize zs.getD (p + m) 0 = c at hck hcw HS
      obtain ⟨x0, x1⟩ := hrg
      have x2 : x < 72057594037927936 := by omega
      clear x1 hp7
      obtain ⟨c0, c1⟩ := hcw
      have hpm : (p : Int) + ((m : Int) + 1 - 1) < (zs.length : Int) := by omega
      have hpm2 : (p : Int) + (m : Int) < (zs.length : Int) := by omega
      have e1 : (((m + 1 : Nat) : Int) - 1) = (m : Int) := by omega
      rw [e1]
      go_wp2_with fail
      go_round
      case rel => exact ⟨m, by omega, by go_num, by rw [HS.out]; congr 1; omega⟩
      case measure => simp [intOf]

set_option maxRecDepth 100000 in
set_option maxHeartbeats 1000000 in
theorem rat_any (w : Nat) (hw1 : 1 ≤ w) (hw8 : w ≤ 8) (ao : Option Addr) (cap : Nat) (zs : List Int) (at_ : Int) (W : World) (hn : zs.length ≤ 140737488355328) (hwf : ∀ z ∈ zs, 0 ≤ z ∧ z ≤ 255) (hr : Reads W ao zs W.heap.size) (_ : -9223372036854775808 ≤ at_) (_ : at_ ≤ 9223372036854775807) :
    Calls Try.prog 31 #[.int .i64 w, .slice ao zs.length cap, .int .i64 at_] W fun e w' => e = .returned (.tuple #[.int .u64 (atv w zs at_), .int .i64 (ate w zs.length at_)]) ∧ w' = W := by
  by_cases h0 : 0 ≤ at_
  · have d0 : decide (at_ < 0) = false := by simp; omega
    by_cases h1 : at_ + w ≤ (zs.length : Int)
    · have HV : Hid (atv w zs at_ = num ((zs.drop at_.toNat).take w) ∧ ate w zs.length at_ = 0) := by simp [atv, ate, h0, h1, Hid]
      obtain ⟨p, rfl⟩ := Int.eq_ofNat_of_zero_le h0
      have hnu := rnum_any w hw1 hw8 ao zs.length cap zs p W rfl hn (by omega) hwf hr
      rw [Int.toNat_natCast] at HV
      have d1 : decide ((zs.length : Int) - (w : Int) < (p : Int)) = false := by simp; omega
      go_enter Try.func31, Try.ntmps31
      go_wp2_with (go_at_call 50; with_reducible refine hnu.mono ?_; rintro e wq ⟨rfl, hq⟩; subst wq)
      go_ret2
      exact ⟨by rw [HV.out.1, HV.out.2]; rfl, rfl⟩
    · have HV : Hid (atv w zs at_ = 0 ∧ ate w zs.length at_ = 20) := by simp [atv, ate, h1, Hid]
      have d1 : decide ((zs.length : Int) - (w : Int) < at_) = true := by simp; omega
      go_enter Try.func31, Try.ntmps31
      go_wp2_with fail
      go_ret2
      exact ⟨by rw [HV.out.1, HV.out.2]; rfl, rfl⟩
  · have HV : Hid (atv w zs at_ = 0 ∧ ate w zs.length at_ = 20) := by simp [atv, ate, h0, Hid]
    have d0 : decide (at_ < 0) = true := by simp; omega
    go_enter Try.func31, Try.ntmps31
    go_wp2_with fail
    go_ret2
    exact ⟨by rw [HV.out.1, HV.out.2]; rfl, rfl⟩

set_option maxRecDepth 100000 in
set_option maxHeartbeats 1000000 in
theorem rall_any (w : Nat) (hw1 : 1 ≤ w) (hw8 : w ≤ 8) (ao : Option Addr) (n cap : Nat) (zs : List Int) (m : Nat) (W : World) (hz : zs.length = n) (hm : n = m * w) (hn : n ≤ 16777216) (hwf : ∀ z ∈ zs, 0 ≤ z ∧ z ≤ 255) (hr : Reads W ao zs W.heap.size) :
    Calls Try.prog 30 #[.int .i64 w, .slice ao n cap] W fun e w' => ∃ v, e = .returned (.tuple #[v, .int .i64 0]) ∧ w'.ownsRow W.heap.size 27 1 v m (bk .u64 (nums w zs m)) ∧ Below W.heap.size W w' := by
  obtain ⟨i0, hi, hz0, hz1, hz2⟩ := info_parts Try.infoQ
  have hmn : m ≤ 16777216 := by
    have : m * 1 ≤ m * w := Nat.mul_le_mul_left m hw1
    omega
  have hmod : ((n % w : Nat) : Int) = 0 := by rw [hm, Nat.mul_mod_left]; rfl
  have d0 : decide ((w : Int) < 1) = false := by simp; omega
  have hw0 : ¬ (w : Int) < 1 := by omega
  have d1 : (((n : Int).tmod (w : Int)) != 0) = false := by
    rw [Int.tmod_eq_emod_of_nonneg (by omega)]
    simpa using hmod
  have d2 : (((n : Int) % (w : Int)) != 0) = false := by simpa using hmod
  have hwI : ¬ (w : Int) = 0 := by omega
  have hwI2 : ¬ (w : Int) = -1 := by omega
  have HM : Hid (n = m * w) := hm
  have HN : Hid (zs.length = n) := hz
  clear hm hz hmod
  go_enter Try.func30, Try.ntmps30
  go_wp2_with fail
  go_loopw [6, 7] (fun v i wr => ∃ k p : Nat, k ≤ m ∧ p = k * w ∧ i = .int .i64 p ∧ wr.ownsRow W.heap.size 27 1 v k (bk .u64 (nums w zs k)) ∧ Below W.heap.size W wr)
    (fun _ i _ => n - (intOf i).toNat)
  case atStart => exact ⟨0, 0, Nat.zero_le _, by omega, rfl, World.ownsRow_nil _ _ _ _, Below.refl _ _⟩
  case round =>
    clear d0 d1 d2
    obtain ⟨k, p, hk, hp, rfl, hown, hb⟩ := hrel
    have HP : Hid (p = k * w) := hp
    have hB := hb.size
    by_cases hlt : k < m
    · have hpn : p + w ≤ n := by
        have : (k + 1) * w ≤ m * w := Nat.mul_le_mul_right w hlt
        rw [Nat.add_mul, Nat.one_mul] at this
        rw [hp, HM.out]; exact this
      have hpI : (p : Int) < (n : Int) := by omega
      clear hp
      have hd := rnum_any w hw1 hw8 ao n cap zs p wr HN.out (by omega) hpn hwf ((hr.below hb).mono hB)
      have HS : Hid (nums w zs (k + 1) = nums w zs k ++ [num ((zs.drop p).take w)]) := by rw [nums_succ, HP.out]; exact rfl
      generalize num ((zs.drop p).take w) = x at hd HS
      generalize nums w zs k = PP at hown HS
      go_wp2_with (first | (go_at_call 50; with_reducible refine hd.mono ?_; rintro e wq ⟨rfl, hq⟩; subst wq) | (at_builtin; refine wpList_append_own _ rfl _ _ 25 rfl W.heap.size 27 i0 (.int .u64 0) 1 8 Try.underlying25 hi hz0 hz1 hz2 rfl (by decide) _ _ _ rfl (hown.alloc _) ⟨_, 0, none⟩ 1 1 [.int .u64 x] rfl rfl ?c1 ?c2 ?c3 ?c4 ?c5 ?_))
      case c1 =>
        intro j u hj
        match j, hj with
        | 0, hj => simp at hj; subst hj; simp [Addr.add]
      case c2 => intro u hu; simp at hu; subst hu; rfl
      case c3 => unfold maxLen; omega
      case c4 => omega
      case c5 => simp; omega
      intro v' w2 hown' hgrow _
      have R1 := own_snocK HS.out hown'
      have R2 := grown_below hb hB hown hgrow
      clear hown' hgrow hown hd
      go_wp2_with fail
      go_roundw
      case rel => exact ⟨k + 1, p + w, by omega, by rw [HP.out, Nat.add_mul, Nat.one_mul], by push_cast; rfl, R1, R2⟩
      case measure => simp [intOf]; omega
    · obtain rfl : k = m := by omega
      have hpI : ¬ (p : Int) < (n : Int) := by
        have : p = n := by rw [hp, HM.out]
        omega
      clear hp
      go_wp2_with fail
      go_ret2
      exact ⟨_, rfl, hown, hb⟩
theorem rallE_any (w : Nat) (hw1 : 1 ≤ w) (ao : Option Addr) (n cap : Nat) (W : World) (hm : ¬ n % w = 0) :
    Calls Try.prog 30 #[.int .i64 w, .slice ao n cap] W fun e w' => e = .returned (.tuple #[.slice none 0 0, .int .i64 21]) ∧ w' = W := by
  have hmod : ¬ ((n % w : Nat) : Int) = 0 := by omega
  have hw0 : ¬ (w : Int) < 1 := by omega
  have d0 : decide ((w : Int) < 1) = false := by simp; omega
  have d1 : (((n : Int).tmod (w : Int)) != 0) = true := by
    rw [Int.tmod_eq_emod_of_nonneg (by omega)]
    simpa using hmod
  have d2 : (((n : Int) % (w : Int)) != 0) = true := by simpa using hmod
  have hwI : ¬ (w : Int) = 0 := by omega
  have hwI2 : ¬ (w : Int) = -1 := by omega
  clear hm hmod
  go_enter Try.func30, Try.ntmps30
  go_wp2_with fail
  go_ret2
  exact ⟨rfl, rfl⟩

set_option maxRecDepth 100000 in
set_option maxHeartbeats 2000000 in
theorem ats_any (w : Nat) (hw : w = 1 ∨ w = 2 ∨ w = 4 ∨ w = 8) (ao : Option Addr) (n cap : Nat) (zs : List Int) (at_ : Int) (W : World) (hz : zs.length = n) (hn : n ≤ 16777216) (hcp : n ≤ cap) (hwf : ∀ z ∈ zs, 0 ≤ z ∧ z ≤ 255) (hr : Reads W ao zs W.heap.size) (t0 : -9223372036854775808 ≤ at_) (t1 : at_ ≤ 9223372036854775807) :
    Calls Try.prog 13 #[.int .i64 w, .slice ao n cap, .int .i64 at_] W fun e w' => e = .returned (.bool true) ∧ w' = W := by
  subst hz
  have h1 := rat_any w (by omega) (by omega) ao cap zs at_ W (by omega) hwf hr t0 t1
  have h2 := at1_any w hw ao cap zs at_ W (by omega) hcp hwf hr t0 t1
  generalize atv w zs at_ = v at h1 h2
  generalize ate w zs.length at_ = v2 at h1 h2
  go_enter Try.func13, Try.ntmps13
  go_wp2_with (first | (go_at_call 31; with_reducible refine h1.mono ?_; rintro e wq ⟨rfl, hq⟩; subst wq) | (go_at_call 22; with_reducible refine h2.mono ?_; rintro e wq ⟨rfl, hq⟩; subst wq))
  go_ret
  exact ⟨rfl, rfl⟩

set_option maxRecDepth 100000 in
set_option maxHeartbeats 2000000 in
theorem alls_any (w : Nat) (hw : w = 1 ∨ w = 2 ∨ w = 4 ∨ w = 8) (ao : Option Addr) (n cap : Nat) (zs : List Int) (W : World) (hz : zs.length = n) (hn : n ≤ 16777216) (hcp : n ≤ cap) (hwf : ∀ z ∈ zs, 0 ≤ z ∧ z ≤ 255) (hr : Reads W ao zs W.heap.size) :
    Calls Try.prog 12 #[.int .i64 w, .slice ao n cap] W fun e w' => e = .returned (.bool true) ∧ Below W.heap.size W w' := by
  have hex : ∃ (L : List Int) (er : Int), L.length ≤ 16777216 ∧ (∀ W', Below W.heap.size W W' → Calls Try.prog 30 #[.int .i64 w, .slice ao n cap] W' fun e w' => ∃ v, e = .returned (.tuple #[v, .int .i64 er]) ∧ w'.ownsRow W'.heap.size 27 1 v L.length (bk .u64 L) ∧ Below W'.heap.size W' w') ∧ (∀ W', Below W.heap.size W W' → Calls Try.prog 20 #[.int .i64 w, .slice ao n cap] W' fun e w' => ∃ v, e = .returned (.tuple #[v, .int .i64 er]) ∧ w'.ownsRow W'.heap.size 27 1 v L.length (bk .u64 L) ∧ Below W'.heap.size W' w') := by
    by_cases hmod : n % w = 0
    · have hdm := Nat.div_add_mod n w
      rw [hmod, Nat.add_zero, Nat.mul_comm] at hdm
      obtain ⟨m, hm⟩ : ∃ m, m = n / w := ⟨_, rfl⟩
      rw [← hm] at hdm
      have hmn : m ≤ 16777216 := by
        have : m * 1 ≤ m * w := Nat.mul_le_mul_left m (by omega)
        omega
      refine ⟨nums w zs m, 0, by rw [nums_len]; exact hmn, fun W' hb => ?_, fun W' hb => ?_⟩
      · rw [nums_len]; exact rall_any w (by omega) (by omega) ao n cap zs m W' hz hdm.symm hn hwf ((hr.below hb).mono hb.size)
      · rw [nums_len]; exact allv_any w hw ao n cap zs m W' hz (by rw [hz]; exact hdm.symm) hn hcp hwf ((hr.below hb).mono hb.size)
    · exact ⟨[], 21, by simp, fun W' _ => (rallE_any w (by omega) ao n cap W' hmod).mono fun e w' ⟨he, hq⟩ => ⟨_, he, World.ownsRow_nil _ _ _ _, by rw [hq]; exact Below.refl _ _⟩, fun W' _ => allvE_any w hw ao n cap W' hmod⟩
  obtain ⟨L, er, hL, HA, HB⟩ := hex
  clear hr hwf hcp hz
  go_enter Try.func12, Try.ntmps12
  go_wp2_with fail
  with_reducible refine (HA W (Below.refl _ _)).mono ?_
  rintro e w1 ⟨v, rfl, own1, hb1⟩
  obtain ⟨a1, c1, rfl, hr1⟩ := own_readsQ own1 rfl
  have hz1 := hb1.size
  go_wp2_with fail
  with_reducible refine (HB w1 hb1).mono ?_
  rintro e w2 ⟨v, rfl, own2, hb2⟩
  obtain ⟨a2, c2, rfl, hr2⟩ := own_readsQ own2 rfl
  have hz2 := hb2.size
  have hb12 := hb1.trans (hb2.mono hz1)
  go_wp2_with fail
  with_reducible refine (HB w2 hb12).mono ?_
  rintro e w3 ⟨v, rfl, own3, hb3⟩
  obtain ⟨a3, c3, rfl, hr3⟩ := own_readsQ own3 rfl
  have hz3 := hb3.size
  have hb13 := hb12.trans (hb3.mono hb12.size)
  have hr13 := (hr1.below (hb2.trans (hb3.mono hz2))).mono (Nat.le_trans hz2 hz3)
  have hs1 := sameN_any a2 a1 c2 c1 L.length L w3 rfl (by omega) ((hr2.below hb3).mono hz3) hr13
  have HS2 : Hid (∀ q, Calls Try.prog 21 #[.slice a3 L.length c3, .slice a1 L.length c1] (w3.drewN q) fun e w' => e = .returned (.bool true) ∧ ∃ m, w' = (w3.drewN q).drewN m) := fun q => sameN_any a3 a1 c3 c1 L.length L (w3.drewN q) rfl (by omega) hr3 hr13
  clear HA HB own1 own2 own3 hr1 hr2 hr3 hr13
  go_wp2_with fail
  with_reducible refine hs1.mono ?_
  rintro e w4 ⟨rfl, m4, hq4⟩
  subst w4
  go_wp2_with fail
  with_reducible refine (HS2.out _).mono ?_
  rintro e w5 ⟨rfl, m5, hq5⟩
  have hb15 : Below W.heap.size W w5 := by rw [hq5]; exact below_drewN (below_drewN hb13 _) _
  clear hs1 HS2 hq5
  go_wp2_with fail
  go_ret
  exact ⟨rfl, hb15⟩
end Go.Proofs.Ytacfiecobdbjaaa
