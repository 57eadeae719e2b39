import Derived.Test.YtnjglagfpghbjaaDoorCP5
import Derived.Deep.QuietTactic
import Derived.Test.YtnjglagfpghbjaaDoorCP1
import Derived.Deep.RegionHeld3
import Derived.Deep.MidRow
namespace Go.Proofs.YtnjglagfpghbjaaDoor
open Go.RowKit Go.WideShapes
set_option maxRecDepth 100000

theorem new_rbad (b : Int) (w : World) (hb : b < 8 ∨ 16 < b) :
    Calls Tryd.prog 28 #[.int .i64 b] w fun e w' => e = .returned (.tuple #[.pointer none, .int .i64 90]) ∧ w' = w := by
  rcases hb with hb | hb
  · go_enter Tryd.func28, Tryd.ntmps28
    go_wp2
    go_ret2
    exact ⟨rfl, rfl⟩
  · have h0 : ¬ b < 8 := by omega
    go_enter Tryd.func28, Tryd.ntmps28
    go_wp2
    go_ret2
    exact ⟨rfl, rfl⟩
theorem new_bad (b : Int) (w : World) (hb : b < 8 ∨ 16 < b) :
    Calls Tryd.prog 27 #[.int .i64 b] w fun e w' => e = .returned (.tuple #[.pointer none, .int .i64 90]) ∧ w' = w := by
  rcases hb with hb | hb
  · go_enter Tryd.func27, Tryd.ntmps27
    go_wp2
    go_ret2
    exact ⟨rfl, rfl⟩
  · have h0 : ¬ b < 8 := by omega
    go_enter Tryd.func27, Tryd.ntmps27
    go_wp2
    go_ret2
    exact ⟨rfl, rfl⟩
theorem pow_pw (b : Nat) (h1 : 8 ≤ b) (h2 : b ≤ 16) : Pw (2 ^ b) := by
  have : b = 8 ∨ b = 9 ∨ b = 10 ∨ b = 11 ∨ b = 12 ∨ b = 13 ∨ b = 14 ∨ b = 15 ∨ b = 16 := by omega
  rcases this with rfl | rfl | rfl | rfl | rfl | rfl | rfl | rfl | rfl <;> (unfold Pw; decide)
theorem pow_le (k : Nat) (h : k ≤ 16) : 2 ^ k ≤ 65536 := Nat.pow_le_pow_right (by decide) h
set_option maxHeartbeats 1000000 in
theorem new_r (b : Nat) (w : World) (h1 : 8 ≤ b) (h2 : b ≤ 16) :
    Calls Tryd.prog 28 #[.int .i64 b] w fun e w' => ∃ r g cap, e = .returned (.tuple #[.pointer (some ⟨r, 0, none⟩), .int .i64 0]) ∧ Hid (RefS w' r g cap (List.replicate (2 ^ b) 0) false (.slice none 0 0) [] ∧ Below w.heap.size w w' ∧ w.heap.size ≤ r ∧ w.heap.size ≤ g) := by
  obtain ⟨i0, hi, hz0, hz1, hz2⟩ := info_parts Tryd.info5
  have HP := hidS (pow_pw b h1 h2)
  have b1 : ¬ (b : Int) < 8 := by omega
  have b2 : ¬ (16 : Int) < (b : Int) := by omega
  go_enter Tryd.func28, Tryd.ntmps28
  go_wp2_with fail
  go_loopw [4, 5] (fun v i wr => ∃ (k : Nat), k ≤ b ∧ i = .int .i64 k ∧ v = .int .i64 ((2 ^ k : Nat) : Int) ∧ wr = w)
    (fun _ i _ => b - (intOf i).toNat)
  case atStart => exact ⟨0, Nat.zero_le _, rfl, rfl, rfl⟩
  case round =>
    obtain ⟨k, hk, rfl, rfl, rfl⟩ := hrel
    by_cases hlt : k < b
    · have hltI : (k : Int) < (b : Int) := by omega
      have hp1 : 2 ^ (k + 1) = 2 ^ k * 2 := Nat.pow_succ 2 k
      have hp2 := pow_le (k + 1) (by omega)
      generalize hy0 : 2 ^ k = y at *
      generalize hy2 : 2 ^ (k + 1) = y2 at *
      have hy : wrap64 ((y : Int) * 2) = (y2 : Int) := by unfold wrap64; omega
      have hyb : (y : Int) ≤ 65536 := by omega
      have HY2 := hidS hy2
      clear hy2 hy0
      go_wp2_with fail
      go_roundw
      case rel => refine ⟨k + 1, by omega, by go_num, ?_⟩; rw [HY2.out]; first | (simp; done) | (simp; omega)
      case measure => simp [intOf]; omega
    · obtain rfl : k = b := by omega
      have hltI : ¬ (k : Int) < (k : Int) := by omega
      have hpb := HP.out.bd
      obtain ⟨N, hN⟩ : ∃ N, 2 ^ k = N := ⟨_, rfl⟩
      rw [hN] at hpb
      have HN := hidS hN
      rw [hN]
      clear hN
      go_wp2_with fail
      go_loopw [6, 7] (fun v i wr2 => ∃ (m : Nat), m ≤ N ∧ i = .int .i64 m ∧ wr2.ownsRow wr.heap.size 5 1 v m (bv (List.replicate m 0)) ∧ Below wr.heap.size wr wr2)
        (fun _ i _ => N - (intOf i).toNat)
      case atStart => exact ⟨0, Nat.zero_le _, rfl, World.ownsRow_nil _ _ _ _, Below.refl _ _⟩
      case round =>
        obtain ⟨m, hm, rfl, hown, hbw⟩ := hrel
        by_cases hlt2 : m < N
        · have hltI2 : (m : Int) < (N : Int) := by omega
          have hB := hbw.size
          have HBW := hidS hbw
          have hrs : List.replicate (m + 1) (0 : Int) = List.replicate m 0 ++ [0] := by rw [List.replicate_succ']
          have HRS := hidS hrs
          clear hbw hrs
          go_wp2_with (at_builtin; refine wpList_append_own _ rfl _ _ 32 rfl _ 5 i0 (.int .u8 0) 1 1 Tryd.underlying32 hi hz0 hz1 hz2 rfl (by decide) _ _ _ rfl (hown.alloc _) ⟨_, 0, none⟩ 1 1 [.int .u8 0] rfl rfl ?d1 ?d2 ?d3 ?d4 ?d5 ?_)
          case d1 =>
            intro j u hj
            match j, hj with
            | 0, hj => simp at hj; subst hj; simp [Addr.add]
          case d2 => intro u hu; simp at hu; subst hu; rfl
          case d3 => first | (unfold maxLen; omega) | omega
          case d4 => omega
          case d5 => first | omega | (simp; omega)
          intro v' w1 hown' hgrow _
          have R1 := own_snoc (M := List.replicate (m + 1) 0) HRS.out hown'
          have R2 := grown_below HBW.out hB hown hgrow
          clear hown' hgrow hown
          go_wp2
          go_roundw
          case rel => exact ⟨m + 1, by omega, by go_num, R1, R2⟩
          case measure => simp [intOf]; omega
        · obtain rfl : m = N := by omega
          have hltI2 : ¬ (m : Int) < (m : Int) := by omega
          obtain ⟨gb, c, rfl, _⟩ := own_form hown (by omega)
          have HO := hidS hown
          have HB := hidS hbw
          clear hown hbw
          go_wp2_with fail
          go_ret2
          rw [HN.out]
          have hlr : (List.replicate m (0 : Int)).length = m := List.length_replicate
          have hg := HO.out.lt gb rfl
          have hpm := HP.out
          rw [HN.out] at hpm
          have hb : Below wr.heap.size wr (wr.alloc (.cells #[.slice (some ⟨gb, 0, none⟩) m c, .bool false, .slice none 0 0] 54)) := (Below.refl _ _).alloc (Nat.le_refl _) _
          exact ⟨wr.heap.size, rfl, gb, c, ⟨by rw [hlr]; exact heap_alloc_new wr _, by rw [hlr]; exact (Kp.ofBelow (S := fun _ => False) hb).own (own_base HO.out (Nat.zero_le _)) (fun _ _ h => h), World.ownsRow_nil _ _ _ _, by omega, by simp [Value.ownBlock], by simp [Value.ownBlock], by rw [hlr]; exact hpm, fun z hz => by rw [List.eq_of_mem_replicate hz]; decide, by simp⟩, HB.out.trans (hb.mono HB.out.size), HB.out.size, hg.1⟩
end Go.Proofs.YtnjglagfpghbjaaDoor
namespace Go.Proofs.YtnjglagfpghbjaaDoor
open Go.RowKit Go.WideShapes
set_option maxRecDepth 100000

set_option maxHeartbeats 1000000 in
theorem newp8 (w : World) :
    Calls Tryd.prog 27 #[.int .i64 8] w fun e w' => ∃ a g cap, e = .returned (.tuple #[.pointer (some ⟨a, 0, none⟩), .int .i64 0]) ∧ MemS w' a g cap (List.replicate 256 0) false (.slice none 0 0) [] ∧ Below w.heap.size w w' ∧ w.heap.size ≤ a ∧ w.heap.size ≤ g := by
  obtain ⟨w1, hm, hrow, hb⟩ := make_any .i64 256 (by decide) w
  have hz : (((256 : Nat)) : Int) = 256 := rfl
  rw [hz] at hm
  have hH := hold_any w.heap.size 256 (List.replicate 256 0) w1 (by rw [List.length_replicate]; exact own_base hrow (Nat.zero_le _)) (by rw [List.length_replicate]; exact .inl rfl) (by intro z hz; rw [List.eq_of_mem_replicate hz]; decide)
  rw [List.length_replicate] at hH
  have HH := hidS hH
  have HB := hidS hb
  clear hH hrow hb hz
  go_enter Tryd.func27, Tryd.ntmps27
  go_wp2_with (first
    | (go_at_call 59; with_reducible refine HH.out.mono ?_; rintro e w2 ⟨rfl, hq1, hq2⟩; have HQ1 := hidS hq1; have HQ2 := hidS hq2; clear hq1 hq2)
    | fail)
  go_ret2
  exact ⟨_, _, _, rfl, HQ1.out, HB.out.trans (HQ2.out.mono HB.out.size), HB.out.size, Nat.le_refl _⟩
set_option maxHeartbeats 1000000 in
theorem newp9 (w : World) :
    Calls Tryd.prog 27 #[.int .i64 9] w fun e w' => ∃ a g cap, e = .returned (.tuple #[.pointer (some ⟨a, 0, none⟩), .int .i64 0]) ∧ MemS w' a g cap (List.replicate 512 0) false (.slice none 0 0) [] ∧ Below w.heap.size w w' ∧ w.heap.size ≤ a ∧ w.heap.size ≤ g := by
  obtain ⟨w1, hm, hrow, hb⟩ := make_any .i64 512 (by decide) w
  have hz : (((512 : Nat)) : Int) = 512 := rfl
  rw [hz] at hm
  have hH := hold_any w.heap.size 512 (List.replicate 512 0) w1 (by rw [List.length_replicate]; exact own_base hrow (Nat.zero_le _)) (by rw [List.length_replicate]; exact .inr (.inl rfl)) (by intro z hz; rw [List.eq_of_mem_replicate hz]; decide)
  rw [List.length_replicate] at hH
  have HH := hidS hH
  have HB := hidS hb
  clear hH hrow hb hz
  go_enter Tryd.func27, Tryd.ntmps27
  go_wp2_with (first
    | (go_at_call 59; with_reducible refine HH.out.mono ?_; rintro e w2 ⟨rfl, hq1, hq2⟩; have HQ1 := hidS hq1; have HQ2 := hidS hq2; clear hq1 hq2)
    | fail)
  go_ret2
  exact ⟨_, _, _, rfl, HQ1.out, HB.out.trans (HQ2.out.mono HB.out.size), HB.out.size, Nat.le_refl _⟩
set_option maxHeartbeats 1000000 in
theorem newp10 (w : World) :
    Calls Tryd.prog 27 #[.int .i64 10] w fun e w' => ∃ a g cap, e = .returned (.tuple #[.pointer (some ⟨a, 0, none⟩), .int .i64 0]) ∧ MemS w' a g cap (List.replicate 1024 0) false (.slice none 0 0) [] ∧ Below w.heap.size w w' ∧ w.heap.size ≤ a ∧ w.heap.size ≤ g := by
  obtain ⟨w1, hm, hrow, hb⟩ := make_any .i64 1024 (by decide) w
  have hz : (((1024 : Nat)) : Int) = 1024 := rfl
  rw [hz] at hm
  have hH := hold_any w.heap.size 1024 (List.replicate 1024 0) w1 (by rw [List.length_replicate]; exact own_base hrow (Nat.zero_le _)) (by rw [List.length_replicate]; exact .inr (.inr (.inl rfl))) (by intro z hz; rw [List.eq_of_mem_replicate hz]; decide)
  rw [List.length_replicate] at hH
  have HH := hidS hH
  have HB := hidS hb
  clear hH hrow hb hz
  go_enter Tryd.func27, Tryd.ntmps27
  go_wp2_with (first
    | (go_at_call 59; with_reducible refine HH.out.mono ?_; rintro e w2 ⟨rfl, hq1, hq2⟩; have HQ1 := hidS hq1; have HQ2 := hidS hq2; clear hq1 hq2)
    | fail)
  go_ret2
  exact ⟨_, _, _, rfl, HQ1.out, HB.out.trans (HQ2.out.mono HB.out.size), HB.out.size, Nat.le_refl _⟩
set_option maxHeartbeats 1000000 in
theorem newp11 (w : World) :
    Calls Tryd.prog 27 #[.int .i64 11] w fun e w' => ∃ a g cap, e = .returned (.tuple #[.pointer (some ⟨a, 0, none⟩), .int .i64 0]) ∧ MemS w' a g cap (List.replicate 2048 0) false (.slice none 0 0) [] ∧ Below w.heap.size w w' ∧ w.heap.size ≤ a ∧ w.heap.size ≤ g := by
  obtain ⟨w1, hm, hrow, hb⟩ := make_any .i64 2048 (by decide) w
  have hz : (((2048 : Nat)) : Int) = 2048 := rfl
  rw [hz] at hm
  have hH := hold_any w.heap.size 2048 (List.replicate 2048 0) w1 (by rw [List.length_replicate]; exact own_base hrow (Nat.zero_le _)) (by rw [List.length_replicate]; exact .inr (.inr (.inr (.inl rfl)))) (by intro z hz; rw [List.eq_of_mem_replicate hz]; decide)
  rw [List.length_replicate] at hH
  have HH := hidS hH
  have HB := hidS hb
  clear hH hrow hb hz
  go_enter Tryd.func27, Tryd.ntmps27
  go_wp2_with (first
    | (go_at_call 59; with_reducible refine HH.out.mono ?_; rintro e w2 ⟨rfl, hq1, hq2⟩; have HQ1 := hidS hq1; have HQ2 := hidS hq2; clear hq1 hq2)
    | fail)
  go_ret2
  exact ⟨_, _, _, rfl, HQ1.out, HB.out.trans (HQ2.out.mono HB.out.size), HB.out.size, Nat.le_refl _⟩
set_option maxHeartbeats 1000000 in
theorem newp12 (w : World) :
    Calls Tryd.prog 27 #[.int .i64 12] w fun e w' => ∃ a g cap, e = .returned (.tuple #[.pointer (some ⟨a, 0, none⟩), .int .i64 0]) ∧ MemS w' a g cap (List.replicate 4096 0) false (.slice none 0 0) [] ∧ Below w.heap.size w w' ∧ w.heap.size ≤ a ∧ w.heap.size ≤ g := by
  obtain ⟨w1, hm, hrow, hb⟩ := make_any .i64 4096 (by decide) w
  have hz : (((4096 : Nat)) : Int) = 4096 := rfl
  rw [hz] at hm
  have hH := hold_any w.heap.size 4096 (List.replicate 4096 0) w1 (by rw [List.length_replicate]; exact own_base hrow (Nat.zero_le _)) (by rw [List.length_replicate]; exact .inr (.inr (.inr (.inr (.inl rfl))))) (by intro z hz; rw [List.eq_of_mem_replicate hz]; decide)
  rw [List.length_replicate] at hH
  have HH := hidS hH
  have HB := hidS hb
  clear hH hrow hb hz
  go_enter Tryd.func27, Tryd.ntmps27
  go_wp2_with (first
    | (go_at_call 59; with_reducible refine HH.out.mono ?_; rintro e w2 ⟨rfl, hq1, hq2⟩; have HQ1 := hidS hq1; have HQ2 := hidS hq2; clear hq1 hq2)
    | fail)
  go_ret2
  exact ⟨_, _, _, rfl, HQ1.out, HB.out.trans (HQ2.out.mono HB.out.size), HB.out.size, Nat.le_refl _⟩
set_option maxHeartbeats 1000000 in
theorem newp13 (w : World) :
    Calls Tryd.prog 27 #[.int .i64 13] w fun e w' => ∃ a g cap, e = .returned (.tuple #[.pointer (some ⟨a, 0, none⟩), .int .i64 0]) ∧ MemS w' a g cap (List.replicate 8192 0) false (.slice none 0 0) [] ∧ Below w.heap.size w w' ∧ w.heap.size ≤ a ∧ w.heap.size ≤ g := by
  obtain ⟨w1, hm, hrow, hb⟩ := make_any .i64 8192 (by decide) w
  have hz : (((8192 : Nat)) : Int) = 8192 := rfl
  rw [hz] at hm
  have hH := hold_any w.heap.size 8192 (List.replicate 8192 0) w1 (by rw [List.length_replicate]; exact own_base hrow (Nat.zero_le _)) (by rw [List.length_replicate]; exact .inr (.inr (.inr (.inr (.inr (.inl rfl)))))) (by intro z hz; rw [List.eq_of_mem_replicate hz]; decide)
  rw [List.length_replicate] at hH
  have HH := hidS hH
  have HB := hidS hb
  clear hH hrow hb hz
  go_enter Tryd.func27, Tryd.ntmps27
  go_wp2_with (first
    | (go_at_call 59; with_reducible refine HH.out.mono ?_; rintro e w2 ⟨rfl, hq1, hq2⟩; have HQ1 := hidS hq1; have HQ2 := hidS hq2; clear hq1 hq2)
    | fail)
  go_ret2
  exact ⟨_, _, _, rfl, HQ1.out, HB.out.trans (HQ2.out.mono HB.out.size), HB.out.size, Nat.le_refl _⟩
set_option maxHeartbeats 1000000 in
theorem newp14 (w : World) :
    Calls Tryd.prog 27 #[.int .i64 14] w fun e w' => ∃ a g cap, e = .returned (.tuple #[.pointer (some ⟨a, 0, none⟩), .int .i64 0]) ∧ MemS w' a g cap (List.replicate 16384 0) false (.slice none 0 0) [] ∧ Below w.heap.size w w' ∧ w.heap.size ≤ a ∧ w.heap.size ≤ g := by
  obtain ⟨w1, hm, hrow, hb⟩ := make_any .i64 16384 (by decide) w
  have hz : (((16384 : Nat)) : Int) = 16384 := rfl
  rw [hz] at hm
  have hH := hold_any w.heap.size 16384 (List.replicate 16384 0) w1 (by rw [List.length_replicate]; exact own_base hrow (Nat.zero_le _)) (by rw [List.length_replicate]; exact .inr (.inr (.inr (.inr (.inr (.inr (.inl rfl))))))) (by intro z hz; rw [List.eq_of_mem_replicate hz]; decide)
  rw [List.length_replicate] at hH
  have HH := hidS hH
  have HB := hidS hb
  clear hH hrow hb hz
  go_enter Tryd.func27, Tryd.ntmps27
  go_wp2_with (first
    | (go_at_call 59; with_reducible refine HH.out.mono ?_; rintro e w2 ⟨rfl, hq1, hq2⟩; have HQ1 := hidS hq1; have HQ2 := hidS hq2; clear hq1 hq2)
    | fail)
  go_ret2
  exact ⟨_, _, _, rfl, HQ1.out, HB.out.trans (HQ2.out.mono HB.out.size), HB.out.size, Nat.le_refl _⟩
set_option maxHeartbeats 1000000 in
theorem newp15 (w : World) :
    Calls Tryd.prog 27 #[.int .i64 15] w fun e w' => ∃ a g cap, e = .returned (.tuple #[.pointer (some ⟨a, 0, none⟩), .int .i64 0]) ∧ MemS w' a g cap (List.replicate 32768 0) false (.slice none 0 0) [] ∧ Below w.heap.size w w' ∧ w.heap.size ≤ a ∧ w.heap.size ≤ g := by
  obtain ⟨w1, hm, hrow, hb⟩ := make_any .i64 32768 (by decide) w
  have hz : (((32768 : Nat)) : Int) = 32768 := rfl
  rw [hz] at hm
  have hH := hold_any w.heap.size 32768 (List.replicate 32768 0) w1 (by rw [List.length_replicate]; exact own_base hrow (Nat.zero_le _)) (by rw [List.length_replicate]; exact .inr (.inr (.inr (.inr (.inr (.inr (.inr (.inl rfl)))))))) (by intro z hz; rw [List.eq_of_mem_replicate hz]; decide)
  rw [List.length_replicate] at hH
  have HH := hidS hH
  have HB := hidS hb
  clear hH hrow hb hz
  go_enter Tryd.func27, Tryd.ntmps27
  go_wp2_with (first
    | (go_at_call 59; with_reducible refine HH.out.mono ?_; rintro e w2 ⟨rfl, hq1, hq2⟩; have HQ1 := hidS hq1; have HQ2 := hidS hq2; clear hq1 hq2)
    | fail)
  go_ret2
  exact ⟨_, _, _, rfl, HQ1.out, HB.out.trans (HQ2.out.mono HB.out.size), HB.out.size, Nat.le_refl _⟩
set_option maxHeartbeats 1000000 in
theorem newp16 (w : World) :
    Calls Tryd.prog 27 #[.int .i64 16] w fun e w' => ∃ a g cap, e = .returned (.tuple #[.pointer (some ⟨a, 0, none⟩), .int .i64 0]) ∧ MemS w' a g cap (List.replicate 65536 0) false (.slice none 0 0) [] ∧ Below w.heap.size w w' ∧ w.heap.size ≤ a ∧ w.heap.size ≤ g := by
  obtain ⟨w1, hm, hrow, hb⟩ := make_any .i64 65536 (by decide) w
  have hz : (((65536 : Nat)) : Int) = 65536 := rfl
  rw [hz] at hm
  have hH := hold_any w.heap.size 65536 (List.replicate 65536 0) w1 (by rw [List.length_replicate]; exact own_base hrow (Nat.zero_le _)) (by rw [List.length_replicate]; exact .inr (.inr (.inr (.inr (.inr (.inr (.inr (.inr rfl)))))))) (by intro z hz; rw [List.eq_of_mem_replicate hz]; decide)
  rw [List.length_replicate] at hH
  have HH := hidS hH
  have HB := hidS hb
  clear hH hrow hb hz
  go_enter Tryd.func27, Tryd.ntmps27
  go_wp2_with (first
    | (go_at_call 59; with_reducible refine HH.out.mono ?_; rintro e w2 ⟨rfl, hq1, hq2⟩; have HQ1 := hidS hq1; have HQ2 := hidS hq2; clear hq1 hq2)
    | fail)
  go_ret2
  exact ⟨_, _, _, rfl, HQ1.out, HB.out.trans (HQ2.out.mono HB.out.size), HB.out.size, Nat.le_refl _⟩
theorem new_m (b : Nat) (w : World) (h1 : 8 ≤ b) (h2 : b ≤ 16) :
    Calls Tryd.prog 27 #[.int .i64 b] w fun e w' => ∃ a g cap, e = .returned (.tuple #[.pointer (some ⟨a, 0, none⟩), .int .i64 0]) ∧ MemS w' a g cap (List.replicate (2 ^ b) 0) false (.slice none 0 0) [] ∧ Below w.heap.size w w' ∧ w.heap.size ≤ a ∧ w.heap.size ≤ g := by
  have : b = 8 ∨ b = 9 ∨ b = 10 ∨ b = 11 ∨ b = 12 ∨ b = 13 ∨ b = 14 ∨ b = 15 ∨ b = 16 := by omega
  rcases this with rfl | rfl | rfl | rfl | rfl | rfl | rfl | rfl | rfl
  · exact newp8 w
  · exact newp9 w
  · exact newp10 w
  · exact newp11 w
  · exact newp12 w
  · exact newp13 w
  · exact newp14 w
  · exact newp15 w
  · exact newp16 w
end Go.Proofs.YtnjglagfpghbjaaDoor
namespace Go.Proofs.YtnjglagfpghbjaaDoor
open Go.RowKit Go.WideShapes
set_option maxRecDepth 100000

theorem gn_load (x n : Value) (w : World) : Calls Tryd.prog 37 #[.pointer none, x, n] w fun e w' => e = .returned (.int .u32 0) ∧ w' = w := by
  go_enter Tryd.func37, Tryd.ntmps37
  go_wp2
  go_ret
  exact ⟨rfl, rfl⟩
theorem gn_store (x v n : Value) (w : World) : Calls Tryd.prog 14 #[.pointer none, x, v, n] w fun e w' => e = .returned (.tuple #[]) ∧ w' = w := by
  go_enter Tryd.func14, Tryd.ntmps14
  go_wp2
  refine bodyPost_ret (results_none rfl _ _ _) rfl ?_
  exact ⟨rfl, rfl⟩
theorem gn_copy (x y n : Value) (w : World) : Calls Tryd.prog 43 #[.pointer none, x, y, n] w fun e w' => e = .returned (.int .i64 1) ∧ w' = w := by
  go_enter Tryd.func43, Tryd.ntmps43
  go_wp2
  go_ret
  exact ⟨rfl, rfl⟩
theorem gn_read (x n : Value) (w : World) : Calls Tryd.prog 45 #[.pointer none, x, n] w fun e w' => e = .returned (.tuple #[.slice none 0 0, .int .i64 1]) ∧ w' = w := by
  go_enter Tryd.func45, Tryd.ntmps45
  go_wp2
  go_ret2
  exact ⟨rfl, rfl⟩
theorem gn_write (x b : Value) (w : World) : Calls Tryd.prog 48 #[.pointer none, x, b] w fun e w' => e = .returned (.int .i64 1) ∧ w' = w := by
  go_enter Tryd.func48, Tryd.ntmps48
  go_wp2
  go_ret
  exact ⟨rfl, rfl⟩
theorem gn_all  (w : World) : Calls Tryd.prog 21 #[.pointer none] w fun e w' => e = .returned (.slice none 0 0) ∧ w' = w := by
  go_enter Tryd.func21, Tryd.ntmps21
  go_wp2
  go_ret
  exact ⟨rfl, rfl⟩
theorem gn_clone  (w : World) : Calls Tryd.prog 35 #[.pointer none] w fun e w' => e = .returned (.pointer none) ∧ w' = w := by
  go_enter Tryd.func35, Tryd.ntmps35
  go_wp2
  go_ret
  exact ⟨rfl, rfl⟩
theorem gn_setlog (x : Value) (w : World) : Calls Tryd.prog 9 #[.pointer none, x] w fun e w' => e = .returned (.tuple #[]) ∧ w' = w := by
  go_enter Tryd.func9, Tryd.ntmps9
  go_wp2
  refine bodyPost_ret (results_none rfl _ _ _) rfl ?_
  exact ⟨rfl, rfl⟩
theorem gn_touched  (w : World) : Calls Tryd.prog 12 #[.pointer none] w fun e w' => e = .returned (.slice none 0 0) ∧ w' = w := by
  go_enter Tryd.func12, Tryd.ntmps12
  go_wp2
  go_ret
  exact ⟨rfl, rfl⟩
theorem gn_bits  (w : World) : Calls Tryd.prog 52 #[.pointer none] w fun e w' => e = .returned (.int .i64 0) ∧ w' = w := by
  go_enter Tryd.func52, Tryd.ntmps52
  go_wp2
  go_ret
  exact ⟨rfl, rfl⟩
end Go.Proofs.YtnjglagfpghbjaaDoor
namespace Go.Proofs.YtnjglagfpghbjaaDoor
open Go.RowKit Go.WideShapes
set_option maxRecDepth 100000

set_option maxHeartbeats 1000000 in
theorem bits_r (r g cap K : Nat) (bs : List Int) (on : Bool) (tv : Value) (ts : List (Int × Bool)) (w : World) (h : RefS w r g cap bs on tv ts) (hK : bs.length = 2 ^ K) (hK2 : K ≤ 16) :
    Calls Tryd.prog 52 #[.pointer (some ⟨r, 0, none⟩)] w fun e w' => e = .returned (.int .i64 K) ∧ w' = w := by
  have c0 : w.cell? ⟨r, 0, none⟩ = some (.slice (some ⟨g, 0, none⟩) (2 ^ K) cap) := by rw [← hK]; exact (obj_cell h.obj 0).trans rfl
  have hp := pow_le K hK2
  clear h hK
  generalize hN : 2 ^ K = N at *
  have HN := hidS hN
  clear hN
  go_enter Tryd.func52, Tryd.ntmps52
  go_wp2_with fail
  go_loopw [3, 4] (fun v i wr => ∃ (k m : Nat), k + m = K ∧ v = .int .i64 k ∧ i = .int .i64 ((2 ^ m : Nat) : Int) ∧ wr = w)
    (fun _ i _ => (intOf i).toNat)
  case atStart => exact ⟨0, K, by omega, rfl, by rw [HN.out], rfl⟩
  case round =>
    obtain ⟨k, m, hkm, rfl, rfl, rfl⟩ := hrel
    by_cases hm : m = 0
    · subst hm
      obtain rfl : k = K := by omega
      have h1 : ((2 ^ 0 : Nat) : Int) = 1 := rfl
      rw [h1]
      go_wp2_with fail
      go_ret
      exact ⟨rfl, rfl⟩
    · obtain ⟨j, rfl⟩ : ∃ j, m = j + 1 := ⟨m - 1, by omega⟩
      have hp1 : 2 ^ (j + 1) = 2 ^ j * 2 := Nat.pow_succ 2 j
      have hp2 := pow_le (j + 1) (by omega)
      have hp3 : 0 < 2 ^ j := Nat.pow_pos (by decide)
      generalize hy : 2 ^ j = y at *
      generalize 2 ^ (j + 1) = y2 at *
      have HY := hidS hy
      clear hy
      have h1I : (1 : Int) < (y2 : Int) := by omega
      have hd : (y2 : Int).tdiv 2 = (y : Int) := by rw [Int.tdiv_eq_ediv_of_nonneg (by omega)]; omega
      have hd2 : (y2 : Int) / 2 = (y : Int) := by omega
      go_wp2_with fail
      go_roundw
      case rel => refine ⟨k + 1, j, by omega, by go_num, ?_⟩; rw [HY.out]; first | (simp; done) | (simp; omega) | exact ⟨rfl, rfl⟩
      case measure => simp [intOf]; omega
end Go.Proofs.YtnjglagfpghbjaaDoor
namespace Go.Proofs.YtnjglagfpghbjaaDoor
open Go.RowKit Go.WideShapes
set_option maxRecDepth 100000

/-- Go's table, as far as it is read for 512 -/
def Tab9 (w : World) : Prop := w.cell? ⟨1, 59, none⟩ = some (.int .u8 9)
theorem Tab9.below {B : Nat} {w w' : World} (h : Tab9 w) (hb : Below B w w') (hB : 1 < B) : Tab9 w' := (hb.cell (p := ⟨1, 59, none⟩) hB).trans h
theorem tz64_9 (w : World) (hT : Tab9 w) : Calls Tryd.prog 72 #[.int .u64 512] w fun e w' => e = .returned (.int .i64 9) ∧ w' = w := by
  have hb : bits .and .u64 512 18446744073709551104 = 512 := by kernel_rfl
  have hw0 : IntKind.u64.wrap (-512) = 18446744073709551104 := by kernel_rfl
  have hw1 : IntKind.u64.wrap 146365549082293178880 = 17238340566326317568 := by kernel_rfl
  have hc : w.cell? ⟨1, 59, none⟩ = some (.int .u8 9) := hT
  go_enter Tryd.func72, Tryd.ntmps72
  go_wp2
  go_ret
  exact ⟨rfl, rfl⟩
theorem tz_9 (w : World) (hT : Tab9 w) : Calls Tryd.prog 65 #[.int .u64 512] w fun e w' => e = .returned (.int .i64 9) ∧ w' = w := by
  have hO := tz64_9 w hT
  go_enter Tryd.func65, Tryd.ntmps65
  go_wp2_with (first
    | (go_at_call 72; with_reducible refine hO.mono ?_; rintro e wq ⟨rfl, hq⟩; subst wq)
    | fail)
  go_ret
  exact ⟨rfl, rfl⟩
theorem bits_9 (a g cap : Nat) (bs : List Int) (lg : Bool) (tv : Value) (ts : List (Int × Bool)) (w : World) (h : MemS w a g cap bs lg tv ts) (hl : bs.length = 512) (hT : Tab9 w) :
    Calls Tryd.prog 51 #[.pointer (some ⟨a, 0, none⟩)] w fun e w' => e = .returned (.int .i64 9) ∧ w' = w := by
  have hO := tz_9 w hT
  have hM := made_yes a w ((obj_cell h.obj 0).trans rfl)
  have c1 : w.cell? ⟨a, 1, none⟩ = some (.slice (some ⟨g, 0, none⟩) 512 cap) := by rw [← hl]; exact (obj_cell h.obj 1).trans rfl
  clear h hT
  go_enter Tryd.func51, Tryd.ntmps51
  go_wp2_with (first
    | (go_at_call 24; with_reducible refine hM.mono ?_; rintro e wq ⟨rfl, hq⟩; subst wq)
    | (go_at_call 65; with_reducible refine hO.mono ?_; rintro e wq ⟨rfl, hq⟩; subst wq)
    | fail)
  go_ret
  exact ⟨rfl, rfl⟩
end Go.Proofs.YtnjglagfpghbjaaDoor
namespace Go.Proofs.YtnjglagfpghbjaaDoor
open Go.RowKit Go.WideShapes
set_option maxRecDepth 100000

theorem own_cx {w : World} {B e sz n g c : Nat} {xs : List Value} (h : w.ownsRow B e sz (.slice (some ⟨g, 0, none⟩) n c) n xs) (i : Nat) (v : Value) (hv : xs[i]? = some v) : w.cell? ⟨g, i, none⟩ = some v := by
  have := h.cells (g := g) rfl i v hv
  have hadd : (⟨g, 0, none⟩ : Addr).add i = ⟨g, 0 + i, none⟩ := by unfold Addr.add; split <;> simp_all
  rw [hadd, Nat.zero_add] at this; exact this
theorem tvv_at (ts : List (Int × Bool)) (j : Nat) (h : j < ts.length) : (tvv ts)[j * 2]? = some (.int .u32 ts[j].1) ∧ (tvv ts)[j * 2 + 1]? = some (.bool ts[j].2) := by
  induction ts generalizing j with
  | nil => simp at h
  | cons t ts ih =>
    have e : tvv (t :: ts) = .int .u32 t.1 :: .bool t.2 :: tvv ts := rfl
    rw [e]
    cases j with
    | zero => exact ⟨rfl, rfl⟩
    | succ j =>
      have := ih j (by simpa using h)
      rw [show (j + 1) * 2 = j * 2 + 1 + 1 by omega]
      simpa using this
set_option maxHeartbeats 2000000 in
theorem touches_same (ts : List (Int × Bool)) (to to' : Option Addr) (tc tc' : Nat) (w : World) (hl : ts.length ≤ 65536) (h : w.ownsRow 0 56 2 (.slice to ts.length tc) ts.length (tvv ts)) (h2 : w.ownsRow 0 56 2 (.slice to' ts.length tc') ts.length (tvv ts)) :
    Calls Tryd.prog 10 #[.slice to ts.length tc, .slice to' ts.length tc'] w fun e w' => e = .returned (.bool true) ∧ ∃ m, w' = w.drewN m := by
  have HR := hidS h
  have HR2 := hidS h2
  clear h h2
  go_enter Tryd.func10, Tryd.ntmps10
  go_wp2_with fail
  go_loopw [5] (fun i wr => ∃ k m : Nat, k ≤ ts.length ∧ i = .int .i64 k ∧ wr = w.drewN m)
    (fun i _ => ts.length - (intOf i).toNat)
  case atStart => exact ⟨0, 0, Nat.zero_le _, rfl, rfl⟩
  case round =>
    obtain ⟨k, m, hk, rfl, hw2⟩ := hrel
    by_cases hlt : k < ts.length
    · obtain ⟨g1, c1, e1, _⟩ := own_form HR.out (by omega)
      obtain ⟨g2, c2, e2, _⟩ := own_form HR2.out (by omega)
      simp only [Value.slice.injEq, true_and] at e1 e2
      obtain ⟨rfl, rfl⟩ := e1
      obtain ⟨rfl, rfl⟩ := e2
      obtain ⟨t0, t1⟩ := tvv_at ts k hlt
      have a0 : wr.cell? ⟨g1, k * 2, none⟩ = some (.int .u32 ts[k].1) := by rw [hw2]; exact own_cx HR.out _ _ t0
      have a1 : wr.cell? ⟨g1, k * 2 + 1, none⟩ = some (.bool ts[k].2) := by rw [hw2]; exact own_cx HR.out _ _ t1
      have b0 : wr.cell? ⟨g2, k * 2, none⟩ = some (.int .u32 ts[k].1) := by rw [hw2]; exact own_cx HR2.out _ _ t0
      have b1 : wr.cell? ⟨g2, k * 2 + 1, none⟩ = some (.bool ts[k].2) := by rw [hw2]; exact own_cx HR2.out _ _ t1
      generalize ts[k].1 = p at *
      generalize ts[k].2 = q at *
      have HW2 := hidS hw2
      clear hw2 t0 t1
      have hlt' : (k : Int) < (ts.length : Int) := by omega
      go_wp2_with fail
      go_quiet (fail)
      go_wp2_with fail
      go_roundw
      case rel => exact ⟨k + 1, _, by omega, by go_num, by rw [HW2.out, World.drewN_drewN]⟩
      case measure => simp [intOf]; omega
    · have hlt' : ¬ (k : Int) < (ts.length : Int) := by omega
      have HW2 := hidS hw2
      clear hw2
      go_wp2_with fail
      go_ret
      exact ⟨rfl, _, HW2.out⟩
end Go.Proofs.YtnjglagfpghbjaaDoor
namespace Go.Proofs.YtnjglagfpghbjaaDoor
open Go.RowKit Go.WideShapes

theorem hao (w : World) (o : Obj) {r : Nat} (h : r < w.heap.size) : (w.alloc o).heap[r]? = w.heap[r]? := by
  first | exact heap_alloc_old w o h | exact heap_alloc_old w o _ h
theorem infoTL : (Tryd.prog.info? 40).map (fun i => (i.zero, i.size, i.bytes)) = some (some (.slice none 0 0), 1, 24) := by kernel_rfl
theorem tvv_len (L : List (Int × Bool)) : (tvv L).length = L.length * 2 := by
  induction L with
  | nil => rfl
  | cons x L ih => show (tvv L).length + 1 + 1 = _; rw [ih]; simp; omega
theorem tvv_getD (L : List (Int × Bool)) (i : Nat) (h : i < L.length) : (tvv L)[i * 2]? = some (.int .u32 (L.getD i (0, false)).1) ∧ (tvv L)[i * 2 + 1]? = some (.bool (L.getD i (0, false)).2) := by
  have := tvv_at L i h
  rw [show L.getD i (0, false) = L[i] by simp [List.getD, h]]
  exact this
def mkC (k i : Nat) : Int × Bool := ((1000003 * (k : Int) + (i : Int)) % 4294967296, false)
theorem mk_wr (k e : Nat) (hk : k ≤ 5800000000000) (he : e ≤ 140000000) : wrap64 ((k : Int) + 1) = (k : Int) + 1 ∧ wrap64 (1000003 * ((k : Int) + 1)) = 1000003 * ((k : Int) + 1) ∧ wrap64 (1000003 * ((k : Int) + 1) + (e : Int)) = 1000003 * ((k : Int) + 1) + (e : Int) := by
  unfold wrap64
  refine ⟨?_, ?_, ?_⟩ <;> omega
theorem mk_md (k e : Nat) : (1000003 * ((k : Int) + 1) + (e : Int)) % 4294967296 = (mkC (k + 1) e).1 := by
  show _ = (1000003 * ((k + 1 : Nat) : Int) + (e : Int)) % 4294967296
  rw [Int.natCast_add]
  rfl
theorem mk_md2 (k l e : Nat) : (1000003 * ((k : Int) + 1) + (l : Int) + (e : Int)) % 4294967296 = (mkC (k + 1) (l + e)).1 := by
  show _ = (1000003 * ((k + 1 : Nat) : Int) + ((l + e : Nat) : Int)) % 4294967296
  rw [Int.natCast_add, Int.natCast_add, Int.add_assoc]
  rfl
def mks (k m : Nat) : List (Int × Bool) := (List.range m).map (mkC k)
theorem mks_succ (k m : Nat) : mks k (m + 1) = mks k m ++ [mkC k m] := by unfold mks; rw [List.range_succ, List.map_append]; rfl
theorem mks_len (k m : Nat) : (mks k m).length = m := by simp [mks]
theorem mks_getD (k m i : Nat) (h : i < m) : (mks k m).getD i (0, false) = mkC k i := by simp [mks, h]
theorem mks_take (k m d : Nat) : mks k m = (mks k (m + d)).take m := by
  unfold mks
  rw [← List.map_take, List.take_range, Nat.min_eq_left (by omega)]
/-- lists of instructions of our own, each in memory of its own -/
structure OwnX (w : World) (B : Nat) (lo : Option Addr) (lc n : Nat) (vals : Nat → Value) (Z : Nat → List (Int × Bool)) : Prop where
  row : w.ownsRow B 40 1 (.slice lo n lc) n ((List.range n).map vals)
  each : ∀ i, i < n → w.ownsRow B 56 2 (vals i) (Z i).length (tvv (Z i))
  apart : ∀ i j, i < n → j < n → i ≠ j → (vals i).ownBlock = none ∨ (vals i).ownBlock ≠ (vals j).ownBlock
theorem OwnX.drew {w : World} {B : Nat} {lo : Option Addr} {lc n : Nat} {vals : Nat → Value} {Z : Nat → List (Int × Bool)} (h : OwnX w B lo lc n vals Z) : OwnX w.drew B lo lc n vals Z :=
  ⟨h.row.drew, fun i hi => (h.each i hi).drew, h.apart⟩
theorem OwnX.alloc {w : World} {B : Nat} {lo : Option Addr} {lc n : Nat} {vals : Nat → Value} {Z : Nat → List (Int × Bool)} (h : OwnX w B lo lc n vals Z) (o : Obj) : OwnX (w.alloc o) B lo lc n vals Z :=
  ⟨h.row.alloc o, fun i hi => (h.each i hi).alloc o, h.apart⟩
theorem Touch.alloc {n : Nat} {vals : Nat → Value} {w w1 : World} (h : Touch n vals w w1) (o : Obj) : Touch n vals w (w1.alloc o) :=
  h.trans ⟨rfl, rfl, rfl, by simp, fun b hb _ => hao w1 o hb⟩

/-- a row of instructions begins so -/
def RowX (w : World) (b : Nat) (L : List (Int × Bool)) : Prop := ∃ cur, w.heap[b]? = some (.cells cur 56) ∧ ∀ i, i < L.length → cur[i * 2]? = some (.int .u32 (L.getD i (0, false)).1) ∧ cur[i * 2 + 1]? = some (.bool (L.getD i (0, false)).2)
theorem RowX.of_own {w : World} {B g n cap : Nat} {L M : List (Int × Bool)} (h : w.ownsRow B 56 2 (.slice (some ⟨g, 0, none⟩) n cap) n (tvv L)) (hM : M = L.take M.length) : RowX w g M := by
  have hn : (tvv L).length = n * 2 := h.1
  rcases h.2 with ⟨e, _⟩ | ⟨g', cap', cur, e, _, hg, _, _, _, ht⟩
  · simp at e
  · simp only [Value.slice.injEq, Option.some.injEq, Addr.mk.injEq, and_true, true_and] at e
    obtain ⟨rfl, rfl⟩ := e
    refine ⟨cur, hg, fun i hi => ?_⟩
    have hML : M.length ≤ L.length := by
      have := congrArg List.length hM
      simp at this
      omega
    rw [tvv_len] at hn
    obtain ⟨c0, c1⟩ := tvv_getD L i (by omega)
    have e0 : (cur.toList.take (n * 2))[i * 2]? = (tvv L)[i * 2]? := by rw [ht]
    have e1 : (cur.toList.take (n * 2))[i * 2 + 1]? = (tvv L)[i * 2 + 1]? := by rw [ht]
    rw [List.getElem?_take, if_pos (by omega), Array.getElem?_toList] at e0 e1
    have eg : M.getD i (0, false) = L.getD i (0, false) := by
      rw [hM]
      simp [List.getD_eq_getElem?_getD, hi]
    rw [e0, e1, c0, c1, eg]
    exact ⟨rfl, rfl⟩
theorem RowX.cell {w : World} {b : Nat} {L : List (Int × Bool)} (h : RowX w b L) {i : Nat} (hi : i < L.length) : w.cell? ⟨b, i * 2, none⟩ = some (.int .u32 (L.getD i (0, false)).1) ∧ w.cell? ⟨b, i * 2 + 1, none⟩ = some (.bool (L.getD i (0, false)).2) := by
  obtain ⟨cur, hb, hc⟩ := h
  simp [World.cell?, hb, (hc i hi).1, (hc i hi).2]
theorem RowX.lt {w : World} {b : Nat} {L : List (Int × Bool)} (h : RowX w b L) : b < w.heap.size := by
  obtain ⟨cur, hb, _⟩ := h
  exact (Array.getElem?_eq_some_iff.1 hb).1
theorem RowX.block {w w' : World} {b : Nat} {L : List (Int × Bool)} (h : RowX w b L) (he : w'.heap[b]? = w.heap[b]?) : RowX w' b L := by
  obtain ⟨cur, hb, hc⟩ := h
  exact ⟨cur, he.trans hb, hc⟩
theorem RowX.alloc {w : World} {b : Nat} {L : List (Int × Bool)} (h : RowX w b L) (o : Obj) : RowX (w.alloc o) b L := h.block (hao w o h.lt)
theorem RowX.grown {w w' : World} {b : Nat} {L : List (Int × Bool)} {row : Option Nat} {o : Obj} (h : RowX w b L) (hg : (w.alloc o).grownBy w' row) (hne : row ≠ some b) : RowX w' b L := by
  exact h.block ((hg.block b (by have := h.lt; simp; omega) (fun e => hne e.symm)).trans (hao w o h.lt))
theorem RowX.type {w : World} {b B e n : Nat} {L : List (Int × Bool)} {v : Value} {xs : List Value} (h : RowX w b L) (he : e ≠ 56) (h' : w.ownsRow B e 1 v n xs) : v.ownBlock ≠ some b := by
  intro hb
  obtain ⟨cur, h1, _⟩ := h
  rcases h'.2 with ⟨rfl, _⟩ | ⟨g', cap', cur', rfl, _, hg', _⟩
  · simp [Value.ownBlock] at hb
  · simp only [Value.ownBlock, Option.some.injEq] at hb
    subst hb
    rw [h1] at hg'
    simp only [Option.some.injEq, Obj.cells.injEq] at hg'
    exact he hg'.2.1.symm

/-- one instruction is put behind a row of our own: where the row moves, nothing else has changed -/
theorem wpList_append_keepX {w : World} {ops : Array Oper} {rest : List Oper} {o : Oper} {a : Act} {Q : Exit → Act → World → Prop} (hgd : o.guard = none) (s x : Operand)
    (ho : o.op = .call { callee := .builtin .append, args := #[s, x], argTypes := #[40, 40] })
    (base : Nat) (i : TypeInfo) (hi : Tryd.prog.info? 56 = some i) (hz : i.zero = some (.agg #[.int .u32 0, .bool false])) (hsize : i.size = 2) (hby : i.bytes = 8)
    (v : Value) (n : Nat) (xs : List Value) (hs : a.eval s = v) (hown : w.ownsRow base 56 2 v n xs)
    (ad : Addr) (c : Nat) (us : List Value) (hx : a.eval x = .slice (some ad) 1 c) (hus : us.length = 2) (hnews : ∀ j u', us[j]? = some u' → w.cell? (ad.add j) = some u') (h1 : ∀ u ∈ us, u.oneCell' = true)
    (hbytes : (n + 1) * 8 ≤ 140737488355328) (hbase : base ≤ w.heap.size)
    (h : ∀ g cap w', w'.ownsRow base 56 2 (.slice (some ⟨g, 0, none⟩) (n + 1) cap) (n + 1) (xs ++ us) → (v.ownBlock = some g ∧ w.grownBy w' (some g) ∨ g = w.heap.size ∧ w.grownBy w' none) → wpList Tryd.prog ops Q rest (a.put o.dst (.slice (some ⟨g, 0, none⟩) (n + 1) cap)) w') :
    wpList Tryd.prog ops Q (o :: rest) a w := by
  have h63 : n + 1 ≤ maxLen := by unfold maxLen; omega
  obtain ⟨g, cap, w', hr, h2, h3, h4, _⟩ := run_append_lies (P := Tryd.prog) w 40 o.type base 56 i (.agg #[.int .u32 0, .bool false]) 2 8 Tryd.underlying40 hi hz hsize hby rfl (by decide) v n xs hown ad 1 c us hus hnews h1 (by decide) h63 (by omega) hbase _ rfl
  have hor : v.ownBlock = some g ∧ w.grownBy w' (some g) ∨ g = w.heap.size ∧ w.grownBy w' none := by
    rcases hown.2 with ⟨rfl, _⟩ | ⟨g', cap', cur, rfl, _, hg, hnc, hcm, hcs, _⟩
    · right
      rcases h4 with h4 | h4
      · simp [Value.ownBlock] at h4
      · exact ⟨h4, h3⟩
    · by_cases hroom : n + 1 ≤ cap'
      · left
        have hr2 := run_append_room (P := Tryd.prog) w 40 o.type 56 i Tryd.underlying40 hi g' n cap' cur hg ad 1 c us (by rw [hsize]; exact hus) hnews h1 hroom (by rw [hsize, hcs]; omega)
        rw [hr] at hr2
        injection hr2 with e1 _
        simp only [Value.slice.injEq, Option.some.injEq, Addr.mk.injEq, and_true, true_and] at e1
        obtain ⟨rfl, _⟩ := e1
        exact ⟨rfl, h3⟩
      · right
        have hr2 := run_append_grow (P := Tryd.prog) w 40 o.type 56 i (.agg #[.int .u32 0, .bool false]) Tryd.underlying40 hi hz ⟨g', 0, none⟩ n cap' xs (by rw [hsize]; exact hown.1) (hown.cells (g := g') rfl) ad 1 c us (by rw [hsize]; exact hus) hnews (by omega) (by omega) (by rw [hby]; exact growslice_fits (by omega) (by omega))
        rw [hr] at hr2
        injection hr2 with e1 e2
        simp only [Value.slice.injEq, Option.some.injEq, Addr.mk.injEq, and_true, true_and] at e1
        exact ⟨e1.1, by rw [e2]; exact ⟨rfl, rfl, rfl, by simp, fun k hk _ => hao w.drew _ hk⟩⟩
  refine wpList_plain hgd fun K hK => ?_
  unfold Oper.wp execOp
  simp only [ho, resolve, invoke, builtin, Sem.run_bind, Sem.run_pure, Result.andThen_ok, List.map_toArray, List.map_cons, List.map_nil, hs, hx, hr]
  exact hK _ _ (h g cap w' h2 hor)

theorem cell2 (w : World) (o : Obj) (cs : Array Value) (i : Nat) (v : Value) (h : cs[i]? = some v) : ((w.alloc o).alloc (.cells cs 56)).cell? ⟨w.heap.size + 1, i, none⟩ = some v := by
  have := heap_alloc_new (w.alloc o) (.cells cs 56)
  rw [show (w.alloc o).heap.size = w.heap.size + 1 by simp] at this
  unfold World.cell?
  simp only [this]
  exact h
def updX (Z : Nat → List (Int × Bool)) (k : Nat) (L : List (Int × Bool)) : Nat → List (Int × Bool) := fun j => if j = k then L else Z j
theorem updC_same (Z : Nat → List (Int × Bool)) (k : Nat) (L : List (Int × Bool)) : updX Z k L k = L := by simp [updX]
theorem updC_other (Z : Nat → List (Int × Bool)) {k j : Nat} (L : List (Int × Bool)) (h : ¬ j = k) : updX Z k L j = Z j := by simp [updX, h]
theorem msetX (k : Nat) (L : List (Int × Bool)) (i : Nat) (h : i < L.length) : tvv (mks k (i + 1) ++ L.drop (i + 1)) = ((tvv (mks k i ++ L.drop i)).set (i * 2) (.int .u32 (mkC k i).1)).set (i * 2 + 1) (.bool (mkC k i).2) := by
  have hl : (tvv (mks k i)).length = i * 2 := by rw [tvv_len, mks_len]
  rw [mks_succ, List.drop_eq_getElem_cons h, tvv_append, tvv_append, tvv_append]
  have e : tvv (L[i] :: L.drop (i + 1)) = .int .u32 L[i].1 :: .bool L[i].2 :: tvv (L.drop (i + 1)) := rfl
  rw [e, List.set_append_right _ _ (by omega), List.set_append_right _ _ (by omega), hl]
  simp [tvv]
def gvalX (ℓ gb gc : Nat → Nat) (j : Nat) : Value := .slice (some ⟨gb j, 0, none⟩) (ℓ j + 64) (gc j)
structure StX (w0 : World) (B : Nat) (lo : Option Addr) (lc n : Nat) (vals : Nat → Value) (ℓ : Nat → Nat) (k k' : Nat) (gb gc : Nat → Nat) (vgs : Value) (wr : World) : Prop where
  ls : wr.ownsRow B 40 1 (.slice lo n lc) n ((List.range n).map vals)
  gs : wr.ownsRow B 40 1 vgs k ((List.range k).map (gvalX ℓ gb gc))
  lg : (Value.slice lo n lc).ownBlock = none ∨ (Value.slice lo n lc).ownBlock ≠ vgs.ownBlock
  gf : ∀ b, vgs.ownBlock = some b → w0.heap.size ≤ b
  rest : ∀ j, k' ≤ j → j < n → wr.ownsRow B 56 2 (vals j) (ℓ j) (tvv (mks (j + 1) (ℓ j)))
  old : ∀ j, j < k' → ∀ b, (vals j).ownBlock = some b → RowX wr b (mks (j + 1) (ℓ j))
  new : ∀ j, j < k → RowX wr (gb j) (mks (j + 1) (ℓ j + 64)) ∧ ∀ i, i < n → i ≠ j → (vals i).ownBlock ≠ some (gb j)
  tch : Touch n vals w0 wr
theorem StX.same {w0 wr w5 : World} {B : Nat} {lo : Option Addr} {lc n : Nat} {vals : Nat → Value} {ℓ gb gc : Nat → Nat} {k k' : Nat} {vgs : Value} {o : Obj} (h : StX w0 B lo lc n vals ℓ k k' gb gc vgs wr) (hg : (wr.alloc o).grownBy w5 none) : StX w0 B lo lc n vals ℓ k k' gb gc vgs w5 :=
  ⟨(h.ls.alloc o).kept hg (by cases hq : (Value.slice lo n lc).ownBlock <;> simp), (h.gs.alloc o).kept hg (by cases hq : vgs.ownBlock <;> simp), h.lg, h.gf,
    fun j h1 h2 => ((h.rest j h1 h2).alloc o).kept hg (by cases hq : (vals j).ownBlock <;> simp), fun j h1 b hb => (h.old j h1 b hb).grown hg (by simp), fun j h1 => ⟨(h.new j h1).1.grown hg (by simp), (h.new j h1).2⟩,
    h.tch.alloc_grown hg (fun b e => by cases e)⟩
theorem StX.place {w0 wr w5 : World} {B : Nat} {lo : Option Addr} {lc n : Nat} {vals : Nat → Value} {ℓ gb gc : Nat → Nat} {k g m c c5 : Nat} {vgs : Value} {o : Obj} {L : List (Int × Bool)} (h : StX w0 B lo lc n vals ℓ k (k + 1) gb gc vgs wr)
    (hk : k < n) (hv : wr.ownsRow B 56 2 (.slice (some ⟨g, 0, none⟩) m c) m (tvv L)) (hg : (wr.alloc o).grownBy w5 (some g)) (h5 : w5.ownsRow B 56 2 (.slice (some ⟨g, 0, none⟩) (m + 1) c5) (m + 1) (tvv (mks (k + 1) (m + 1)))) (hm : ℓ k ≤ m)
    (hc1 : ∀ j, j < n → j ≠ k → (vals j).ownBlock ≠ some g) (hc2 : ∀ j, j < k → gb j ≠ g) (hd : (vals k).ownBlock = some g ∨ w0.heap.size ≤ g) : StX w0 B lo lc n vals ℓ k (k + 1) gb gc vgs w5 := by
  refine ⟨(h.ls.alloc o).kept hg ?_, (h.gs.alloc o).kept hg ?_, h.lg, h.gf, fun j h1 h2 => ((h.rest j h1 h2).alloc o).kept hg (.inr (hc1 j h2 (by omega))), fun j h1 b hb => ?_, fun j h1 => ⟨(h.new j h1).1.grown hg ?_, (h.new j h1).2⟩, h.tch.alloc_grown hg ?_⟩
  · have := rows_type (e := 40) (e' := 56) (by decide) h.ls hv
    simpa [Value.ownBlock] using this
  · have := rows_type (e := 40) (e' := 56) (by decide) h.gs hv
    simpa [Value.ownBlock] using this
  · by_cases hbg : b = g
    · subst hbg
      have hjk : j = k := Classical.byContradiction fun hne => hc1 j (by omega) hne hb
      subst hjk
      refine RowX.of_own h5 ?_
      rw [mks_len, show m + 1 = ℓ j + (m + 1 - ℓ j) by omega]
      exact mks_take _ _ _
    · exact (h.old j h1 b hb).grown hg (fun e => hbg (by simpa using e.symm))
  · exact fun e => hc2 j h1 (by simpa using e.symm)
  · intro b e
    simp only [Option.some.injEq] at e
    subst e
    rcases hd with hd | hd
    · exact .inl ⟨k, hk, hd⟩
    · exact .inr hd

theorem StX.alloc {w0 wr : World} {B : Nat} {lo : Option Addr} {lc n : Nat} {vals : Nat → Value} {ℓ gb gc : Nat → Nat} {k k' : Nat} {vgs : Value} (h : StX w0 B lo lc n vals ℓ k k' gb gc vgs wr) (o : Obj) : StX w0 B lo lc n vals ℓ k k' gb gc vgs (wr.alloc o) :=
  ⟨h.ls.alloc o, h.gs.alloc o, h.lg, h.gf, fun j h1 h2 => (h.rest j h1 h2).alloc o, fun j h1 b hb => (h.old j h1 b hb).alloc o, fun j h1 => ⟨(h.new j h1).1.alloc o, (h.new j h1).2⟩, h.tch.alloc o⟩

end Go.Proofs.YtnjglagfpghbjaaDoor
