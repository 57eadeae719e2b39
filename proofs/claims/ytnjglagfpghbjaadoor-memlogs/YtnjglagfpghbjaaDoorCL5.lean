import Derived.Test.YtnjglagfpghbjaaDoorCL4
import Derived.Deep.QuietTactic
import Derived.Test.YtnjglagfpghbjaaDoorCL3
namespace Go.Proofs.YtnjglagfpghbjaaDoor
open Go.RowKit Go.WideShapes
set_option maxRecDepth 100000

theorem new_rbad (b : Int) (w : World) (hb : b < 8 ∨ 16 < b) :
    Calls Tryd.prog 28 #[.int .i64 b] w fun e w' => e = .returned (.tuple #[.pointer none, .int .i64 90]) ∧ w' = w := by
  rcases hb with hb | hb
  · go_enter Tryd.func28, Tryd.ntmps28
    go_wp2
    go_ret2
    exact ⟨rfl, rfl⟩
  · have h0 : ¬ b < 8 := by omega
    go_enter Tryd.func28, Tryd.ntmps28
    go_wp2
    go_ret2
    exact ⟨rfl, rfl⟩
theorem new_bad (b : Int) (w : World) (hb : b < 8 ∨ 16 < b) :
    Calls Tryd.prog 27 #[.int .i64 b] w fun e w' => e = .returned (.tuple #[.pointer none, .int .i64 90]) ∧ w' = w := by
  rcases hb with hb | hb
  · go_enter Tryd.func27, Tryd.ntmps27
    go_wp2
    go_ret2
    exact ⟨rfl, rfl⟩
  · have h0 : ¬ b < 8 := by omega
    go_enter Tryd.func27, Tryd.ntmps27
    go_wp2
    go_ret2
    exact ⟨rfl, rfl⟩
theorem pow_pw (b : Nat) (h1 : 8 ≤ b) (h2 : b ≤ 16) : Pw (2 ^ b) := by
  have : b = 8 ∨ b = 9 ∨ b = 10 ∨ b = 11 ∨ b = 12 ∨ b = 13 ∨ b = 14 ∨ b = 15 ∨ b = 16 := by omega
  rcases this with rfl | rfl | rfl | rfl | rfl | rfl | rfl | rfl | rfl <;> (unfold Pw; decide)
theorem pow_le (k : Nat) (h : k ≤ 16) : 2 ^ k ≤ 65536 := Nat.pow_le_pow_right (by decide) h
set_option maxHeartbeats 1000000 in
theorem new_r (b : Nat) (w : World) (h1 : 8 ≤ b) (h2 : b ≤ 16) :
    Calls Tryd.prog 28 #[.int .i64 b] w fun e w' => ∃ r g cap, e = .returned (.tuple #[.pointer (some ⟨r, 0, none⟩), .int .i64 0]) ∧ Hid (RefS w' r g cap (List.replicate (2 ^ b) 0) false (.slice none 0 0) [] ∧ Below w.heap.size w w' ∧ w.heap.size ≤ r ∧ w.heap.size ≤ g) := by
  obtain ⟨i0, hi, hz0, hz1, hz2⟩ := info_parts Tryd.info5
  have HP := hidS (pow_pw b h1 h2)
  have b1 : ¬ (b : Int) < 8 := by omega
  have b2 : ¬ (16 : Int) < (b : Int) := by omega
  go_enter Tryd.func28, Tryd.ntmps28
  go_wp2_with fail
  go_loopw [4, 5] (fun v i wr => ∃ (k : Nat), k ≤ b ∧ i = .int .i64 k ∧ v = .int .i64 ((2 ^ k : Nat) : Int) ∧ wr = w)
    (fun _ i _ => b - (intOf i).toNat)
  case atStart => exact ⟨0, Nat.zero_le _, rfl, rfl, rfl⟩
  case round =>
    obtain ⟨k, hk, rfl, rfl, rfl⟩ := hrel
    by_cases hlt : k < b
    · have hltI : (k : Int) < (b : Int) := by omega
      have hp1 : 2 ^ (k + 1) = 2 ^ k * 2 := Nat.pow_succ 2 k
      have hp2 := pow_le (k + 1) (by omega)
      generalize hy0 : 2 ^ k = y at *
      generalize hy2 : 2 ^ (k + 1) = y2 at *
      have hy : wrap64 ((y : Int) * 2) = (y2 : Int) := by unfold wrap64; omega
      have hyb : (y : Int) ≤ 65536 := by omega
      have HY2 := hidS hy2
      clear hy2 hy0
      go_wp2_with fail
      go_roundw
      case rel => refine ⟨k + 1, by omega, by go_num, ?_⟩; rw [HY2.out]; first | (simp; done) | (simp; omega)
      case measure => simp [intOf]; omega
    · obtain rfl : k = b := by omega
      have hltI : ¬ (k : Int) < (k : Int) := by omega
      have hpb := HP.out.bd
      obtain ⟨N, hN⟩ : ∃ N, 2 ^ k = N := ⟨_, rfl⟩
      rw [hN] at hpb
      have HN := hidS hN
      rw [hN]
      clear hN
      go_wp2_with fail
      go_loopw [6, 7] (fun v i wr2 => ∃ (m : Nat), m ≤ N ∧ i = .int .i64 m ∧ wr2.ownsRow wr.heap.size 5 1 v m (bv (List.replicate m 0)) ∧ Below wr.heap.size wr wr2)
        (fun _ i _ => N - (intOf i).toNat)
      case atStart => exact ⟨0, Nat.zero_le _, rfl, World.ownsRow_nil _ _ _ _, Below.refl _ _⟩
      case round =>
        obtain ⟨m, hm, rfl, hown, hbw⟩ := hrel
        by_cases hlt2 : m < N
        · have hltI2 : (m : Int) < (N : Int) := by omega
          have hB := hbw.size
          have HBW := hidS hbw
          have hrs : List.replicate (m + 1) (0 : Int) = List.replicate m 0 ++ [0] := by rw [List.replicate_succ']
          have HRS := hidS hrs
          clear hbw hrs
          go_wp2_with (at_builtin; refine wpList_append_own _ rfl _ _ 32 rfl _ 5 i0 (.int .u8 0) 1 1 Tryd.underlying32 hi hz0 hz1 hz2 rfl (by decide) _ _ _ rfl (hown.alloc _) ⟨_, 0, none⟩ 1 1 [.int .u8 0] rfl rfl ?d1 ?d2 ?d3 ?d4 ?d5 ?_)
          case d1 =>
            intro j u hj
            match j, hj with
            | 0, hj => simp at hj; subst hj; simp [Addr.add]
          case d2 => intro u hu; simp at hu; subst hu; rfl
          case d3 => first | (unfold maxLen; omega) | omega
          case d4 => omega
          case d5 => first | omega | (simp; omega)
          intro v' w1 hown' hgrow _
          have R1 := own_snoc (M := List.replicate (m + 1) 0) HRS.out hown'
          have R2 := grown_below HBW.out hB hown hgrow
          clear hown' hgrow hown
          go_wp2
          go_roundw
          case rel => exact ⟨m + 1, by omega, by go_num, R1, R2⟩
          case measure => simp [intOf]; omega
        · obtain rfl : m = N := by omega
          have hltI2 : ¬ (m : Int) < (m : Int) := by omega
          obtain ⟨gb, c, rfl, _⟩ := own_form hown (by omega)
          have HO := hidS hown
          have HB := hidS hbw
          clear hown hbw
          go_wp2_with fail
          go_ret2
          rw [HN.out]
          have hlr : (List.replicate m (0 : Int)).length = m := List.length_replicate
          have hg := HO.out.lt gb rfl
          have hpm := HP.out
          rw [HN.out] at hpm
          have hb : Below wr.heap.size wr (wr.alloc (.cells #[.slice (some ⟨gb, 0, none⟩) m c, .bool false, .slice none 0 0] 54)) := (Below.refl _ _).alloc (Nat.le_refl _) _
          exact ⟨wr.heap.size, rfl, gb, c, ⟨by rw [hlr]; exact heap_alloc_new wr _, by rw [hlr]; exact (Kp.ofBelow (S := fun _ => False) hb).own (own_base HO.out (Nat.zero_le _)) (fun _ _ h => h), World.ownsRow_nil _ _ _ _, by omega, by simp [Value.ownBlock], by simp [Value.ownBlock], by rw [hlr]; exact hpm, fun z hz => by rw [List.eq_of_mem_replicate hz]; decide, by simp⟩, HB.out.trans (hb.mono HB.out.size), HB.out.size, hg.1⟩
end Go.Proofs.YtnjglagfpghbjaaDoor
namespace Go.Proofs.YtnjglagfpghbjaaDoor
open Go.RowKit Go.WideShapes
set_option maxRecDepth 100000

set_option maxHeartbeats 1000000 in
theorem newp8 (w : World) :
    Calls Tryd.prog 27 #[.int .i64 8] w fun e w' => ∃ a g cap, e = .returned (.tuple #[.pointer (some ⟨a, 0, none⟩), .int .i64 0]) ∧ MemS w' a g cap (List.replicate 256 0) false (.slice none 0 0) [] ∧ Below w.heap.size w w' ∧ w.heap.size ≤ a ∧ w.heap.size ≤ g := by
  obtain ⟨w1, hm, hrow, hb⟩ := make_any .i64 256 (by decide) w
  have hz : (((256 : Nat)) : Int) = 256 := rfl
  rw [hz] at hm
  have hH := hold_any w.heap.size 256 (List.replicate 256 0) w1 (by rw [List.length_replicate]; exact own_base hrow (Nat.zero_le _)) (by rw [List.length_replicate]; exact .inl rfl) (by intro z hz; rw [List.eq_of_mem_replicate hz]; decide)
  rw [List.length_replicate] at hH
  have HH := hidS hH
  have HB := hidS hb
  clear hH hrow hb hz
  go_enter Tryd.func27, Tryd.ntmps27
  go_wp2_with (first
    | (go_at_call 59; with_reducible refine HH.out.mono ?_; rintro e w2 ⟨rfl, hq1, hq2⟩; have HQ1 := hidS hq1; have HQ2 := hidS hq2; clear hq1 hq2)
    | fail)
  go_ret2
  exact ⟨_, _, _, rfl, HQ1.out, HB.out.trans (HQ2.out.mono HB.out.size), HB.out.size, Nat.le_refl _⟩
set_option maxHeartbeats 1000000 in
theorem newp9 (w : World) :
    Calls Tryd.prog 27 #[.int .i64 9] w fun e w' => ∃ a g cap, e = .returned (.tuple #[.pointer (some ⟨a, 0, none⟩), .int .i64 0]) ∧ MemS w' a g cap (List.replicate 512 0) false (.slice none 0 0) [] ∧ Below w.heap.size w w' ∧ w.heap.size ≤ a ∧ w.heap.size ≤ g := by
  obtain ⟨w1, hm, hrow, hb⟩ := make_any .i64 512 (by decide) w
  have hz : (((512 : Nat)) : Int) = 512 := rfl
  rw [hz] at hm
  have hH := hold_any w.heap.size 512 (List.replicate 512 0) w1 (by rw [List.length_replicate]; exact own_base hrow (Nat.zero_le _)) (by rw [List.length_replicate]; exact .inr (.inl rfl)) (by intro z hz; rw [List.eq_of_mem_replicate hz]; decide)
  rw [List.length_replicate] at hH
  have HH := hidS hH
  have HB := hidS hb
  clear hH hrow hb hz
  go_enter Tryd.func27, Tryd.ntmps27
  go_wp2_with (first
    | (go_at_call 59; with_reducible refine HH.out.mono ?_; rintro e w2 ⟨rfl, hq1, hq2⟩; have HQ1 := hidS hq1; have HQ2 := hidS hq2; clear hq1 hq2)
    | fail)
  go_ret2
  exact ⟨_, _, _, rfl, HQ1.out, HB.out.trans (HQ2.out.mono HB.out.size), HB.out.size, Nat.le_refl _⟩
set_option maxHeartbeats 1000000 in
theorem newp10 (w : World) :
    Calls Tryd.prog 27 #[.int .i64 10] w fun e w' => ∃ a g cap, e = .returned (.tuple #[.pointer (some ⟨a, 0, none⟩), .int .i64 0]) ∧ MemS w' a g cap (List.replicate 1024 0) false (.slice none 0 0) [] ∧ Below w.heap.size w w' ∧ w.heap.size ≤ a ∧ w.heap.size ≤ g := by
  obtain ⟨w1, hm, hrow, hb⟩ := make_any .i64 1024 (by decide) w
  have hz : (((1024 : Nat)) : Int) = 1024 := rfl
  rw [hz] at hm
  have hH := hold_any w.heap.size 1024 (List.replicate 1024 0) w1 (by rw [List.length_replicate]; exact own_base hrow (Nat.zero_le _)) (by rw [List.length_replicate]; exact .inr (.inr (.inl rfl))) (by intro z hz; rw [List.eq_of_mem_replicate hz]; decide)
  rw [List.length_replicate] at hH
  have HH := hidS hH
  have HB := hidS hb
  clear hH hrow hb hz
  go_enter Tryd.func27, Tryd.ntmps27
  go_wp2_with (first
    | (go_at_call 59; with_reducible refine HH.out.mono ?_; rintro e w2 ⟨rfl, hq1, hq2⟩; have HQ1 := hidS hq1; have HQ2 := hidS hq2; clear hq1 hq2)
    | fail)
  go_ret2
  exact ⟨_, _, _, rfl, HQ1.out, HB.out.trans (HQ2.out.mono HB.out.size), HB.out.size, Nat.le_refl _⟩
set_option maxHeartbeats 1000000 in
theorem newp11 (w : World) :
    Calls Tryd.prog 27 #[.int .i64 11] w fun e w' => ∃ a g cap, e = .returned (.tuple #[.pointer (some ⟨a, 0, none⟩), .int .i64 0]) ∧ MemS w' a g cap (List.replicate 2048 0) false (.slice none 0 0) [] ∧ Below w.heap.size w w' ∧ w.heap.size ≤ a ∧ w.heap.size ≤ g := by
  obtain ⟨w1, hm, hrow, hb⟩ := make_any .i64 2048 (by decide) w
  have hz : (((2048 : Nat)) : Int) = 2048 := rfl
  rw [hz] at hm
  have hH := hold_any w.heap.size 2048 (List.replicate 2048 0) w1 (by rw [List.length_replicate]; exact own_base hrow (Nat.zero_le _)) (by rw [List.length_replicate]; exact .inr (.inr (.inr (.inl rfl)))) (by intro z hz; rw [List.eq_of_mem_replicate hz]; decide)
  rw [List.length_replicate] at hH
  have HH := hidS hH
  have HB := hidS hb
  clear hH hrow hb hz
  go_enter Tryd.func27, Tryd.ntmps27
  go_wp2_with (first
    | (go_at_call 59; with_reducible refine HH.out.mono ?_; rintro e w2 ⟨rfl, hq1, hq2⟩; have HQ1 := hidS hq1; have HQ2 := hidS hq2; clear hq1 hq2)
    | fail)
  go_ret2
  exact ⟨_, _, _, rfl, HQ1.out, HB.out.trans (HQ2.out.mono HB.out.size), HB.out.size, Nat.le_refl _⟩
set_option maxHeartbeats 1000000 in
theorem newp12 (w : World) :
    Calls Tryd.prog 27 #[.int .i64 12] w fun e w' => ∃ a g cap, e = .returned (.tuple #[.pointer (some ⟨a, 0, none⟩), .int .i64 0]) ∧ MemS w' a g cap (List.replicate 4096 0) false (.slice none 0 0) [] ∧ Below w.heap.size w w' ∧ w.heap.size ≤ a ∧ w.heap.size ≤ g := by
  obtain ⟨w1, hm, hrow, hb⟩ := make_any .i64 4096 (by decide) w
  have hz : (((4096 : Nat)) : Int) = 4096 := rfl
  rw [hz] at hm
  have hH := hold_any w.heap.size 4096 (List.replicate 4096 0) w1 (by rw [List.length_replicate]; exact own_base hrow (Nat.zero_le _)) (by rw [List.length_replicate]; exact .inr (.inr (.inr (.inr (.inl rfl))))) (by intro z hz; rw [List.eq_of_mem_replicate hz]; decide)
  rw [List.length_replicate] at hH
  have HH := hidS hH
  have HB := hidS hb
  clear hH hrow hb hz
  go_enter Tryd.func27, Tryd.ntmps27
  go_wp2_with (first
    | (go_at_call 59; with_reducible refine HH.out.mono ?_; rintro e w2 ⟨rfl, hq1, hq2⟩; have HQ1 := hidS hq1; have HQ2 := hidS hq2; clear hq1 hq2)
    | fail)
  go_ret2
  exact ⟨_, _, _, rfl, HQ1.out, HB.out.trans (HQ2.out.mono HB.out.size), HB.out.size, Nat.le_refl _⟩
set_option maxHeartbeats 1000000 in
theorem newp13 (w : World) :
    Calls Tryd.prog 27 #[.int .i64 13] w fun e w' => ∃ a g cap, e = .returned (.tuple #[.pointer (some ⟨a, 0, none⟩), .int .i64 0]) ∧ MemS w' a g cap (List.replicate 8192 0) false (.slice none 0 0) [] ∧ Below w.heap.size w w' ∧ w.heap.size ≤ a ∧ w.heap.size ≤ g := by
  obtain ⟨w1, hm, hrow, hb⟩ := make_any .i64 8192 (by decide) w
  have hz : (((8192 : Nat)) : Int) = 8192 := rfl
  rw [hz] at hm
  have hH := hold_any w.heap.size 8192 (List.replicate 8192 0) w1 (by rw [List.length_replicate]; exact own_base hrow (Nat.zero_le _)) (by rw [List.length_replicate]; exact .inr (.inr (.inr (.inr (.inr (.inl rfl)))))) (by intro z hz; rw [List.eq_of_mem_replicate hz]; decide)
  rw [List.length_replicate] at hH
  have HH := hidS hH
  have HB := hidS hb
  clear hH hrow hb hz
  go_enter Tryd.func27, Tryd.ntmps27
  go_wp2_with (first
    | (go_at_call 59; with_reducible refine HH.out.mono ?_; rintro e w2 ⟨rfl, hq1, hq2⟩; have HQ1 := hidS hq1; have HQ2 := hidS hq2; clear hq1 hq2)
    | fail)
  go_ret2
  exact ⟨_, _, _, rfl, HQ1.out, HB.out.trans (HQ2.out.mono HB.out.size), HB.out.size, Nat.le_refl _⟩
set_option maxHeartbeats 1000000 in
theorem newp14 (w : World) :
    Calls Tryd.prog 27 #[.int .i64 14] w fun e w' => ∃ a g cap, e = .returned (.tuple #[.pointer (some ⟨a, 0, none⟩), .int .i64 0]) ∧ MemS w' a g cap (List.replicate 16384 0) false (.slice none 0 0) [] ∧ Below w.heap.size w w' ∧ w.heap.size ≤ a ∧ w.heap.size ≤ g := by
  obtain ⟨w1, hm, hrow, hb⟩ := make_any .i64 16384 (by decide) w
  have hz : (((16384 : Nat)) : Int) = 16384 := rfl
  rw [hz] at hm
  have hH := hold_any w.heap.size 16384 (List.replicate 16384 0) w1 (by rw [List.length_replicate]; exact own_base hrow (Nat.zero_le _)) (by rw [List.length_replicate]; exact .inr (.inr (.inr (.inr (.inr (.inr (.inl rfl))))))) (by intro z hz; rw [List.eq_of_mem_replicate hz]; decide)
  rw [List.length_replicate] at hH
  have HH := hidS hH
  have HB := hidS hb
  clear hH hrow hb hz
  go_enter Tryd.func27, Tryd.ntmps27
  go_wp2_with (first
    | (go_at_call 59; with_reducible refine HH.out.mono ?_; rintro e w2 ⟨rfl, hq1, hq2⟩; have HQ1 := hidS hq1; have HQ2 := hidS hq2; clear hq1 hq2)
    | fail)
  go_ret2
  exact ⟨_, _, _, rfl, HQ1.out, HB.out.trans (HQ2.out.mono HB.out.size), HB.out.size, Nat.le_refl _⟩
set_option maxHeartbeats 1000000 in
theorem newp15 (w : World) :
    Calls Tryd.prog 27 #[.int .i64 15] w fun e w' => ∃ a g cap, e = .returned (.tuple #[.pointer (some ⟨a, 0, none⟩), .int .i64 0]) ∧ MemS w' a g cap (List.replicate 32768 0) false (.slice none 0 0) [] ∧ Below w.heap.size w w' ∧ w.heap.size ≤ a ∧ w.heap.size ≤ g := by
  obtain ⟨w1, hm, hrow, hb⟩ := make_any .i64 32768 (by decide) w
  have hz : (((32768 : Nat)) : Int) = 32768 := rfl
  rw [hz] at hm
  have hH := hold_any w.heap.size 32768 (List.replicate 32768 0) w1 (by rw [List.length_replicate]; exact own_base hrow (Nat.zero_le _)) (by rw [List.length_replicate]; exact .inr (.inr (.inr (.inr (.inr (.inr (.inr (.inl rfl)))))))) (by intro z hz; rw [List.eq_of_mem_replicate hz]; decide)
  rw [List.length_replicate] at hH
  have HH := hidS hH
  have HB := hidS hb
  clear hH hrow hb hz
  go_enter Tryd.func27, Tryd.ntmps27
  go_wp2_with (first
    | (go_at_call 59; with_reducible refine HH.out.mono ?_; rintro e w2 ⟨rfl, hq1, hq2⟩; have HQ1 := hidS hq1; have HQ2 := hidS hq2; clear hq1 hq2)
    | fail)
  go_ret2
  exact ⟨_, _, _, rfl, HQ1.out, HB.out.trans (HQ2.out.mono HB.out.size), HB.out.size, Nat.le_refl _⟩
set_option maxHeartbeats 1000000 in
theorem newp16 (w : World) :
    Calls Tryd.prog 27 #[.int .i64 16] w fun e w' => ∃ a g cap, e = .returned (.tuple #[.pointer (some ⟨a, 0, none⟩), .int .i64 0]) ∧ MemS w' a g cap (List.replicate 65536 0) false (.slice none 0 0) [] ∧ Below w.heap.size w w' ∧ w.heap.size ≤ a ∧ w.heap.size ≤ g := by
  obtain ⟨w1, hm, hrow, hb⟩ := make_any .i64 65536 (by decide) w
  have hz : (((65536 : Nat)) : Int) = 65536 := rfl
  rw [hz] at hm
  have hH := hold_any w.heap.size 65536 (List.replicate 65536 0) w1 (by rw [List.length_replicate]; exact own_base hrow (Nat.zero_le _)) (by rw [List.length_replicate]; exact .inr (.inr (.inr (.inr (.inr (.inr (.inr (.inr rfl)))))))) (by intro z hz; rw [List.eq_of_mem_replicate hz]; decide)
  rw [List.length_replicate] at hH
  have HH := hidS hH
  have HB := hidS hb
  clear hH hrow hb hz
  go_enter Tryd.func27, Tryd.ntmps27
  go_wp2_with (first
    | (go_at_call 59; with_reducible refine HH.out.mono ?_; rintro e w2 ⟨rfl, hq1, hq2⟩; have HQ1 := hidS hq1; have HQ2 := hidS hq2; clear hq1 hq2)
    | fail)
  go_ret2
  exact ⟨_, _, _, rfl, HQ1.out, HB.out.trans (HQ2.out.mono HB.out.size), HB.out.size, Nat.le_refl _⟩
theorem new_m (b : Nat) (w : World) (h1 : 8 ≤ b) (h2 : b ≤ 16) :
    Calls Tryd.prog 27 #[.int .i64 b] w fun e w' => ∃ a g cap, e = .returned (.tuple #[.pointer (some ⟨a, 0, none⟩), .int .i64 0]) ∧ MemS w' a g cap (List.replicate (2 ^ b) 0) false (.slice none 0 0) [] ∧ Below w.heap.size w w' ∧ w.heap.size ≤ a ∧ w.heap.size ≤ g := by
  have : b = 8 ∨ b = 9 ∨ b = 10 ∨ b = 11 ∨ b = 12 ∨ b = 13 ∨ b = 14 ∨ b = 15 ∨ b = 16 := by omega
  rcases this with rfl | rfl | rfl | rfl | rfl | rfl | rfl | rfl | rfl
  · exact newp8 w
  · exact newp9 w
  · exact newp10 w
  · exact newp11 w
  · exact newp12 w
  · exact newp13 w
  · exact newp14 w
  · exact newp15 w
  · exact newp16 w
end Go.Proofs.YtnjglagfpghbjaaDoor
namespace Go.Proofs.YtnjglagfpghbjaaDoor
open Go.RowKit Go.WideShapes
set_option maxRecDepth 100000

theorem gn_load (x n : Value) (w : World) : Calls Tryd.prog 37 #[.pointer none, x, n] w fun e w' => e = .returned (.int .u32 0) ∧ w' = w := by
  go_enter Tryd.func37, Tryd.ntmps37
  go_wp2
  go_ret
  exact ⟨rfl, rfl⟩
theorem gn_store (x v n : Value) (w : World) : Calls Tryd.prog 14 #[.pointer none, x, v, n] w fun e w' => e = .returned (.tuple #[]) ∧ w' = w := by
  go_enter Tryd.func14, Tryd.ntmps14
  go_wp2
  refine bodyPost_ret (results_none rfl _ _ _) rfl ?_
  exact ⟨rfl, rfl⟩
theorem gn_copy (x y n : Value) (w : World) : Calls Tryd.prog 43 #[.pointer none, x, y, n] w fun e w' => e = .returned (.int .i64 1) ∧ w' = w := by
  go_enter Tryd.func43, Tryd.ntmps43
  go_wp2
  go_ret
  exact ⟨rfl, rfl⟩
theorem gn_read (x n : Value) (w : World) : Calls Tryd.prog 45 #[.pointer none, x, n] w fun e w' => e = .returned (.tuple #[.slice none 0 0, .int .i64 1]) ∧ w' = w := by
  go_enter Tryd.func45, Tryd.ntmps45
  go_wp2
  go_ret2
  exact ⟨rfl, rfl⟩
theorem gn_write (x b : Value) (w : World) : Calls Tryd.prog 48 #[.pointer none, x, b] w fun e w' => e = .returned (.int .i64 1) ∧ w' = w := by
  go_enter Tryd.func48, Tryd.ntmps48
  go_wp2
  go_ret
  exact ⟨rfl, rfl⟩
theorem gn_all  (w : World) : Calls Tryd.prog 21 #[.pointer none] w fun e w' => e = .returned (.slice none 0 0) ∧ w' = w := by
  go_enter Tryd.func21, Tryd.ntmps21
  go_wp2
  go_ret
  exact ⟨rfl, rfl⟩
theorem gn_clone  (w : World) : Calls Tryd.prog 35 #[.pointer none] w fun e w' => e = .returned (.pointer none) ∧ w' = w := by
  go_enter Tryd.func35, Tryd.ntmps35
  go_wp2
  go_ret
  exact ⟨rfl, rfl⟩
theorem gn_setlog (x : Value) (w : World) : Calls Tryd.prog 9 #[.pointer none, x] w fun e w' => e = .returned (.tuple #[]) ∧ w' = w := by
  go_enter Tryd.func9, Tryd.ntmps9
  go_wp2
  refine bodyPost_ret (results_none rfl _ _ _) rfl ?_
  exact ⟨rfl, rfl⟩
theorem gn_touched  (w : World) : Calls Tryd.prog 12 #[.pointer none] w fun e w' => e = .returned (.slice none 0 0) ∧ w' = w := by
  go_enter Tryd.func12, Tryd.ntmps12
  go_wp2
  go_ret
  exact ⟨rfl, rfl⟩
theorem gn_bits  (w : World) : Calls Tryd.prog 52 #[.pointer none] w fun e w' => e = .returned (.int .i64 0) ∧ w' = w := by
  go_enter Tryd.func52, Tryd.ntmps52
  go_wp2
  go_ret
  exact ⟨rfl, rfl⟩
end Go.Proofs.YtnjglagfpghbjaaDoor
namespace Go.Proofs.YtnjglagfpghbjaaDoor
open Go.RowKit Go.WideShapes
set_option maxRecDepth 100000

set_option maxHeartbeats 1000000 in
theorem bits_r (r g cap K : Nat) (bs : List Int) (on : Bool) (tv : Value) (ts : List (Int × Bool)) (w : World) (h : RefS w r g cap bs on tv ts) (hK : bs.length = 2 ^ K) (hK2 : K ≤ 16) :
    Calls Tryd.prog 52 #[.pointer (some ⟨r, 0, none⟩)] w fun e w' => e = .returned (.int .i64 K) ∧ w' = w := by
  have c0 : w.cell? ⟨r, 0, none⟩ = some (.slice (some ⟨g, 0, none⟩) (2 ^ K) cap) := by rw [← hK]; exact (obj_cell h.obj 0).trans rfl
  have hp := pow_le K hK2
  clear h hK
  generalize hN : 2 ^ K = N at *
  have HN := hidS hN
  clear hN
  go_enter Tryd.func52, Tryd.ntmps52
  go_wp2_with fail
  go_loopw [3, 4] (fun v i wr => ∃ (k m : Nat), k + m = K ∧ v = .int .i64 k ∧ i = .int .i64 ((2 ^ m : Nat) : Int) ∧ wr = w)
    (fun _ i _ => (intOf i).toNat)
  case atStart => exact ⟨0, K, by omega, rfl, by rw [HN.out], rfl⟩
  case round =>
    obtain ⟨k, m, hkm, rfl, rfl, rfl⟩ := hrel
    by_cases hm : m = 0
    · subst hm
      obtain rfl : k = K := by omega
      have h1 : ((2 ^ 0 : Nat) : Int) = 1 := rfl
      rw [h1]
      go_wp2_with fail
      go_ret
      exact ⟨rfl, rfl⟩
    · obtain ⟨j, rfl⟩ : ∃ j, m = j + 1 := ⟨m - 1, by omega⟩
      have hp1 : 2 ^ (j + 1) = 2 ^ j * 2 := Nat.pow_succ 2 j
      have hp2 := pow_le (j + 1) (by omega)
      have hp3 : 0 < 2 ^ j := Nat.pow_pos (by decide)
      generalize hy : 2 ^ j = y at *
      generalize 2 ^ (j + 1) = y2 at *
      have HY := hidS hy
      clear hy
      have h1I : (1 : Int) < (y2 : Int) := by omega
      have hd : (y2 : Int).tdiv 2 = (y : Int) := by rw [Int.tdiv_eq_ediv_of_nonneg (by omega)]; omega
      have hd2 : (y2 : Int) / 2 = (y : Int) := by omega
      go_wp2_with fail
      go_roundw
      case rel => refine ⟨k + 1, j, by omega, by go_num, ?_⟩; rw [HY.out]; first | (simp; done) | (simp; omega) | exact ⟨rfl, rfl⟩
      case measure => simp [intOf]; omega
end Go.Proofs.YtnjglagfpghbjaaDoor
namespace Go.Proofs.YtnjglagfpghbjaaDoor
open Go.RowKit Go.WideShapes
set_option maxRecDepth 100000

/-- Go's table, as far as it is read for 512 -/
def Tab9 (w : World) : Prop := w.cell? ⟨1, 59, none⟩ = some (.int .u8 9)
theorem Tab9.below {B : Nat} {w w' : World} (h : Tab9 w) (hb : Below B w w') (hB : 1 < B) : Tab9 w' := (hb.cell (p := ⟨1, 59, none⟩) hB).trans h
theorem tz64_9 (w : World) (hT : Tab9 w) : Calls Tryd.prog 72 #[.int .u64 512] w fun e w' => e = .returned (.int .i64 9) ∧ w' = w := by
  have hb : bits .and .u64 512 18446744073709551104 = 512 := by kernel_rfl
  have hw0 : IntKind.u64.wrap (-512) = 18446744073709551104 := by kernel_rfl
  have hw1 : IntKind.u64.wrap 146365549082293178880 = 17238340566326317568 := by kernel_rfl
  have hc : w.cell? ⟨1, 59, none⟩ = some (.int .u8 9) := hT
  go_enter Tryd.func72, Tryd.ntmps72
  go_wp2
  go_ret
  exact ⟨rfl, rfl⟩
theorem tz_9 (w : World) (hT : Tab9 w) : Calls Tryd.prog 65 #[.int .u64 512] w fun e w' => e = .returned (.int .i64 9) ∧ w' = w := by
  have hO := tz64_9 w hT
  go_enter Tryd.func65, Tryd.ntmps65
  go_wp2_with (first
    | (go_at_call 72; with_reducible refine hO.mono ?_; rintro e wq ⟨rfl, hq⟩; subst wq)
    | fail)
  go_ret
  exact ⟨rfl, rfl⟩
theorem bits_9 (a g cap : Nat) (bs : List Int) (lg : Bool) (tv : Value) (ts : List (Int × Bool)) (w : World) (h : MemS w a g cap bs lg tv ts) (hl : bs.length = 512) (hT : Tab9 w) :
    Calls Tryd.prog 51 #[.pointer (some ⟨a, 0, none⟩)] w fun e w' => e = .returned (.int .i64 9) ∧ w' = w := by
  have hO := tz_9 w hT
  have hM := made_yes a w ((obj_cell h.obj 0).trans rfl)
  have c1 : w.cell? ⟨a, 1, none⟩ = some (.slice (some ⟨g, 0, none⟩) 512 cap) := by rw [← hl]; exact (obj_cell h.obj 1).trans rfl
  clear h hT
  go_enter Tryd.func51, Tryd.ntmps51
  go_wp2_with (first
    | (go_at_call 24; with_reducible refine hM.mono ?_; rintro e wq ⟨rfl, hq⟩; subst wq)
    | (go_at_call 65; with_reducible refine hO.mono ?_; rintro e wq ⟨rfl, hq⟩; subst wq)
    | fail)
  go_ret
  exact ⟨rfl, rfl⟩
end Go.Proofs.YtnjglagfpghbjaaDoor
namespace Go.Proofs.YtnjglagfpghbjaaDoor
open Go.RowKit Go.WideShapes
set_option maxRecDepth 100000

theorem own_cx {w : World} {B e sz n g c : Nat} {xs : List Value} (h : w.ownsRow B e sz (.slice (some ⟨g, 0, none⟩) n c) n xs) (i : Nat) (v : Value) (hv : xs[i]? = some v) : w.cell? ⟨g, i, none⟩ = some v := by
  have := h.cells (g := g) rfl i v hv
  have hadd : (⟨g, 0, none⟩ : Addr).add i = ⟨g, 0 + i, none⟩ := by unfold Addr.add; split <;> simp_all
  rw [hadd, Nat.zero_add] at this; exact this
theorem tvv_at (ts : List (Int × Bool)) (j : Nat) (h : j < ts.length) : (tvv ts)[j * 2]? = some (.int .u32 ts[j].1) ∧ (tvv ts)[j * 2 + 1]? = some (.bool ts[j].2) := by
  induction ts generalizing j with
  | nil => simp at h
  | cons t ts ih =>
    have e : tvv (t :: ts) = .int .u32 t.1 :: .bool t.2 :: tvv ts := rfl
    rw [e]
    cases j with
    | zero => exact ⟨rfl, rfl⟩
    | succ j =>
      have := ih j (by simpa using h)
      rw [show (j + 1) * 2 = j * 2 + 1 + 1 by omega]
      simpa using this
set_option maxHeartbeats 2000000 in
theorem touches_same (ts : List (Int × Bool)) (to to' : Option Addr) (tc tc' : Nat) (w : World) (hl : ts.length ≤ 65536) (h : w.ownsRow 0 56 2 (.slice to ts.length tc) ts.length (tvv ts)) (h2 : w.ownsRow 0 56 2 (.slice to' ts.length tc') ts.length (tvv ts)) :
    Calls Tryd.prog 10 #[.slice to ts.length tc, .slice to' ts.length tc'] w fun e w' => e = .returned (.bool true) ∧ ∃ m, w' = w.drewN m := by
  have HR := hidS h
  have HR2 := hidS h2
  clear h h2
  go_enter Tryd.func10, Tryd.ntmps10
  go_wp2_with fail
  go_loopw [5] (fun i wr => ∃ k m : Nat, k ≤ ts.length ∧ i = .int .i64 k ∧ wr = w.drewN m)
    (fun i _ => ts.length - (intOf i).toNat)
  case atStart => exact ⟨0, 0, Nat.zero_le _, rfl, rfl⟩
  case round =>
    obtain ⟨k, m, hk, rfl, hw2⟩ := hrel
    by_cases hlt : k < ts.length
    · obtain ⟨g1, c1, e1, _⟩ := own_form HR.out (by omega)
      obtain ⟨g2, c2, e2, _⟩ := own_form HR2.out (by omega)
      simp only [Value.slice.injEq, true_and] at e1 e2
      obtain ⟨rfl, rfl⟩ := e1
      obtain ⟨rfl, rfl⟩ := e2
      obtain ⟨t0, t1⟩ := tvv_at ts k hlt
      have a0 : wr.cell? ⟨g1, k * 2, none⟩ = some (.int .u32 ts[k].1) := by rw [hw2]; exact own_cx HR.out _ _ t0
      have a1 : wr.cell? ⟨g1, k * 2 + 1, none⟩ = some (.bool ts[k].2) := by rw [hw2]; exact own_cx HR.out _ _ t1
      have b0 : wr.cell? ⟨g2, k * 2, none⟩ = some (.int .u32 ts[k].1) := by rw [hw2]; exact own_cx HR2.out _ _ t0
      have b1 : wr.cell? ⟨g2, k * 2 + 1, none⟩ = some (.bool ts[k].2) := by rw [hw2]; exact own_cx HR2.out _ _ t1
      generalize ts[k].1 = p at *
      generalize ts[k].2 = q at *
      have HW2 := hidS hw2
      clear hw2 t0 t1
      have hlt' : (k : Int) < (ts.length : Int) := by omega
      go_wp2_with fail
      go_quiet (fail)
      go_wp2_with fail
      go_roundw
      case rel => exact ⟨k + 1, _, by omega, by go_num, by rw [HW2.out, World.drewN_drewN]⟩
      case measure => simp [intOf]; omega
    · have hlt' : ¬ (k : Int) < (ts.length : Int) := by omega
      have HW2 := hidS hw2
      clear hw2
      go_wp2_with fail
      go_ret
      exact ⟨rfl, _, HW2.out⟩
end Go.Proofs.YtnjglagfpghbjaaDoor
namespace Go.Proofs.YtnjglagfpghbjaaDoor
open Go.RowKit Go.WideShapes
set_option maxRecDepth 100000

/-- a thing in memory, whose blocks are all of F -/
structure Pc where
  h : (Nat → Prop) → World → Prop
  fr : ∀ (F G S : Nat → Prop) (W W' : World), h F W → Kp S W W' → (∀ k, k < W.heap.size → F k → ¬ S k ∧ G k) → h G W'
/-- the document's segment with its log, whose blocks are all of F -/
def RefF (F : Nat → Prop) (lg : Bool) (w : World) (a : Nat) (bs : List Int) (ts : List (Int × Bool)) : Prop := ∃ g cap tv, RefS w a g cap bs lg tv ts ∧ ∀ k, Foot a g tv k → F k
def noP : Pc := ⟨fun _ _ => True, fun _ _ _ _ _ _ _ _ => trivial⟩
def objP (o : Nat) (cs : Array Value) (t : TypeId) : Pc := ⟨fun F W => W.heap[o]? = some (.cells cs t (0, 0)) ∧ F o, fun _ _ _ _ _ h hk hs => by
  have hl := (Array.getElem?_eq_some_iff.1 h.1).1
  exact ⟨(hk.block o hl (hs o hl h.2).1).trans h.1, (hs o hl h.2).2⟩⟩
def rowP (e sz : Nat) (v : Value) (n : Nat) (xs : List Value) : Pc := ⟨fun F W => W.ownsRow 0 e sz v n xs ∧ ∀ k, v.ownBlock = some k → F k, fun _ _ _ _ _ h hk hs =>
  ⟨hk.own h.1 (fun k hv => (hs k (h.1.lt k hv).2 (h.2 k hv)).1), fun k hv => (hs k (h.1.lt k hv).2 (h.2 k hv)).2⟩⟩
def outP (w0 : World) : Pc := ⟨fun F W => Below w0.heap.size w0 W ∧ ∀ k, k < w0.heap.size → F k, fun _ _ _ _ _ h hk hs =>
  ⟨⟨hk.os.trans h.1.os, hk.tape.trans h.1.tape, hk.output.trans h.1.output, Nat.le_trans h.1.size hk.size, fun k hl => (hk.block k (Nat.lt_of_lt_of_le hl h.1.size) (hs k (Nat.lt_of_lt_of_le hl h.1.size) (h.2 k hl)).1).trans (h.1.block k hl)⟩,
   fun k hl => (hs k (Nat.lt_of_lt_of_le hl h.1.size) (h.2 k hl)).2⟩⟩
def segP (lg : Bool) (a : Nat) (bs : List Int) (ts : List (Int × Bool)) : Pc := ⟨fun F W => SegF F lg W a bs ts, fun _ _ _ _ _ ⟨g, cap, tv, h1, h3⟩ hk hs =>
  ⟨g, cap, tv, h1.kept hk (fun k hF => (hs k (h1.lt k hF) (h3 k hF)).1), fun k hF => (hs k (h1.lt k hF) (h3 k hF)).2⟩⟩
def refP (lg : Bool) (a : Nat) (bs : List Int) (ts : List (Int × Bool)) : Pc := ⟨fun F W => RefF F lg W a bs ts, fun _ _ _ _ _ ⟨g, cap, tv, h1, h3⟩ hk hs =>
  ⟨g, cap, tv, h1.kept hk (fun k hF => (hs k (h1.lt k hF) (h3 k hF)).1), fun k hF => (hs k (h1.lt k hF) (h3 k hF)).2⟩⟩
/-- all things that are held, each with blocks of its own -/
abbrev Col := Nat × Nat
def Stt (W : World) (M : Col → Pc) : Prop := ∃ col : Nat → Col, ∀ d, (M d).h (fun k => col k = d) W
def upd (M : Col → Pc) (c : Col) (p : Pc) : Col → Pc := fun d => if d = c then p else M d
theorem upd_eq (M : Col → Pc) (c : Col) (p : Pc) : upd M c p c = p := by simp [upd]
theorem upd_ne {M : Col → Pc} {c d : Col} {p : Pc} (h : d ≠ c) : upd M c p d = M d := by simp [upd, h]
/-- one thing is changed, what is new may be its own -/
theorem stt_one {W W' : World} {M : Col → Pc} {col : Nat → Col} {c : Col} {p : Pc} (h : ∀ d, (M d).h (fun k => col k = d) W) (hp : p.h (fun k => k < W.heap.size → col k = c) W') (hk : Kp (fun k => k < W.heap.size → col k = c) W W') : Stt W' (upd M c p) := by
  refine ⟨fun k => if k < W.heap.size then col k else c, fun d => ?_⟩
  by_cases hd : d = c
  · subst hd
    rw [upd_eq]
    refine p.fr _ _ (fun _ => False) _ _ hp (Kp.refl _ _) (fun k _ hF => ⟨id, ?_⟩)
    by_cases hl : k < W.heap.size
    · simp only [hl, if_true]; exact hF hl
    · simp [hl]
  · rw [upd_ne hd]
    refine (M d).fr _ _ _ _ _ (h d) hk (fun k hl hF => ⟨fun hn => hd (hF.symm.trans (hn hl)), ?_⟩)
    simp only [hl, if_true]; exact hF
/-- one thing is changed, and a second one comes out of it or is new -/
theorem stt_two {W W' : World} {M : Col → Pc} {col : Nat → Col} {c c2 : Col} {p q : Pc} {G : Nat → Prop} (h : ∀ d, (M d).h (fun k => col k = d) W) (hp : p.h (fun k => (k < W.heap.size → col k = c) ∧ ¬ G k) W') (hq : q.h (fun k => (k < W.heap.size → col k = c) ∧ G k) W') (hk : Kp (fun k => k < W.heap.size → col k = c) W W') (hc : c ≠ c2) : Stt W' (upd (upd M c p) c2 q) := by
  classical
  refine ⟨fun k => if (k < W.heap.size → col k = c) then (if G k then c2 else c) else col k, fun d => ?_⟩
  by_cases hd2 : d = c2
  · subst hd2
    rw [upd_eq]
    refine q.fr _ _ (fun _ => False) _ _ hq (Kp.refl _ _) (fun k _ hF => ⟨id, ?_⟩)
    simp only [if_pos hF.1, if_pos hF.2]
  rw [upd_ne hd2]
  by_cases hd : d = c
  · subst hd
    rw [upd_eq]
    refine p.fr _ _ (fun _ => False) _ _ hp (Kp.refl _ _) (fun k _ hF => ⟨id, ?_⟩)
    simp only [if_pos hF.1, if_neg hF.2]
  · rw [upd_ne hd]
    refine (M d).fr _ _ _ _ _ (h d) hk (fun k hl hF => ⟨fun hn => hd (hF.symm.trans (hn hl)), ?_⟩)
    simp only
    rw [if_neg (fun hn => hd (hF.symm.trans (hn hl)))]; exact hF
theorem stt_below {W W' : World} {M : Col → Pc} (h : Stt W M) (hb : Below W.heap.size W W') : Stt W' M := by
  obtain ⟨col, h⟩ := h
  exact ⟨col, fun d => (M d).fr _ _ (fun _ => False) _ _ (h d) (Kp.ofBelow hb) (fun k _ hF => ⟨id, hF⟩)⟩
theorem stt_drewN {W : World} {M : Col → Pc} (n : Nat) (h : Stt W M) : Stt (W.drewN n) M := stt_below h ⟨rfl, rfl, rfl, Nat.le_refl _, fun _ _ => rfl⟩
theorem stt_drew {W : World} {M : Col → Pc} (h : Stt W M) : Stt W.drew M := stt_below h ((Below.refl _ _).drew)
/-- a new thing -/
theorem stt_new {W W' : World} {M : Col → Pc} {c : Col} {p : Pc} (h : Stt W M) (hb : Below W.heap.size W W') (hp : p.h (fun k => W.heap.size ≤ k) W') : Stt W' (upd M c p) := by
  obtain ⟨col, h⟩ := h
  refine ⟨fun k => if k < W.heap.size then col k else c, fun d => ?_⟩
  by_cases hd : d = c
  · subst hd
    rw [upd_eq]
    refine p.fr _ _ (fun _ => False) _ _ hp (Kp.refl _ _) (fun k _ hF => ⟨id, ?_⟩)
    exact if_neg (Nat.not_lt.2 hF)
  · rw [upd_ne hd]
    refine (M d).fr _ _ (fun _ => False) _ _ (h d) (Kp.ofBelow hb) (fun k hl hF => ⟨id, ?_⟩)
    simp only [hl, if_true]; exact hF
theorem stt_drop {W : World} {M M' : Col → Pc} (h : Stt W M) (hd : ∀ d, M' d = M d ∨ M' d = noP) : Stt W M' := by
  obtain ⟨col, h⟩ := h
  refine ⟨col, fun d => ?_⟩
  rcases hd d with e | e
  · rw [e]; exact h d
  · rw [e]; trivial
/-- what is held of one thing -/
theorem stt_get {W : World} {M : Col → Pc} {c : Col} {p : Pc} (h : Stt W M) (hc : M c = p) : ∃ F, p.h F W := by
  obtain ⟨col, h⟩ := h
  exact ⟨_, hc ▸ h c⟩
theorem stt_obj {W : World} {M : Col → Pc} {c : Col} {o : Nat} {cs : Array Value} {t : TypeId} (h : Stt W M) (hc : M c = objP o cs t) : W.heap[o]? = some (.cells cs t (0, 0)) := (stt_get h hc).choose_spec.1
theorem stt_cell {W : World} {M : Col → Pc} {c : Col} {o : Nat} {cs : Array Value} {t : TypeId} (h : Stt W M) (hc : M c = objP o cs t) (i : Nat) (v : Value) (hv : cs[i]? = some v) : W.cell? ⟨o, i, none⟩ = some v := (obj_cell (stt_obj h hc) i).trans hv
theorem stt_row {W : World} {M : Col → Pc} {c : Col} {e sz n : Nat} {v : Value} {xs : List Value} (h : Stt W M) (hc : M c = rowP e sz v n xs) : W.ownsRow 0 e sz v n xs := (stt_get h hc).choose_spec.1
theorem stt_out {W w0 : World} {M : Col → Pc} {c : Col} (h : Stt W M) (hc : M c = outP w0) : Below w0.heap.size w0 W := (stt_get h hc).choose_spec.1
/-- a call on one thing -/
theorem stt_call {P : Program} {f : Nat} {args : Array Value} {W : World} {M : Col → Pc} {c : Col} {Q : Ending → Prop} {p p' : Pc} (hM : M c = p) (hS : Stt W M)
    (hc : ∀ F : Nat → Prop, p.h F W → (∀ k, W.heap.size ≤ k → F k) → Calls P f args W fun e w' => Q e ∧ p'.h F w' ∧ Kp F W w') : Calls P f args W fun e w' => Q e ∧ Hid (Stt w' (upd M c p')) := by
  obtain ⟨col, h⟩ := hS
  refine (hc (fun k => k < W.heap.size → col k = c) ?_ (fun k hk hl => by omega)).mono fun e w' ⟨he, hp, hk⟩ => ⟨he, stt_one h hp hk⟩
  exact p.fr _ _ (fun _ => False) _ _ (hM ▸ h c) (Kp.refl _ _) (fun k _ hF => ⟨id, fun _ => hF⟩)
/-- a call on one thing that gives a second one -/
theorem stt_call2 {P : Program} {f : Nat} {args : Array Value} {W : World} {M : Col → Pc} {c c2 : Col} {α : Type} {Q : α → Ending → Prop} {p : Pc} {p' q : α → Pc} (hM : M c = p) (hS : Stt W M) (hne : c ≠ c2)
    (hc : ∀ F : Nat → Prop, p.h F W → (∀ k, W.heap.size ≤ k → F k) → Calls P f args W fun e w' => ∃ x, Q x e ∧ (∃ G : Nat → Prop, (p' x).h (fun k => F k ∧ ¬ G k) w' ∧ (q x).h (fun k => F k ∧ G k) w') ∧ Kp F W w') : Calls P f args W fun e w' => ∃ x, Q x e ∧ Hid (Stt w' (upd (upd M c (p' x)) c2 (q x))) := by
  obtain ⟨col, h⟩ := hS
  refine (hc (fun k => k < W.heap.size → col k = c) ?_ (fun k hk hl => by omega)).mono fun e w' ⟨x, he, ⟨G, hp, hq⟩, hk⟩ => ⟨x, he, stt_two h hp hq hk hne⟩
  exact p.fr _ _ (fun _ => False) _ _ (hM ▸ h c) (Kp.refl _ _) (fun k _ hF => ⟨id, fun _ => hF⟩)
end Go.Proofs.YtnjglagfpghbjaaDoor
namespace Go.Proofs.YtnjglagfpghbjaaDoor
open Go.RowKit Go.WideShapes
set_option maxRecDepth 100000

/-- what a segment holds -/
structure Sg where
  bs : List Int
  lg : Bool
  ts : List (Int × Bool)
/-- a slot: the program's segment at a, the document's at r -/
structure Sl where
  a : Nat
  r : Nat
  g : Sg
def haveV : Option Sl → Value
  | none => .pointer none
  | some s => .pointer (some ⟨s.a, 0, none⟩)
def wantV : Option Sl → Value
  | none => .pointer none
  | some s => .pointer (some ⟨s.r, 0, none⟩)
def segO : Option Sl → Pc
  | none => noP
  | some s => segP s.g.lg s.a s.g.bs s.g.ts
def refO : Option Sl → Pc
  | none => noP
  | some s => refP s.g.lg s.r s.g.bs s.g.ts
def mapS (f : Sg → Sg) : Option Sl → Option Sl
  | none => none
  | some s => some ⟨s.a, s.r, f s.g⟩
def rdG (x n : Nat) (g : Sg) : Sg := ⟨g.bs, g.lg, lgL g.lg g.ts (tcs x n g.bs.length false)⟩
def stG (x n : Nat) (v : Int) (g : Sg) : Sg := ⟨wrL g.bs x ((by4 v).take n), g.lg, lgL g.lg g.ts (tcs x n g.bs.length true)⟩
def wrG (x : Nat) (zs : List Int) (g : Sg) : Sg := ⟨wrL g.bs x zs, g.lg, lgL g.lg g.ts (tcs x zs.length g.bs.length true)⟩
def cpG (to fr n : Nat) (g : Sg) : Sg := ⟨wrL g.bs to (rdL g.bs fr n), g.lg, lgL g.lg (lgL g.lg g.ts (tcs fr n g.bs.length false)) (tcs to n g.bs.length true)⟩
def ldV (x n : Nat) : Option Sl → Int
  | none => 0
  | some s => n4 (rdL s.g.bs x n)
theorem notmade_nil (w : World) : NotMade (.pointer none) w := made_nil w
theorem RefF.wf {F : Nat → Prop} {a : Nat} {lg : Bool} {bs : List Int} {ts : List (Int × Bool)} {w : World} : RefF F lg w a bs ts → ∀ z ∈ bs, 0 ≤ z ∧ z ≤ 255 := fun ⟨_, _, _, h1, _⟩ => h1.wf
theorem reff_after {F : Nat → Prop} {w w' : World} {a g cap : Nat} {bs' : List Int} {lg : Bool} {tv : Value} {ts' : List (Int × Bool)} (h3 : ∀ k, Foot a g tv k → F k) (hB : ∀ k, w.heap.size ≤ k → F k)
    (p : ∃ t2, RefS w' a g cap bs' lg t2 ts' ∧ (∀ j, t2.ownBlock = some j → tv.ownBlock = some j ∨ w.heap.size ≤ j) ∧ Kp (Foot a g tv) w w') : RefF F lg w' a bs' ts' ∧ Kp F w w' := by
  obtain ⟨t2, p1, p2, hk⟩ := p
  refine ⟨⟨g, cap, t2, p1, ?_⟩, hk.mono (fun i _ hi => h3 i hi)⟩
  rintro k (e | e | e)
  · exact h3 k (.inl e)
  · exact h3 k (.inr (.inl e))
  · rcases p2 k e with e | e
    · exact h3 k (.inr (.inr e))
    · exact hB k e
theorem ld1_h (S : Option Sl) (x : Nat) (F : Nat → Prop) (W : World) (h : (segO S).h F W) (hB : ∀ k, W.heap.size ≤ k → F k) (hx : x < 4294967296) :
    Calls Tryd.prog 36 #[haveV S, .int .u32 x] W fun e w' => e = .returned (.int .u32 (ldV x 1 S)) ∧ (segO (mapS (rdG x 1) S)).h F w' ∧ Kp F W w' := by
  cases S with
  | none => exact (nld1 _ _ W (notmade_nil W)).mono fun e w' ⟨he, hw⟩ => ⟨he, trivial, by rw [hw]; exact Kp.refl _ _⟩
  | some s => exact load1_lf F s.a x s.g.lg s.g.bs s.g.ts W h hB hx
theorem st1_h (S : Option Sl) (x v : Nat) (F : Nat → Prop) (W : World) (h : (segO S).h F W) (hB : ∀ k, W.heap.size ≤ k → F k) (hx : x < 4294967296) (hv : v < 4294967296) :
    Calls Tryd.prog 13 #[haveV S, .int .u32 x, .int .u32 v] W fun e w' => e = .returned (.tuple #[]) ∧ (segO (mapS (stG x 1 v) S)).h F w' ∧ Kp F W w' := by
  cases S with
  | none => exact (nst1 _ _ _ W (notmade_nil W)).mono fun e w' ⟨he, hw⟩ => ⟨he, trivial, by rw [hw]; exact Kp.refl _ _⟩
  | some s => exact store1_lf F s.a x v s.g.lg s.g.bs s.g.ts W h hB hx (by omega)
theorem ld2_h (S : Option Sl) (x : Nat) (F : Nat → Prop) (W : World) (h : (segO S).h F W) (hB : ∀ k, W.heap.size ≤ k → F k) (hx : x < 4294967296) :
    Calls Tryd.prog 38 #[haveV S, .int .u32 x] W fun e w' => e = .returned (.int .u32 (ldV x 2 S)) ∧ (segO (mapS (rdG x 2) S)).h F w' ∧ Kp F W w' := by
  cases S with
  | none => exact (nld2 _ _ W (notmade_nil W)).mono fun e w' ⟨he, hw⟩ => ⟨he, trivial, by rw [hw]; exact Kp.refl _ _⟩
  | some s => exact load2_lf F s.a x s.g.lg s.g.bs s.g.ts W h hB hx
theorem st2_h (S : Option Sl) (x v : Nat) (F : Nat → Prop) (W : World) (h : (segO S).h F W) (hB : ∀ k, W.heap.size ≤ k → F k) (hx : x < 4294967296) (hv : v < 4294967296) :
    Calls Tryd.prog 40 #[haveV S, .int .u32 x, .int .u32 v] W fun e w' => e = .returned (.tuple #[]) ∧ (segO (mapS (stG x 2 v) S)).h F w' ∧ Kp F W w' := by
  cases S with
  | none => exact (nst2 _ _ _ W (notmade_nil W)).mono fun e w' ⟨he, hw⟩ => ⟨he, trivial, by rw [hw]; exact Kp.refl _ _⟩
  | some s => exact store2_lf F s.a x v s.g.lg s.g.bs s.g.ts W h hB hx (by omega)
theorem ld4_h (S : Option Sl) (x : Nat) (F : Nat → Prop) (W : World) (h : (segO S).h F W) (hB : ∀ k, W.heap.size ≤ k → F k) (hx : x < 4294967296) :
    Calls Tryd.prog 39 #[haveV S, .int .u32 x] W fun e w' => e = .returned (.int .u32 (ldV x 4 S)) ∧ (segO (mapS (rdG x 4) S)).h F w' ∧ Kp F W w' := by
  cases S with
  | none => exact (nld4 _ _ W (notmade_nil W)).mono fun e w' ⟨he, hw⟩ => ⟨he, trivial, by rw [hw]; exact Kp.refl _ _⟩
  | some s => exact load4_lf F s.a x s.g.lg s.g.bs s.g.ts W h hB hx
theorem st4_h (S : Option Sl) (x v : Nat) (F : Nat → Prop) (W : World) (h : (segO S).h F W) (hB : ∀ k, W.heap.size ≤ k → F k) (hx : x < 4294967296) (hv : v < 4294967296) :
    Calls Tryd.prog 41 #[haveV S, .int .u32 x, .int .u32 v] W fun e w' => e = .returned (.tuple #[]) ∧ (segO (mapS (stG x 4 v) S)).h F w' ∧ Kp F W w' := by
  cases S with
  | none => exact (nst4 _ _ _ W (notmade_nil W)).mono fun e w' ⟨he, hw⟩ => ⟨he, trivial, by rw [hw]; exact Kp.refl _ _⟩
  | some s => exact store4_lf F s.a x v s.g.lg s.g.bs s.g.ts W h hB hx (by omega)
theorem ld_w (n : Nat) (h0 : 0 < n) (h4 : n ≤ 4) (S : Option Sl) (x : Nat) (F : Nat → Prop) (W : World) (h : (refO S).h F W) (hB : ∀ k, W.heap.size ≤ k → F k) (hx : x < 4294967296) :
    Calls Tryd.prog 37 #[wantV S, .int .u32 x, .int .i64 n] W fun e w' => e = .returned (.int .u32 (ldV x n S)) ∧ (refO (mapS (rdG x n) S)).h F w' ∧ Kp F W w' := by
  cases S with
  | none => exact (gn_load _ _ W).mono fun e w' ⟨he, hw⟩ => ⟨he, trivial, by rw [hw]; exact Kp.refl _ _⟩
  | some s =>
    obtain ⟨g, cap, tv, h1, h3⟩ := h
    exact (load_r s.r g cap x n s.g.lg s.g.bs tv s.g.ts W h1 hx h4 h0).mono fun e w' ⟨he, p⟩ => ⟨he, reff_after h3 hB p.out⟩
theorem st_w (n : Nat) (h0 : 0 < n) (h4 : n ≤ 4) (S : Option Sl) (x v : Nat) (F : Nat → Prop) (W : World) (h : (refO S).h F W) (hB : ∀ k, W.heap.size ≤ k → F k) (hx : x < 4294967296) (hv : v < 4294967296) :
    Calls Tryd.prog 14 #[wantV S, .int .u32 x, .int .u32 v, .int .i64 n] W fun e w' => e = .returned (.tuple #[]) ∧ (refO (mapS (stG x n v) S)).h F w' ∧ Kp F W w' := by
  cases S with
  | none => exact (gn_store _ _ _ W).mono fun e w' ⟨he, hw⟩ => ⟨he, trivial, by rw [hw]; exact Kp.refl _ _⟩
  | some s =>
    obtain ⟨g, cap, tv, h1, h3⟩ := h
    exact (store_r s.r g cap x n v s.g.lg s.g.bs tv s.g.ts W h1 hx h4 h0 (by omega)).mono fun e w' ⟨he, p⟩ => ⟨he, reff_after h3 hB p.out⟩
/-- Copy -/
def cpE (n : Nat) : Option Sl → Int
  | none => 1
  | some _ => if n ≤ 4096 then 0 else 92
def cpS (to fr n : Nat) (S : Option Sl) : Option Sl := if n ≤ 4096 then mapS (cpG to fr n) S else S
theorem cp_h (S : Option Sl) (to fr n : Nat) (F : Nat → Prop) (W : World) (h : (segO S).h F W) (hB : ∀ k, W.heap.size ≤ k → F k) (ht : to < 4294967296) (hf : fr < 4294967296) :
    Calls Tryd.prog 42 #[haveV S, .int .u32 to, .int .u32 fr, .int .u32 n] W fun e w' => e = .returned (.int .i64 (cpE n S)) ∧ (segO (cpS to fr n S)).h F w' ∧ Kp F W w' := by
  cases S with
  | none => exact (ncopy _ _ _ _ W (notmade_nil W)).mono fun e w' ⟨he, hw⟩ => ⟨he, by unfold cpS; split <;> trivial, by rw [hw]; exact Kp.refl _ _⟩
  | some s =>
    by_cases hn : n ≤ 4096
    · simp only [cpE, cpS, hn, if_true]
      exact copy_lf F s.a to fr n s.g.lg s.g.bs s.g.ts W h hB ht hf hn
    · simp only [cpE, cpS, hn, if_false]
      exact copy_llf F s.a n _ _ s.g.lg s.g.bs s.g.ts W h (by omega)
theorem cp_w (S : Option Sl) (to fr n : Nat) (F : Nat → Prop) (W : World) (h : (refO S).h F W) (hB : ∀ k, W.heap.size ≤ k → F k) (ht : to < 4294967296) (hf : fr < 4294967296) :
    Calls Tryd.prog 43 #[wantV S, .int .u32 to, .int .u32 fr, .int .u32 n] W fun e w' => e = .returned (.int .i64 (cpE n S)) ∧ (refO (cpS to fr n S)).h F w' ∧ Kp F W w' := by
  cases S with
  | none => exact (gn_copy _ _ _ W).mono fun e w' ⟨he, hw⟩ => ⟨he, by unfold cpS; split <;> trivial, by rw [hw]; exact Kp.refl _ _⟩
  | some s =>
    by_cases hn : n ≤ 4096
    · simp only [cpE, cpS, hn, if_true]
      obtain ⟨g, cap, tv, h1, h3⟩ := h
      exact (copy_r s.r g cap to fr n s.g.lg s.g.bs tv s.g.ts W h1 ht hf hn).mono fun e w' ⟨he, p⟩ => ⟨he, reff_after h3 hB p.out⟩
    · simp only [cpE, cpS, hn, if_false]
      exact (copy_rbad s.r n _ _ W (by omega)).mono fun e w' ⟨he, hw⟩ => ⟨he, by rw [hw]; exact h, by rw [hw]; exact Kp.refl _ _⟩
/-- Read -/
def rdE (N : Int) : Option Sl → Int
  | none => 1
  | some _ => if 0 ≤ N ∧ N ≤ 4096 then 0 else 92
def rdS (x : Nat) (N : Int) (S : Option Sl) : Option Sl := if 0 ≤ N ∧ N ≤ 4096 then mapS (rdG x N.toNat) S else S
def rdD (x : Nat) (N : Int) : Option Sl → List Int
  | none => []
  | some s => if 0 ≤ N ∧ N ≤ 4096 then rdL s.g.bs x N.toNat else []
def rowB (v : Value) (zs : List Int) : Pc := rowP 5 1 v zs.length (bv zs)
theorem nil_row (F : Nat → Prop) (W : World) : (rowB (.slice none 0 0) []).h F W := ⟨⟨rfl, .inl ⟨rfl, rfl⟩⟩, fun k e => by simp [Value.ownBlock] at e⟩
theorem seg_same {F : Nat → Prop} {W : World} {p : Pc} (h : p.h F W) : p.h (fun k => F k ∧ ¬ False) W := p.fr _ _ (fun _ => False) _ _ h (Kp.refl _ _) (fun _ _ hF => ⟨id, hF, id⟩)
theorem seg_split {F G : Nat → Prop} {W : World} {p : Pc} (h : p.h F W) (hG : ∀ k, F k → G k) : p.h G W := p.fr _ _ (fun _ => False) _ _ h (Kp.refl _ _) (fun k _ hF => ⟨id, hG k hF⟩)
theorem rd_h (S : Option Sl) (x : Nat) (N : Int) (F : Nat → Prop) (W : World) (h : (segO S).h F W) (hB : ∀ k, W.heap.size ≤ k → F k) (hx : x < 4294967296) :
    Calls Tryd.prog 44 #[haveV S, .int .u32 x, .int .i64 N] W fun e w' => ∃ v, e = .returned (.tuple #[v, .int .i64 (rdE N S)]) ∧ (∃ G : Nat → Prop, (segO (rdS x N S)).h (fun k => F k ∧ ¬ G k) w' ∧ (rowB v (rdD x N S)).h (fun k => F k ∧ G k) w') ∧ Kp F W w' := by
  cases S with
  | none => exact (nread _ _ _ W (notmade_nil W)).mono fun e w' ⟨he, hw⟩ => ⟨_, he, ⟨fun _ => False, by unfold rdS; split <;> trivial, nil_row _ _⟩, by rw [hw]; exact Kp.refl _ _⟩
  | some s =>
    by_cases hn : 0 ≤ N ∧ N ≤ 4096
    · simp only [rdE, rdS, rdD, hn, and_self, if_true]
      obtain ⟨n, rfl⟩ := Int.eq_ofNat_of_zero_le hn.1
      rw [Int.toNat_natCast]
      obtain ⟨g, cap, tv, h1, h3⟩ := h
      have hf := fun k (hF : Foot s.a g tv k) => h1.lt k hF
      refine (read_m s.g.lg (note_R s.g.lg) s.a g cap x n s.g.bs tv s.g.ts W h1 hx (by omega)).mono fun e w' ⟨he, ⟨t2, p1, p2⟩, hk, hn2⟩ => ⟨_, he, ⟨fun k => k = W.heap.size, ⟨g, cap, t2, p1, ?_⟩, ⟨?_, ?_⟩⟩, hk.mono (fun i _ hi => h3 i hi)⟩
      · rintro k (e | e | e)
        · exact ⟨h3 k (.inl e), fun h => by have := hf k (.inl e); omega⟩
        · exact ⟨h3 k (.inr (.inl e)), fun h => by have := hf k (.inr (.inl e)); omega⟩
        · rcases p2 k e with e | e
          · exact ⟨h3 k (.inr (.inr e)), fun h => by have := hf k (.inr (.inr e)); omega⟩
          · exact ⟨hB k (by omega), by omega⟩
      · refine ⟨by simp [bv, rdL_len], .inr ⟨W.heap.size, n, _, by rw [rdL_len], Nat.zero_le _, hn2, by rw [rdL_len]; omega, by unfold maxLen; omega, by simp [bv, rdL_len], ?_⟩⟩
        rw [List.take_of_length_le (by simp [bv, rdL_len])]
      · intro k e
        simp only [Value.ownBlock, Option.some.injEq] at e
        exact ⟨hB k (by omega), e.symm⟩
    · simp only [rdE, rdS, rdD, hn, if_false]
      exact (read_badf F s.a _ N s.g.lg s.g.bs s.g.ts W h (by omega)).mono fun e w' ⟨he, hw⟩ => ⟨_, he, ⟨fun _ => False, by rw [hw]; exact seg_same h, nil_row _ _⟩, by rw [hw]; exact Kp.refl _ _⟩
theorem rd_w (S : Option Sl) (x : Nat) (N : Int) (F : Nat → Prop) (W : World) (h : (refO S).h F W) (hB : ∀ k, W.heap.size ≤ k → F k) (hx : x < 4294967296) :
    Calls Tryd.prog 45 #[wantV S, .int .u32 x, .int .i64 N] W fun e w' => ∃ v, e = .returned (.tuple #[v, .int .i64 (rdE N S)]) ∧ (∃ G : Nat → Prop, (refO (rdS x N S)).h (fun k => F k ∧ ¬ G k) w' ∧ (rowB v (rdD x N S)).h (fun k => F k ∧ G k) w') ∧ Kp F W w' := by
  cases S with
  | none => exact (gn_read _ _ W).mono fun e w' ⟨he, hw⟩ => ⟨_, he, ⟨fun _ => False, by unfold rdS; split <;> trivial, nil_row _ _⟩, by rw [hw]; exact Kp.refl _ _⟩
  | some s =>
    by_cases hn : 0 ≤ N ∧ N ≤ 4096
    · simp only [rdE, rdS, rdD, hn, and_self, if_true]
      obtain ⟨n, rfl⟩ := Int.eq_ofNat_of_zero_le hn.1
      rw [Int.toNat_natCast]
      obtain ⟨g, cap, tv, h1, h3⟩ := h
      have hf := fun k (hF : Foot s.r g tv k) => h1.lt k hF
      refine (read_r s.r g cap x n s.g.lg s.g.bs tv s.g.ts W h1 hx (by omega)).mono fun e w' ⟨v, t2, he, hq⟩ => ?_
      obtain ⟨hrow, p1, p2, hk, hne⟩ := hq.out
      have hvl : ∀ k, v.ownBlock = some k → W.heap.size ≤ k := fun k e => (hrow.lt k e).1
      refine ⟨v, he, ⟨fun k => v.ownBlock = some k, ⟨g, cap, t2, p1, ?_⟩, ⟨?_, fun k e => ⟨hB k (hvl k e), e⟩⟩⟩, hk.mono (fun i _ hi => h3 i hi)⟩
      · rintro k (e | e | e)
        · exact ⟨h3 k (.inl e), fun h => by have := hf k (.inl e); have := hvl k h; omega⟩
        · exact ⟨h3 k (.inr (.inl e)), fun h => by have := hf k (.inr (.inl e)); have := hvl k h; omega⟩
        · refine ⟨?_, fun h => hne k h e⟩
          rcases p2 k e with e | e
          · exact h3 k (.inr (.inr e))
          · exact hB k e
      · rw [rdL_len]; exact own_base hrow (Nat.zero_le _)
    · simp only [rdE, rdS, rdD, hn, if_false]
      exact (read_rbad s.r _ N W (by omega)).mono fun e w' ⟨he, hw⟩ => ⟨_, he, ⟨fun _ => False, by rw [hw]; exact seg_same h, nil_row _ _⟩, by rw [hw]; exact Kp.refl _ _⟩
/-- Write -/
def wrE (n : Nat) : Option Sl → Int
  | none => 1
  | some _ => if n ≤ 4096 then 0 else 92
def wrS (x : Nat) (zs : List Int) (S : Option Sl) : Option Sl := if zs.length ≤ 4096 then mapS (wrG x zs) S else S
theorem wr_h (S : Option Sl) (x cap : Nat) (bo : Option Addr) (zs : List Int) (F : Nat → Prop) (W : World) (h : (segO S).h F W) (hB : ∀ k, W.heap.size ≤ k → F k) (hx : x < 4294967296) (hc : zs.length ≤ cap) (hwf : ∀ z ∈ zs, 0 ≤ z ∧ z ≤ 255) (hr : Reads W bo zs W.heap.size) (hR : ∀ b off, 0 < zs.length → bo = some ⟨b, off, none⟩ → ¬ F b) :
    Calls Tryd.prog 47 #[haveV S, .int .u32 x, .slice bo zs.length cap] W fun e w' => e = .returned (.int .i64 (wrE zs.length S)) ∧ (segO (wrS x zs S)).h F w' ∧ Kp F W w' := by
  cases S with
  | none => exact (nwrite _ _ _ W (notmade_nil W)).mono fun e w' ⟨he, hw⟩ => ⟨he, by unfold wrS; split <;> trivial, by rw [hw]; exact Kp.refl _ _⟩
  | some s =>
    by_cases hn : zs.length ≤ 4096
    · simp only [wrE, wrS, hn, if_true]
      exact write_lf F s.a x cap bo s.g.lg s.g.bs zs s.g.ts W h hB hx hn hc hwf hr hR
    · simp only [wrE, wrS, hn, if_false]
      exact (write_badf F s.a zs.length cap _ bo s.g.lg s.g.bs s.g.ts W h (by omega)).mono fun e w' ⟨he, hw⟩ => ⟨he, by rw [hw]; exact h, by rw [hw]; exact Kp.refl _ _⟩
theorem wr_w (S : Option Sl) (x cap : Nat) (bo : Option Addr) (zs : List Int) (F : Nat → Prop) (W : World) (h : (refO S).h F W) (hB : ∀ k, W.heap.size ≤ k → F k) (hx : x < 4294967296) (hwf : ∀ z ∈ zs, 0 ≤ z ∧ z ≤ 255) (hr : Reads W bo zs W.heap.size) (hR : ∀ b off, 0 < zs.length → bo = some ⟨b, off, none⟩ → ¬ F b) :
    Calls Tryd.prog 48 #[wantV S, .int .u32 x, .slice bo zs.length cap] W fun e w' => e = .returned (.int .i64 (wrE zs.length S)) ∧ (refO (wrS x zs S)).h F w' ∧ Kp F W w' := by
  cases S with
  | none => exact (gn_write _ _ W).mono fun e w' ⟨he, hw⟩ => ⟨he, by unfold wrS; split <;> trivial, by rw [hw]; exact Kp.refl _ _⟩
  | some s =>
    by_cases hn : zs.length ≤ 4096
    · simp only [wrE, wrS, hn, if_true]
      obtain ⟨g, cp, tv, h1, h3⟩ := h
      by_cases h0 : 0 < zs.length
      · obtain ⟨b, off, rfl, hlt, hcell⟩ := hr h0
        exact (write_r s.r g cp x cap b off (some ⟨b, off, none⟩) s.g.lg s.g.bs zs tv s.g.ts W h1 hx hn hwf (fun _ => ⟨rfl, hlt, hcell⟩) (fun hF => hR b off h0 rfl (h3 b hF))).mono fun e w' ⟨he, p⟩ => ⟨he, reff_after h3 hB p.out⟩
      · exact (write_r s.r g cp x cap W.heap.size 0 bo s.g.lg s.g.bs zs tv s.g.ts W h1 hx hn hwf (fun h => absurd h h0) (fun hF => by have := h1.lt _ hF; omega)).mono fun e w' ⟨he, p⟩ => ⟨he, reff_after h3 hB p.out⟩
    · simp only [wrE, wrS, hn, if_false]
      exact (write_rbad s.r zs.length cap _ bo W (by omega)).mono fun e w' ⟨he, hw⟩ => ⟨he, by rw [hw]; exact h, by rw [hw]; exact Kp.refl _ _⟩
/-- Bytes, All -/
def btD : Option Sl → List Int
  | none => []
  | some s => s.g.bs
theorem bt_h (S : Option Sl) (F : Nat → Prop) (W : World) (h : (segO S).h F W) :
    Calls Tryd.prog 20 #[haveV S] W fun e w' => ∃ v, e = .returned v ∧ (rowB v (btD S)).h (fun k => W.heap.size ≤ k) w' ∧ Below W.heap.size W w' := by
  cases S with
  | none => exact (nbytes _ W (notmade_nil W)).mono fun e w' ⟨he, hw⟩ => ⟨_, he, nil_row _ _, by rw [hw]; exact Below.refl _ _⟩
  | some s => exact (bytes_lf F s.a s.g.lg s.g.bs s.g.ts W h).mono fun e w' ⟨g, c, he, h1, _, h3⟩ => ⟨_, he, ⟨own_base h1 (Nat.zero_le _), fun k e => (h1.lt k e).1⟩, h3⟩
theorem bt_w (S : Option Sl) (F : Nat → Prop) (W : World) (h : (refO S).h F W) :
    Calls Tryd.prog 21 #[wantV S] W fun e w' => ∃ v, e = .returned v ∧ (rowB v (btD S)).h (fun k => W.heap.size ≤ k) w' ∧ Below W.heap.size W w' := by
  cases S with
  | none => exact (gn_all W).mono fun e w' ⟨he, hw⟩ => ⟨_, he, nil_row _ _, by rw [hw]; exact Below.refl _ _⟩
  | some s =>
    obtain ⟨g, cap, tv, h1, h3⟩ := h
    exact (all_r s.r g cap s.g.bs s.g.lg tv s.g.ts W h1).mono fun e w' ⟨g, c, he, hq⟩ => ⟨_, he, ⟨own_base hq.out.1 (Nat.zero_le _), fun k e => (hq.out.1.lt k e).1⟩, hq.out.2⟩
/-- Log, SetLog -/
def lgG (on : Bool) (g : Sg) : Sg := ⟨g.bs, on, []⟩
theorem lg_h (S : Option Sl) (on : Bool) (F : Nat → Prop) (W : World) (h : (segO S).h F W) (hB : ∀ k, W.heap.size ≤ k → F k) :
    Calls Tryd.prog 8 #[haveV S, .bool on] W fun e w' => e = .returned (.tuple #[]) ∧ (segO (mapS (lgG on) S)).h F w' ∧ Kp F W w' := by
  cases S with
  | none => exact (nlog _ _ W (notmade_nil W)).mono fun e w' ⟨he, hw⟩ => ⟨he, trivial, by rw [hw]; exact Kp.refl _ _⟩
  | some s => exact log_lf F s.a s.g.lg on s.g.bs s.g.ts W h hB
theorem lg_w (S : Option Sl) (on : Bool) (F : Nat → Prop) (W : World) (h : (refO S).h F W) (_hB : ∀ k, W.heap.size ≤ k → F k) :
    Calls Tryd.prog 9 #[wantV S, .bool on] W fun e w' => e = .returned (.tuple #[]) ∧ (refO (mapS (lgG on) S)).h F w' ∧ Kp F W w' := by
  cases S with
  | none => exact (gn_setlog _ W).mono fun e w' ⟨he, hw⟩ => ⟨he, trivial, by rw [hw]; exact Kp.refl _ _⟩
  | some s =>
    obtain ⟨g, cap, tv, h1, h3⟩ := h
    refine (setlog_r s.r g cap s.g.bs s.g.lg on tv s.g.ts W h1).mono fun e w' ⟨he, p, hk⟩ => ⟨he, ⟨g, cap, _, p, ?_⟩, hk.mono (fun i _ hi => h3 i (.inl hi))⟩
    rintro k (e | e | e)
    · exact h3 k (.inl e)
    · exact h3 k (.inr (.inl e))
    · simp [Value.ownBlock] at e
/-- Touched -/
def tcG (g : Sg) : Sg := ⟨g.bs, g.lg, []⟩
def tcD : Option Sl → List (Int × Bool)
  | none => []
  | some s => s.g.ts
def rowT (v : Value) (ts : List (Int × Bool)) : Pc := rowP 56 2 v ts.length (tvv ts)
theorem nil_rowT (F : Nat → Prop) (W : World) : (rowT (.slice none 0 0) []).h F W := ⟨⟨rfl, .inl ⟨rfl, rfl⟩⟩, fun k e => by simp [Value.ownBlock] at e⟩
theorem tc_h (S : Option Sl) (F : Nat → Prop) (W : World) (h : (segO S).h F W) (_hB : ∀ k, W.heap.size ≤ k → F k) :
    Calls Tryd.prog 11 #[haveV S] W fun e w' => ∃ v, e = .returned v ∧ (∃ G : Nat → Prop, (segO (mapS tcG S)).h (fun k => F k ∧ ¬ G k) w' ∧ (rowT v (tcD S)).h (fun k => F k ∧ G k) w') ∧ Kp F W w' := by
  cases S with
  | none => exact (ntouch _ W (notmade_nil W)).mono fun e w' ⟨he, hw⟩ => ⟨_, he, ⟨fun _ => False, trivial, nil_rowT _ _⟩, by rw [hw]; exact Kp.refl _ _⟩
  | some s =>
    obtain ⟨g, cap, tv, h1, h3⟩ := h
    refine (touched_any s.a g cap s.g.bs s.g.lg tv s.g.ts W h1).mono fun e w' ⟨he, p, hl, hk⟩ => ⟨tv, he, ⟨fun k => tv.ownBlock = some k, ⟨g, cap, _, p, ?_⟩, hl, fun k e => ⟨h3 k (.inr (.inr e)), e⟩⟩, hk.mono (fun i _ hi => h3 i (.inl hi))⟩
    rintro k (e | e | e)
    · exact ⟨h3 k (.inl e), fun h => h1.na (e ▸ h)⟩
    · exact ⟨h3 k (.inr (.inl e)), fun h => h1.ng (e ▸ h)⟩
    · simp [Value.ownBlock] at e
theorem tc_w (S : Option Sl) (F : Nat → Prop) (W : World) (h : (refO S).h F W) (_hB : ∀ k, W.heap.size ≤ k → F k) :
    Calls Tryd.prog 12 #[wantV S] W fun e w' => ∃ v, e = .returned v ∧ (∃ G : Nat → Prop, (refO (mapS tcG S)).h (fun k => F k ∧ ¬ G k) w' ∧ (rowT v (tcD S)).h (fun k => F k ∧ G k) w') ∧ Kp F W w' := by
  cases S with
  | none => exact (gn_touched W).mono fun e w' ⟨he, hw⟩ => ⟨_, he, ⟨fun _ => False, trivial, nil_rowT _ _⟩, by rw [hw]; exact Kp.refl _ _⟩
  | some s =>
    obtain ⟨g, cap, tv, h1, h3⟩ := h
    refine (touched_r s.r g cap s.g.bs s.g.lg tv s.g.ts W h1).mono fun e w' ⟨he, p, hl, hk⟩ => ⟨tv, he, ⟨fun k => tv.ownBlock = some k, ⟨g, cap, _, p, ?_⟩, hl, fun k e => ⟨h3 k (.inr (.inr e)), e⟩⟩, hk.mono (fun i _ hi => h3 i (.inl hi))⟩
    rintro k (e | e | e)
    · exact ⟨h3 k (.inl e), fun h => h1.na (e ▸ h)⟩
    · exact ⟨h3 k (.inr (.inl e)), fun h => h1.ng (e ▸ h)⟩
    · simp [Value.ownBlock] at e
end Go.Proofs.YtnjglagfpghbjaaDoor
