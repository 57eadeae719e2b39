import Derived.Test.YtipgpigcpbckgaaDoorMPar
namespace Go.Proofs.YtipgpigcpbckgaaDoor
open Go.RowKit Go.WideShapes Go.Sort Go.Lib
set_option maxRecDepth 100000

theorem parse_any (ao : Option Addr) (cap : Nat) (zs : List Int) (w : World) (hcp : zs.length ≤ cap) (hwf : ∀ z ∈ zs, 0 ≤ z ∧ z ≤ 255) (hr : Reads w ao zs w.heap.size) (hg : Sg w) :
    Calls Tryd.prog 6 #[.slice ao zs.length cap] w fun e w' => ParPost zs e ∧ Below w.heap.size w w' := by
  by_cases h1 : zs.length < 64
  · refine (parse_bad ao zs.length cap w zs.length 80 (by decide) (fun W _ => (header_lo ao zs.length cap W h1).mono fun e w' ⟨he, hw⟩ => ⟨he, by rw [hw]; exact Below.refl _ _⟩)).mono ?_
    rintro e w' ⟨rfl, hb⟩
    exact ⟨⟨_, _, _, _, _, _, _, _, rfl, i6_all rfl rfl rfl rfl rfl rfl, fun h => absurd h (by decide)⟩, hb⟩
  · by_cases h2 : 1048576 < zs.length
    · refine (parse_bad ao zs.length cap w 1048576 80 (by decide) (fun W _ => (header_hi ao zs.length cap W h2).mono fun e w' ⟨he, hw⟩ => ⟨he, by rw [hw]; exact Below.refl _ _⟩)).mono ?_
      rintro e w' ⟨rfl, hb⟩
      exact ⟨⟨_, _, _, _, _, _, _, _, rfl, i6_all rfl rfl rfl rfl rfl rfl, fun h => absurd h (by decide)⟩, hb⟩
    · obtain ⟨b, off, rfl, _⟩ := hr (by omega)
      exact parse_mid b off cap zs w (by omega) (by omega) hcp hwf hr hg
theorem parse_nil (w : World) :
    Calls Tryd.prog 6 #[.slice none 0 0] w fun e w' => e = .returned (.tuple #[.agg #[.slice none 0 0, .slice none 0 0, .slice none 0 0, .int .u32 0, .int .u32 0, .slice none 0 0], .int .i64 0, .int .i64 80]) ∧ Below w.heap.size w w' :=
  parse_bad none 0 0 w 0 80 (by decide) (fun W _ => (header_lo none 0 0 W (by decide)).mono fun e w' ⟨he, hw⟩ => ⟨he, by rw [hw]; exact Below.refl _ _⟩)
set_option maxHeartbeats 1000000 in
theorem stack64 (w : World) :
    Calls Tryd.prog 28 #[.int .u32 64] w fun e w' => e = .returned (.bool true) ∧ w' = w := by
  go_enter Tryd.func28, Tryd.ntmps28
  go_wp2
  go_ret
  exact ⟨rfl, rfl⟩
set_option maxHeartbeats 1000000 in
theorem small_any (w : World) :
    Calls Tryd.prog 12 #[] w fun e w' => e = .returned (.agg #[.slice (some ⟨w.heap.size + 1, 0, none⟩) 1 1, .slice none 0 0, .slice (some ⟨w.heap.size + 1 + 1, 0, none⟩) 1 1, .int .u32 0, .int .u32 64, .slice none 0 0]) ∧ w'.heap[w.heap.size + 1]? = some (.cells #[.int .u8 3, .int .u32 4] 56) ∧ Below w.heap.size w w' := by
  go_enter Tryd.func12, Tryd.ntmps12
  go_wp2_with fail
  obtain ⟨fs, hu⟩ := undI6
  have hR : (((w.alloc (.cells #[.slice (some ⟨w.heap.size + 1, 0, none⟩) 1 1, .slice none 0 0, .slice (some ⟨w.heap.size + 1 + 1, 0, none⟩) 1 1, .int .u32 0, .int .u32 64, .slice none 0 0] 29)).alloc (.cells #[.int .u8 3, .int .u32 4] 56)).alloc (.cells #[.int .u8 7] 5)).heap[w.heap.size]? = some (.cells #[.slice (some ⟨w.heap.size + 1, 0, none⟩) 1 1, .slice none 0 0, .slice (some ⟨w.heap.size + 1 + 1, 0, none⟩) 1 1, .int .u32 0, .int .u32 64, .slice none 0 0] 29) := by
    rw [Below.heap_alloc _ _ _ (by simp; omega), Below.heap_alloc _ _ _ (by simp)]
    exact heap_alloc_last w _
  refine bodyPost_ret (results_cell_row (p := 0) (ty := 29) (by kernel_rfl) _ _ w.heap.size 29 _ (0, 0) _ rfl hR hu rfl (by rw [infoI6]; rfl)) rfl ⟨rfl, ?_, belS (belS (belS (Below.refl _ _)))⟩
  rw [Below.heap_alloc _ _ _ (by simp)]
  have := heap_alloc_last (w.alloc (.cells #[.slice (some ⟨w.heap.size + 1, 0, none⟩) 1 1, .slice none 0 0, .slice (some ⟨w.heap.size + 1 + 1, 0, none⟩) 1 1, .int .u32 0, .int .u32 64, .slice none 0 0] 29)) (.cells #[.int .u8 3, .int .u32 4] 56)
  simpa using this
set_option maxHeartbeats 2000000 in
theorem check_small (B C : Nat) (w : World) (hB : w.heap[B]? = some (.cells #[.int .u8 3, .int .u32 4] 56)) :
    Calls Tryd.prog 20 #[.agg #[.slice (some ⟨B, 0, none⟩) 1 1, .slice none 0 0, .slice (some ⟨C, 0, none⟩) 1 1, .int .u32 0, .int .u32 64, .slice none 0 0]] w fun e w' => e = .returned (.int .i64 0) ∧ Below w.heap.size w w' := by
  have hlt : B < w.heap.size := (Array.getElem?_eq_some_iff.1 hB).1
  have hK : ∀ W, Calls Tryd.prog 34 #[.agg #[.int .u8 3, .int .u32 4]] W fun e w' => e = .returned (.int .i64 0) ∧ Below W.heap.size W w' := fun W => check_any 3 4 W (by decide)
  have hS := fun W => stack64 W
  have hRm : ∀ W, Calls Tryd.prog 21 #[.agg #[.slice (some ⟨B, 0, none⟩) 1 1, .slice none 0 0, .slice (some ⟨C, 0, none⟩) 1 1, .int .u32 0, .int .u32 64, .slice none 0 0]] W fun e w' => e = .returned (.int .u64 65) ∧ Below W.heap.size W w' := fun W => room_any (.slice (some ⟨B, 0, none⟩) 1 1) (.slice none 0 0) (.slice none 0 0) (some ⟨C, 0, none⟩) 1 1 0 64 W rfl rfl rfl (by decide) (by decide) (by decide)
  have HK := hidS hK
  have HS := hidS hS
  have HRm := hidS hRm
  have bA : Below w.heap.size w (w.alloc (.cells #[.slice (some ⟨B, 0, none⟩) 1 1, .slice none 0 0, .slice (some ⟨C, 0, none⟩) 1 1, .int .u32 0, .int .u32 64, .slice none 0 0] 29)) := belS (Below.refl _ _)
  have hA := heap_alloc_last w (.cells #[.slice (some ⟨B, 0, none⟩) 1 1, .slice none 0 0, .slice (some ⟨C, 0, none⟩) 1 1, .int .u32 0, .int .u32 64, .slice none 0 0] 29)
  have hB1 := (bA.block B hlt).trans hB
  have hsA : (w.alloc (.cells #[.slice (some ⟨B, 0, none⟩) 1 1, .slice none 0 0, .slice (some ⟨C, 0, none⟩) 1 1, .int .u32 0, .int .u32 64, .slice none 0 0] 29)).heap.size = w.heap.size + 1 := by simp
  clear hK hS hRm hB
  go_enter Tryd.func20, Tryd.ntmps20
  go_wp2_with fail
  generalize w.alloc (.cells #[.slice (some ⟨B, 0, none⟩) 1 1, .slice none 0 0, .slice (some ⟨C, 0, none⟩) 1 1, .int .u32 0, .int .u32 64, .slice none 0 0] 29) = W0 at *
  go_loopw [15] (fun i wr => ∃ k : Nat, k ≤ 1 ∧ i = .int .i64 k ∧ Below W0.heap.size W0 wr) (fun i _ => 1 - (intOf i).toNat)
  case atStart => exact ⟨0, by omega, rfl, Below.refl _ _⟩
  case round =>
    obtain ⟨k, hk, rfl, hb⟩ := hrel
    have hBr := (hb.block B (by omega)).trans hB1
    have hAr := (hb.block w.heap.size (by omega)).trans hA
    have d0 := blk_cell hBr (i := 0) rfl
    have d1 := blk_cell hBr (i := 1) rfl
    by_cases hlt1 : k < 1
    · obtain rfl : k = 0 := by omega
      go_wp2_with fail
      with_reducible refine (HK.out _).mono ?_
      rintro e wq ⟨rfl, hq⟩
      have hbq := btS (belS (o := .cells #[.int .u8 3, .int .u32 4] 56) hb) hq
      go_wp2_with fail
      go_roundw
      case rel => exact ⟨1, by omega, by go_num, hbq⟩
      case measure => simp [intOf]
    · obtain rfl : k = 1 := by omega
      have i0 := blk_cell hAr (i := 0) rfl
      have i1 := blk_cell hAr (i := 1) rfl
      have i2 := blk_cell hAr (i := 2) rfl
      have i3 := blk_cell hAr (i := 3) rfl
      have i4 := blk_cell hAr (i := 4) rfl
      have i5 := blk_cell hAr (i := 5) rfl
      go_wp2_with fail
      with_reducible refine (HS.out _).mono ?_
      rintro e wq ⟨rfl, hq⟩
      subst wq
      go_wp2_with fail
      with_reducible refine (HRm.out _).mono ?_
      rintro e W2 ⟨rfl, b2⟩
      have hA2 := (b2.block w.heap.size (by have := hb.size; omega)).trans hAr
      clear i0 i1 i2 i3 i4 i5
      have i5 := blk_cell hA2 (i := 5) rfl
      have BF := btS (btS bA hb) b2
      go_wp2_with fail
      go_loop [41] (fun i => i = .int .i64 0) (fun _ => 0)
      case atStart => rfl
      case round =>
        obtain rfl := hrel
        go_wp2_with fail
        go_ret
        exact ⟨rfl, BF⟩
set_option maxHeartbeats 2000000 in
theorem bits_small (B C : Nat) (w : World) (hB : w.heap[B]? = some (.cells #[.int .u8 3, .int .u32 4] 56)) :
    Calls Tryd.prog 11 #[.agg #[.slice (some ⟨B, 0, none⟩) 1 1, .slice none 0 0, .slice (some ⟨C, 0, none⟩) 1 1, .int .u32 0, .int .u32 64, .slice none 0 0]] w fun e w' => e = .returned (.tuple #[.int .i64 8, .int .i64 0]) ∧ Below w.heap.size w w' := by
  have hlt : B < w.heap.size := (Array.getElem?_eq_some_iff.1 hB).1
  have hRm : ∀ W, Calls Tryd.prog 21 #[.agg #[.slice (some ⟨B, 0, none⟩) 1 1, .slice none 0 0, .slice (some ⟨C, 0, none⟩) 1 1, .int .u32 0, .int .u32 64, .slice none 0 0]] W fun e w' => e = .returned (.int .u64 65) ∧ Below W.heap.size W w' := fun W => room_any (.slice (some ⟨B, 0, none⟩) 1 1) (.slice none 0 0) (.slice none 0 0) (some ⟨C, 0, none⟩) 1 1 0 64 W rfl rfl rfl (by decide) (by decide) (by decide)
  have HRm := hidS hRm
  have bA : Below w.heap.size w (w.alloc (.cells #[.slice (some ⟨B, 0, none⟩) 1 1, .slice none 0 0, .slice (some ⟨C, 0, none⟩) 1 1, .int .u32 0, .int .u32 64, .slice none 0 0] 29)) := belS (Below.refl _ _)
  have hA := heap_alloc_last w (.cells #[.slice (some ⟨B, 0, none⟩) 1 1, .slice none 0 0, .slice (some ⟨C, 0, none⟩) 1 1, .int .u32 0, .int .u32 64, .slice none 0 0] 29)
  have hC := check_small B C (w.alloc (.cells #[.slice (some ⟨B, 0, none⟩) 1 1, .slice none 0 0, .slice (some ⟨C, 0, none⟩) 1 1, .int .u32 0, .int .u32 64, .slice none 0 0] 29)) ((bA.block B hlt).trans hB)
  have hsA : (w.alloc (.cells #[.slice (some ⟨B, 0, none⟩) 1 1, .slice none 0 0, .slice (some ⟨C, 0, none⟩) 1 1, .int .u32 0, .int .u32 64, .slice none 0 0] 29)).heap.size = w.heap.size + 1 := by simp
  clear hRm hB
  go_enter Tryd.func11, Tryd.ntmps11
  go_wp2_with fail
  with_reducible refine hC.mono ?_
  rintro e W1 ⟨rfl, b1⟩
  have hA1 := (b1.block w.heap.size (by omega)).trans hA
  have i0 := blk_cell hA1 (i := 0) rfl
  have i1 := blk_cell hA1 (i := 1) rfl
  have i2 := blk_cell hA1 (i := 2) rfl
  have i3 := blk_cell hA1 (i := 3) rfl
  have i4 := blk_cell hA1 (i := 4) rfl
  have i5 := blk_cell hA1 (i := 5) rfl
  have B1 := btS bA b1
  clear hC hA
  go_wp2_with fail
  go_loopw [5] (fun i wr => i = .int .i64 8 ∧ wr = W1) (fun _ _ => 0)
  case atStart => exact ⟨rfl, rfl⟩
  case round =>
    obtain ⟨rfl, hwr⟩ := hrel
    subst wr
    go_wp2_with fail
    go_region_with (first | (go_at_call 21; with_reducible refine (HRm.out _).mono ?_; rintro e wq ⟨rfl, hq⟩))
    go_wp2_with fail
    refine bodyPost_ret (results_tmp2 rfl _ _ _) rfl ?_
    exact ⟨rfl, by first | exact btS B1 hq | exact Below.drew (btS B1 hq) | exact btS B1 (btS (Below.drew (Below.refl _ _)) hq)⟩
set_option maxHeartbeats 2000000 in
theorem lives_any (w : World) :
    Calls Tryd.prog 5 #[] w fun e w' => e = .returned (.bool true) ∧ Below w.heap.size w w' := by
  have hS := small_any w
  go_enter Tryd.func5, Tryd.ntmps5
  go_wp2_with fail
  with_reducible refine hS.mono ?_
  rintro e w1 ⟨rfl, hB, b1⟩
  have hBt := bits_small (w.heap.size + 1) (w.heap.size + 1 + 1) w1 hB
  clear hS hB
  go_wp2_with fail
  with_reducible refine hBt.mono ?_
  rintro e w2 ⟨rfl, b2⟩
  have hP := parse_nil w2
  clear hBt
  go_wp2_with fail
  with_reducible refine hP.mono ?_
  rintro e w3 ⟨rfl, b3⟩
  have B3 := btS (btS b1 b2) b3
  clear hP
  go_wp2_with fail
  go_ret
  exact ⟨rfl, by (repeat (first | exact B3 | with_reducible refine belS ?_ | with_reducible refine Below.drew ?_))⟩
end Go.Proofs.YtipgpigcpbckgaaDoor
