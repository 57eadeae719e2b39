import Derived.Test.YtfeiigfcihdimaaHGr
namespace Go.Proofs.Ytfeiigfcihdimaa
open Go.RowKit
set_option maxRecDepth 100000
set_option maxHeartbeats 4000000 in
theorem rword_any (n : Nat) (w : World) (h : n < 4294967296) : Calls Try.prog 11 #[.int .u32 n] w fun e w' => e = .returned (.string (hwd n)) ∧ Below w.heap.size w w' := by
  obtain ⟨hz, hs⟩ := zero_of_info infoWs
  go_enter Try.func11, Try.ntmps11
  refine wp_seq_k fun K0 hK0 => wp_region_list ?_
  refine wpList_one rfl ?_
  refine upon_value_of (.string ⟨#[]⟩) w rfl ?_
  refine wpList_nil (hK0 _ _ ?_)
  refine wp_seq_k fun K1 hK1 => wp_region_list ?_
  refine wpList_one rfl ?_
  refine upon_value_of (.agg wsV) w (by kernel_rfl) ?_
  refine wpList_one rfl ?_
  refine upon_value_of _ _ (alloc_new _ _ rfl _ w _ hz) ?_
  refine wpList_one rfl ?_
  refine upon_skip_of _ (store_new _ _ _ _ rfl _ w _ wsV (by kernel_rfl) (by kernel_rfl) (by rw [hs, wsV_size]) (by rw [wsZ_size, wsV_size]) wsV_all) ?_
  refine wpList_nil (hK1 _ _ ?_)
  refine wp_act_eq { tmps := #[.int .u32 n, undef, .string ⟨#[]⟩, .pointer (some ⟨w.heap.size, 0, none⟩), .agg wsV, undef, undef, undef, undef, undef, undef, undef, undef, undef, undef, undef], defers := [] } (by kernel_rfl) ?_
  clear hz hs
  have HB : Hid (Below w.heap.size w (w.alloc (.cells wsV 40))) := hbel (Below.refl _ _)
  by_cases h1 : n < 16
  · rw [hwd_out n (.inl h1)]
    have hlt : (n : Int) < 16 := by omega
    generalize wsV = V at *
    go_wp2
    go_ret
    exact ⟨rfl, HB.out⟩
  by_cases h2 : 39 < n
  · rw [hwd_out n (.inr h2)]
    have hlt : ¬ (n : Int) < 16 := by omega
    have hgt : (39 : Int) < n := by omega
    generalize wsV = V at *
    go_wp2
    go_ret
    exact ⟨rfl, HB.out⟩
  · have hc : (w.alloc (.cells wsV 40)).cell? ⟨w.heap.size, n - 16, none⟩ = some (.string (hwd n)) := by
      rw [World.cell?_alloc_new w wsV 40 (n - 16)]; exact wsV_get n (by omega) (by omega)
    have hlt : ¬ (n : Int) < 16 := by omega
    have hgt : ¬ (39 : Int) < n := by omega
    obtain ⟨m, rfl⟩ : ∃ m, n = 16 + m := ⟨n - 16, by omega⟩
    rw [Nat.add_sub_cancel_left] at hc
    have hm : m < 24 := by omega
    have hmI : (m : Int) < 24 := by omega
    have hsub : (((16 + m : Nat) : Int)) - 16 = (m : Int) := by omega
    generalize hwd (16 + m) = s at *
    generalize wsV = V at *
    generalize hX : ((16 + m : Nat) : Int) = X at *
    clear h1 h2
    go_wp2
    go_ret
    exact ⟨rfl, HB.out⟩
end Go.Proofs.Ytfeiigfcihdimaa
