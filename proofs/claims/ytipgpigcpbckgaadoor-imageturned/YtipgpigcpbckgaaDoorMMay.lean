import Derived.Test.YtipgpigcpbckgaaDoorMRdE
namespace Go.Proofs.YtipgpigcpbckgaaDoor
open Go.RowKit Go.WideShapes Go.Sort Go.Lib
set_option maxRecDepth 100000

set_option maxHeartbeats 2000000 in
theorem may_any (a : Option Addr) (k c : Nat) (s s' : ByteArray) (x : Nat) (w : World) (hs : s.size ≤ 255) (hk : k ≤ 1048576) (hr : 0 < k → ∃ g, a = some ⟨g, 0, none⟩ ∧ g < w.heap.size ∧ w.cell? ⟨g, (k - 1) * 2, none⟩ = some (.string s')) :
    Calls Tryd.prog 35 #[.slice a k c, .agg #[.string s, .int .u32 (x : Int)]] w fun e w' => BPost e ∧ Below w.heap.size w w' := by
  have hsI : (s.size : Int) ≤ 255 := by omega
  have bA : Below w.heap.size w (w.alloc (.cells #[.string s, .int .u32 (x : Int)] 58)) := belS (Below.refl _ _)
  by_cases h1 : s.size < 1
  · have h1I : (s.size : Int) < 1 := by omega
    clear hr
    go_enter Tryd.func35, Tryd.ntmps35
    go_wp2_with fail
    go_ret
    exact ⟨⟨_, rfl⟩, bA⟩
  · have h1I : decide ((s.size : Int) < 1) = false := by simp; omega
    by_cases h2 : 32 < s.size
    · have h2I : (32 : Int) < (s.size : Int) := by omega
      clear hr
      go_enter Tryd.func35, Tryd.ntmps35
      go_wp2_with fail
      go_ret
      exact ⟨⟨_, rfl⟩, bA⟩
    · have h2I : decide ((32 : Int) < (s.size : Int)) = false := by simp; omega
      by_cases h0 : k = 0
      · subst h0
        clear hr
        go_enter Tryd.func35, Tryd.ntmps35
        go_wp2_with fail
        go_ret
        exact ⟨⟨_, rfl⟩, bA⟩
      · obtain ⟨g, rfl, hg, hcell⟩ := hr (by omega)
        have h0I : ((k : Int) == 0) = false := by rw [beq_eq_false_iff_ne]; omega
        have hwk : IntKind.i64.wrap ((k : Int) - 1) = (k : Int) - 1 := by rw [IntKind.wrap_i64]; omega
        have ht0 : ¬ ((k : Int) - 1 < 0) := by omega
        have ht1 : (k : Int) - 1 < (k : Int) := by omega
        have ht2 : ((k : Int) - 1).toNat = k - 1 := by omega
        have hlast := heap_alloc_last w (.cells #[.string s, .int .u32 (x : Int)] 58)
        have n0 : (w.alloc (.cells #[.string s, .int .u32 (x : Int)] 58)).cell? ⟨w.heap.size, 0, none⟩ = some (.string s) := by unfold World.cell?; simp only [hlast]; rfl
        clear hlast
        have hc2 := (bA.cell (p := ⟨g, (k - 1) * 2, none⟩) hg).trans hcell
        by_cases h64 : k < 64
        · have h64I : (k : Int) < 64 := by omega
          go_enter Tryd.func35, Tryd.ntmps35
          go_wp2_with fail
          generalize w.alloc (.cells #[.string s, .int .u32 (x : Int)] 58) = W1 at *
          clear hcell
          go_quiet (fail)
          go_wp2_with fail
          go_ret
          exact ⟨⟨_, rfl⟩, below_drewN bA _⟩
        · have h64I : decide ((k : Int) < 64) = false := by simp; omega
          go_enter Tryd.func35, Tryd.ntmps35
          go_wp2_with fail
          generalize w.alloc (.cells #[.string s, .int .u32 (x : Int)] 58) = W1 at *
          clear hcell
          go_quiet (fail)
          go_wp2_with fail
          go_ret
          exact ⟨⟨_, rfl⟩, below_drewN bA _⟩
end Go.Proofs.YtipgpigcpbckgaaDoor
