import Derived.Test.YtdkmbbnidhkdcaaSStA
namespace Go.Proofs.Ytdkmbbnidhkdcaa
open Go.RowKit

set_option maxRecDepth 100000 in
set_option maxHeartbeats 1000000 in
theorem isn2 (m : Bool) (w : World)  :
    Calls Try.prog 41 #[.agg #[.int .u8 2, .bool m, .int .u64 0, .int .i64 0]] w fun e w' => e = .returned (.bool false) ∧ Below w.heap.size w w' := by
  go_enter Try.func41, Try.ntmps41
  go_wp2
  go_ret
  exact ⟨rfl, bel (Below.refl _ _)⟩
set_option maxRecDepth 100000 in
set_option maxHeartbeats 1000000 in
theorem isn3z (m : Bool) (p : Int) (w : World)  :
    Calls Try.prog 41 #[.agg #[.int .u8 3, .bool m, .int .u64 0, .int .i64 p]] w fun e w' => e = .returned (.bool true) ∧ Below w.heap.size w w' := by
  go_enter Try.func41, Try.ntmps41
  go_wp2
  go_ret
  exact ⟨rfl, bel (Below.refl _ _)⟩
set_option maxRecDepth 100000 in
set_option maxHeartbeats 1000000 in
theorem isn3 (m : Bool) (n : Nat) (p : Int) (w : World) (g1 : ((n : Int) == 0) = false) :
    Calls Try.prog 41 #[.agg #[.int .u8 3, .bool m, .int .u64 n, .int .i64 p]] w fun e w' => e = .returned (.bool false) ∧ Below w.heap.size w w' := by
  go_enter Try.func41, Try.ntmps41
  go_wp2
  go_ret
  exact ⟨rfl, bel (Below.refl _ _)⟩
theorem g1 {w W : World} {s : Int} {m : Bool} {n p : Int} (h : Below (w.alloc (oV s m n p)).heap.size (w.alloc (oV s m n p)) W) :
    W.cell? ⟨w.heap.size, 0, none⟩ = some (.int .u8 s) ∧ W.cell? ⟨w.heap.size, 1, none⟩ = some (.bool m) ∧ W.cell? ⟨w.heap.size, 2, none⟩ = some (.int .u64 n) ∧ W.cell? ⟨w.heap.size, 3, none⟩ = some (.int .i64 p) := by
  refine ⟨?_, ?_, ?_, ?_⟩
  · exact (h.cell (p := ⟨w.heap.size, 0, none⟩) (by simp only [sz1]; omega)).trans (World.cell?_alloc_new _ _ _ _)
  · exact (h.cell (p := ⟨w.heap.size, 1, none⟩) (by simp only [sz1]; omega)).trans (World.cell?_alloc_new _ _ _ _)
  · exact (h.cell (p := ⟨w.heap.size, 2, none⟩) (by simp only [sz1]; omega)).trans (World.cell?_alloc_new _ _ _ _)
  · exact (h.cell (p := ⟨w.heap.size, 3, none⟩) (by simp only [sz1]; omega)).trans (World.cell?_alloc_new _ _ _ _)
end Go.Proofs.Ytdkmbbnidhkdcaa
