import Derived.Test.YtonmoidalkcmoaaCZLn
import Derived.Test.YtonmoidalkcmoaaCDLg
namespace Go.Proofs.Ytonmoidalkcmoaa
open Go.RowKit Go.WideShapes Go.Shelf
set_option maxRecDepth 100000
def fzT (f : Fz) : Nat × Nat × Nat × Nat × Nat × Nat := (f.at_, f.len, f.kind, f.op, f.a, f.b)
theorem fzT_inj {f : Fz} {a b c d e g : Nat} (h : fzT f = (a, b, c, d, e, g)) : f = ⟨a, b, c, d, e, g⟩ := by
  obtain ⟨f0, f1, f2, f3, f4, f5⟩ := f
  simp only [fzT, Prod.mk.injEq] at h
  obtain ⟨rfl, rfl, rfl, rfl, rfl, rfl⟩ := h
  rfl
def zwL : List (Nat × Nat) := [(9, 8), (9, 8), (31, 0), (8, 1), (39, 0), (34, 0)]
theorem zwL_wf : Wfc zwL := by unfold Wfc zwL; decide +kernel
theorem zw1 : fzT (flV zwL 0 6) = (0, 6, 15, 39, 8, 1) ∧ flE zwL 0 6 = 0 := by decide +kernel
abbrev zwC : Array Value := #[.int .u8 9, .int .u32 8, .int .u8 9, .int .u32 8, .int .u8 31, .int .u32 0, .int .u8 8, .int .u32 1, .int .u8 39, .int .u32 0, .int .u8 34, .int .u32 0]
theorem zw1_call (b : Nat) (w : World) (h : w.heap[b]? = some (.cells zwC 36)) :
    Calls Try.prog 5 #[.slice (some ⟨b, 0, none⟩) 6 6, .int .u32 0, .int .u32 6] w fun x w' => x = .returned (.tuple #[.agg #[.int .u32 0, .int .u32 6, .int .u8 15, .int .u8 39, .int .u32 8, .int .u32 1], .int .i64 0]) ∧ Below w.heap.size w w' := by
  have := flongest_any (some ⟨b, 0, none⟩) 6 0 6 zwL w (by decide) (by decide) (by decide) (by decide) zwL_wf (crd_blkD h rfl)
  rw [fzT_inj zw1.1, zw1.2] at this
  exact this
set_option maxHeartbeats 1000000 in
theorem zawake_any (w : World) : Calls Try.prog 4 #[] w fun x w' => x = .returned (.bool true) ∧ Below w.heap.size w w' := by
  have hbd : Below w.heap.size w w := Below.refl _ _
  have H1 := dhid (fun o => zw1_call w.heap.size (w.alloc o))
  go_enter Try.func4, Try.ntmps4
  go_wp2_with fail
  with_reducible refine (H1.out _ ?_).mono ?_
  · exact heap_alloc_new w _
  rintro x w1 ⟨rfl, hb1⟩
  have hB1 := dhid ((hbd.alloc (Nat.le_refl _) _).trans (hb1.mono (by simp)))
  clear H1
  go_wp2_with fail
  go_ret
  exact ⟨rfl, hB1.out.alloc hB1.out.size _⟩
end Go.Proofs.Ytonmoidalkcmoaa
