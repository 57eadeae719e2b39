import Derived.Test.YtgfgdkeeonolcaaISam
import Derived.Deep.RegionHeld3
namespace Go.Proofs.Ytgfgdkeeonolcaa
open Go.RowKit
set_option maxRecDepth 100000

def mk0 (i : Nat) : Nat × Nat := (200, 1000003 + i)
def mksC (m : Nat) : List (Nat × Nat) := (List.range m).map mk0
theorem mksC_succ (m : Nat) : mksC (m + 1) = mksC m ++ [mk0 m] := by unfold mksC; rw [List.range_succ, List.map_append]; rfl
theorem mksC_len (m : Nat) : (mksC m).length = m := by simp [mksC]
theorem infoI2 : (Try.prog.info? 37).map (·.size) = some 2 := by kernel_rfl
set_option maxRecDepth 100000 in
theorem undI2 : ∃ fs, Try.prog.underlying 37 = some (.struct fs) := by
  have h : (match Try.prog.underlying 37 with | some (.struct _) => true | _ => false) = true := by kernel_rfl
  split at h
  · exact ⟨_, by assumption⟩
  · cases h
end Go.Proofs.Ytgfgdkeeonolcaa
