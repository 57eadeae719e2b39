import Derived.Test.YtcielbkfolklbaaGreatDoorPKp
import Derived.Defers
import Derived.Recover
import Derived.WalkLawsBesides
namespace Go.Proofs.YtcielbkfolklbaaGreatDoor
open Go.RowKit Go.WideShapes
set_option maxRecDepth 100000
/-- a module that is none -/
def NoMd (w : World) (v : Value) : Prop := v = .pointer none ∨ ∃ a, a < w.heap.size ∧ v = .pointer (some ⟨a, 0, none⟩) ∧ w.cell? ⟨a, 0, none⟩ = some (.pointer none)
theorem NoMd.below {w w' : World} {v : Value} (h : NoMd w v) (hb : Below w.heap.size w w') : NoMd w' v := by
  rcases h with h | ⟨a, h1, h2, h3⟩
  · exact .inl h
  · exact .inr ⟨a, Nat.lt_of_lt_of_le h1 hb.size, h2, (hb.cell (p := ⟨a, 0, none⟩) h1).trans h3⟩
theorem nomd_eq (a : Nat) (w : World) : (binOp .eql 28 (.pointer none) (.pointer (some ⟨a, 0, none⟩))).run Tryz.prog w = .ok (.bool false) w := by
  have h : ∀ d : Nat, (Op.equalIn (d + 1) 28 (.pointer none) (.pointer (some ⟨a, 0, none⟩))).run Tryz.prog w = .ok false w := fun d => by
    simp [Op.equalIn, run_underlying Tryz.underlying28]
  simp only [binOp]
  simp [Op.equal, Op.maxDepth, h 9999]
theorem vmade_no (v : Value) (w : World) (h : NoMd w v) : Calls Tryz.prog 60 #[v] w fun e w' => e = .returned (.bool false) ∧ w' = w := by
  rcases h with rfl | ⟨a, _, rfl, hc⟩
  · go_enter Tryz.func60, Tryz.ntmps60
    go_wp2
    go_ret
    exact ⟨rfl, rfl⟩
  · have hq := nomd_eq a w
    go_enter Tryz.func60, Tryz.ntmps60
    go_wp2
    go_ret
    exact ⟨rfl, rfl⟩
theorem vbits_no (v : Value) (w : World) (h : NoMd w v) : Calls Tryz.prog 84 #[v] w fun e w' => e = .returned (.int .i64 0) ∧ w' = w := by
  have hM := vmade_no v w h
  clear h
  go_enter Tryz.func84, Tryz.ntmps84
  go_wp2_with (go_at_call 60; with_reducible refine hM.mono ?_; rintro e wq ⟨rfl, hq⟩; subst wq)
  go_ret
  exact ⟨rfl, rfl⟩
theorem isnone_no (v : Value) (w : World) (h : NoMd w v) : Calls Tryz.prog 56 #[v] w fun e w' => e = .returned (.bool true) ∧ w' = w := by
  have hM := vbits_no v w h
  clear h
  go_enter Tryz.func56, Tryz.ntmps56
  go_wp2_with (go_at_call 84; with_reducible refine hM.mono ?_; rintro e wq ⟨rfl, hq⟩; subst wq)
  go_ret
  exact ⟨rfl, rfl⟩
end Go.Proofs.YtcielbkfolklbaaGreatDoor
