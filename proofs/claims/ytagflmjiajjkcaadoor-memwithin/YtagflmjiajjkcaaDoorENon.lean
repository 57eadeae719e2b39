import Derived.Test.YtagflmjiajjkcaaDoorENR
import Derived.Test.YtagflmjiajjkcaaDoorENW
namespace Go.Proofs.YtagflmjiajjkcaaDoor
open Go.RowKit Go.WideShapes
set_option maxRecDepth 100000

theorem cut_min (ts : List (Int × Bool)) (x n N : Nat) (wr : Bool) (hl : ts.length ≤ 65536) : ∃ K : Nat, K ≤ n ∧ ts.length + K ≤ 65536 ∧ lgL true ts (tcs x n N wr) = ts ++ tcs x K N wr ∧ (if 65536 - (ts.length : Int) < (n : Int) then 65536 - (ts.length : Int) else (n : Int)) = (K : Int) := by
  by_cases hc : ts.length + n ≤ 65536
  · exact ⟨n, Nat.le_refl _, hc, take_all _ _ (by rw [tcs_len]; omega), by rw [if_neg (by omega)]⟩
  · exact ⟨65536 - ts.length, by omega, by omega, tcs_cut _ _ _ _ _ _ (by omega) (by omega), by rw [if_pos (by omega)]; omega⟩
theorem note_ok_R : NoteOk 41 false true := fun a g cap bm ba x n bs tv ts w hS hx hn hm ha nm na => by
  obtain ⟨to, tc, rfl⟩ := own_slice hS.log
  obtain ⟨K, h1, h2, h3, h4⟩ := cut_min ts x n bs.length false hS.tl
  rw [h3]
  exact noteR_on a g cap bm ba x n K bs to tc ts w hS hx hn hm ha nm na h1 h2 h4
theorem note_ok_W : NoteOk 43 true true := fun a g cap bm ba x n bs tv ts w hS hx hn hm ha nm na => by
  obtain ⟨to, tc, rfl⟩ := own_slice hS.log
  obtain ⟨K, h1, h2, h3, h4⟩ := cut_min ts x n bs.length true hS.tl
  rw [h3]
  exact noteW_on a g cap bm ba x n K bs to tc ts w hS hx hn hm ha nm na h1 h2 h4
theorem note_R (lg : Bool) : NoteOk 41 false lg := by cases lg <;> first | exact note_ok_off _ _ | exact note_ok_R
theorem note_W (lg : Bool) : NoteOk 43 true lg := by cases lg <;> first | exact note_ok_off _ _ | exact note_ok_W
end Go.Proofs.YtagflmjiajjkcaaDoor
