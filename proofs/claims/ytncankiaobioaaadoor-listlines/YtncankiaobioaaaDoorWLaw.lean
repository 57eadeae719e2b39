import Derived.Test.YtncankiaobioaaaDoorWLin
namespace Go.Proofs.YtncankiaobioaaaDoor
open Go.RowKit
set_option maxRecDepth 100000

set_option maxHeartbeats 2000000 in
theorem lines_any (op arg : Nat) (w : World) (h : op < 256) (ha : arg < 4294967296) (ht : Tb w) :
    Calls Tryd.prog 3 #[.int .u8 op, .int .u32 arg] w fun e w' => e = .returned (.bool true) ∧ Below w.heap.size w w' := by
  have hL := fun w (ht : Tb w) => line_any op arg w h ha ht
  have hR := fun w => rline_any op arg w h ha
  generalize lnS op arg = S at *
  generalize erV op arg = ev at *
  go_enter Tryd.func3, Tryd.ntmps3
  go_wp2_with (first
    | (go_at_call 4; refine (hL _ ht).mono ?_; rintro e wq ⟨rfl, hq⟩)
    | (go_at_call 5; refine (hR _).mono ?_; rintro e wr ⟨rfl, hr⟩))
  go_ret
  exact ⟨rfl, bt hq hr⟩
end Go.Proofs.YtncankiaobioaaaDoor
