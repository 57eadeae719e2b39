import Derived.Test.YtpohapehkfpcaaaDoorENil
import Derived.Deep.QuietTactic
import Derived.Laws.BytesArg
namespace Go.Proofs.YtpohapehkfpcaaaDoor
open Go.RowKit Go.WideShapes
set_option maxRecDepth 100000

theorem conv_row {w : World} {g cap : Nat} {bs : List Int} (h : w.ownsRow 0 5 1 (.slice (some ⟨g, 0, none⟩) bs.length cap) bs.length (bv bs)) (n : Nat) :
    (convert 35 9 (.slice (some ⟨g, 0, none⟩) bs.length cap)).run Tryd.prog (w.drewN n) = .ok (.string (strOfNums bs)) (w.drewN n) := by
  refine run_convert_bytes_arg (P := Tryd.prog) (w.drewN n) 35 5 Tryd.underlying35 Tryd.underlying5 g 0 bs.length cap bs rfl (fun i hi => ?_) 9 Tryd.underlying9
  rw [Nat.zero_add]; exact own_get h hi
theorem equal_self (g cap : Nat) (bs : List Int) (w : World) (h : w.ownsRow 0 5 1 (.slice (some ⟨g, 0, none⟩) bs.length cap) bs.length (bv bs)) (k : Nat) :
    Calls Tryd.prog 38 #[.slice (some ⟨g, 0, none⟩) bs.length cap, .slice (some ⟨g, 0, none⟩) bs.length cap] (w.drewN k) fun e w' => e = .returned (.bool true) ∧ ∃ n, w' = (w.drewN k).drewN n := by
  have hc := conv_row h k
  generalize w.drewN k = w1 at *
  clear h
  go_enter Tryd.func38, Tryd.ntmps38
  go_wp2
  go_ret
  exact ⟨rfl, 0, rfl⟩
theorem same_self (B a : Nat) (bs : List Int) (w : World) (hS : Seg B w a bs) :
    Calls Tryd.prog 20 #[.pointer (some ⟨a, 0, none⟩), .pointer (some ⟨a, 0, none⟩)] w fun e w' => e = .returned (.bool true) ∧ ∃ n, w' = w.drewN n := by
  obtain ⟨g, cap, tv, ts, h, _⟩ := hS
  have c0 := (obj_cell h.obj 0).trans rfl
  have c1 : w.cell? ⟨a, 1, none⟩ = some (.slice (some ⟨g, 0, none⟩) bs.length cap) := (obj_cell h.obj 1).trans rfl
  have HM := hidS (fun n => made_yes a (w.drewN n) c0)
  have HE := hidS (equal_self g cap bs w h.row)
  clear h c0
  go_enter Tryd.func20, Tryd.ntmps20
  go_wp2_with fail
  go_quiet (first | (with_reducible refine Calls.quiet_of_same (HM.out _)) | (with_reducible refine Calls.quiet_of (HE.out _)))
  go_wp2_with fail
  go_ret
  exact ⟨rfl, _, rfl⟩
theorem same_not (B a : Nat) (q : Value) (bs : List Int) (w : World) (hS : Seg B w a bs) (hM : ∀ W : World, W.heap = w.heap → NotMade q W) :
    Calls Tryd.prog 20 #[.pointer (some ⟨a, 0, none⟩), q] w fun e w' => e = .returned (.bool false) ∧ ∃ n, w' = w.drewN n := by
  obtain ⟨g, cap, tv, ts, h, _⟩ := hS
  have c0 := (obj_cell h.obj 0).trans rfl
  have HM := hidS (fun n => made_yes a (w.drewN n) c0)
  have hN : ∀ n, Calls Tryd.prog 30 #[q] (w.drewN n) fun e w' => e = .returned (.bool false) ∧ w' = w.drewN n := fun n => hM (w.drewN n) rfl
  have HN := hidS hN
  clear h c0 hM hN
  go_enter Tryd.func20, Tryd.ntmps20
  go_wp2_with fail
  go_quiet (first | (with_reducible refine Calls.quiet_of_same (HM.out _)) | (with_reducible refine Calls.quiet_of_same (HN.out _)))
  go_wp2_with fail
  go_ret
  exact ⟨rfl, _, rfl⟩
end Go.Proofs.YtpohapehkfpcaaaDoor
