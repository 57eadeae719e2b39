import Derived.Test.YtiohmcfabjmcoaaSStepA
namespace Go.Proofs.Ytiohmcfabjmcoaa
open Go.RowKit

theorem keepc {w W : World} {o : Obj} {i : Nat} {v : Value} (h : Below (w.alloc o).heap.size (w.alloc o) W) (hc : (w.alloc o).cell? ⟨w.heap.size, i, none⟩ = some v) : W.cell? ⟨w.heap.size, i, none⟩ = some v :=
  (h.cell (p := ⟨w.heap.size, i, none⟩) (by simp)).trans hc
set_option maxRecDepth 100000 in
set_option maxHeartbeats 1000000 in
theorem longer3 (m : Bool) (w : World)  :
    Calls Try.prog 27 #[.agg #[.int .u8 3, .bool m, .int .u64 16777215, .int .i64 104]] w fun e w' => e = .returned (.agg #[.int .u8 2, .bool m, .int .u64 0, .int .i64 0]) ∧ Below w.heap.size w w' := by
  have c := fun w => held2 m w
  rw [show (105 : Int) = IntKind.i64.wrap 105 from by decide] at c
  go_enter Try.func27, Try.ntmps27
  go_wp2
  go_region_held3 (fun w' => w'.cell? ⟨w.heap.size, 1, none⟩ = some (.bool m) ∧ w'.cell? ⟨w.heap.size, 3, none⟩ = some (.int .i64 104)) ((refine ⟨keepc (o := .cells #[.int .u8 3, .bool m, .int .u64 16777215, .int .i64 104] 40) ?_ (by simp), keepc (o := .cells #[.int .u8 3, .bool m, .int .u64 16777215, .int .i64 104] 40) ?_ (by simp)⟩ <;> repeat (first | exact Below.refl _ _ | refine bel ?_ | refine Below.drew ?_))) (first
    | (go_at_call 42; refine (form_any _).mono ?_; rintro e wq ⟨rfl, hq⟩; subst wq)
    | (go_at_call 46; with_reducible refine (c _).mono ?_; rintro e wq ⟨rfl, o0, o1, o2, hq⟩; subst wq))
  all_goals go_wp2
  all_goals refine bodyPost_ret (v := .agg #[.int .u8 2, .bool m, .int .u64 0, .int .i64 0]) (by simp [results, Try.f27, go_sem]) rfl ?_
  all_goals exact ⟨rfl, by repeat (first | exact Below.refl _ _ | refine bel ?_ | refine Below.drew ?_)⟩
end Go.Proofs.Ytiohmcfabjmcoaa
