import Derived.Test.YtiohmcfabjmcoaaSStepL
namespace Go.Proofs.Ytiohmcfabjmcoaa
open Go.RowKit

set_option maxRecDepth 100000 in
set_option maxHeartbeats 1000000 in
theorem longer2 (m : Bool) (p : Int) (w : World) (g1 : decide (104 < p + 1) = false) (_ : -1000 < p) (_ : p < 1000) :
    Calls Try.prog 27 #[.agg #[.int .u8 3, .bool m, .int .u64 16777215, .int .i64 p]] w fun e w' => e = .returned (.agg #[.int .u8 3, .bool m, .int .u64 8388608, .int .i64 (p + 1)]) ∧ Below w.heap.size w w' := by
  have hw : IntKind.i64.wrap (p + 1) = p + 1 := by
    simp [IntKind.wrap, IntKind.bits, IntKind.signed]; omega
  have c := fun w => held1 m (p + 1) w g1
  go_enter Try.func27, Try.ntmps27
  go_wp2
  go_region_held3 (fun w' => w'.cell? ⟨w.heap.size, 1, none⟩ = some (.bool m) ∧ w'.cell? ⟨w.heap.size, 3, none⟩ = some (.int .i64 p)) ((refine ⟨keepc (o := .cells #[.int .u8 3, .bool m, .int .u64 16777215, .int .i64 p] 40) ?_ (by simp), keepc (o := .cells #[.int .u8 3, .bool m, .int .u64 16777215, .int .i64 p] 40) ?_ (by simp)⟩ <;> repeat (first | exact Below.refl _ _ | refine bel ?_ | refine Below.drew ?_))) (first
    | (go_at_call 42; refine (form_any _).mono ?_; rintro e wq ⟨rfl, hq⟩; subst wq)
    | (go_at_call 46; with_reducible refine (c _).mono ?_; rintro e wq ⟨rfl, o0, o1, hq⟩; subst wq))
  all_goals go_wp2
  all_goals refine bodyPost_ret (v := .agg #[.int .u8 3, .bool m, .int .u64 8388608, .int .i64 (p + 1)]) (by simp [results, Try.f27, go_sem]) rfl ?_
  all_goals exact ⟨rfl, by repeat (first | exact Below.refl _ _ | refine bel ?_ | refine Below.drew ?_)⟩
end Go.Proofs.Ytiohmcfabjmcoaa
