import Derived.Test.YtijkoblmoofhpaaIByW
import Derived.Deep.RegionHeld3
namespace Go.Proofs.Ytijkoblmoofhpaa
open Go.RowKit

set_option maxHeartbeats 1000000 in
theorem infoLaw (op : Nat) (w : World) (h : op < 256) :
    Calls Try.prog 3 #[.int .u8 op] w fun e w' => e = .returned (.bool true) ∧ Below w.heap.size w w' := by
  have hI := fun w => info_any op w h
  have hR := fun w => rinfo_any op w h
  generalize opWd op = a0 at *
  generalize opWi op = a1 at *
  generalize opMo op = a2 at *
  generalize opTa op = a3 at *
  generalize opGi op = a4 at *
  generalize opKi op = a5 at *
  generalize isOp op = a6 at *
  go_enter Try.func3, Try.ntmps3
  go_wp2_with (first
    | (go_at_call 8; refine (hI _).mono ?_; rintro e wq ⟨rfl, hq⟩)
    | (go_at_call 9; refine (hR _).mono ?_; rintro e wr ⟨rfl, hr⟩; have c0 := cellC hr 0 _ rfl; have c1 := cellC hr 1 _ rfl; have c2 := cellC hr 2 _ rfl; have c3 := cellC hr 3 _ rfl; have c4 := cellC hr 4 _ rfl; have c5 := cellC hr 5 _ rfl))
  go_ret
  exact ⟨rfl, bel (bt (bel hq) hr)⟩
abbrev oI (op arg : Nat) : Obj := .cells #[.int .u8 op, .int .u32 arg] 34
theorem bt2 {a W w1 : World} (h : Below W.heap.size W w1) (h' : Below a.heap.size a W) : Below a.heap.size a w1 := h'.trans (h.mono h'.size)
theorem gI {w W : World} {op arg : Nat} (h : Below (w.alloc (oI op arg)).heap.size (w.alloc (oI op arg)) W) : W.cell? ⟨w.heap.size, 0, none⟩ = some (.int .u8 op) ∧ W.cell? ⟨w.heap.size, 1, none⟩ = some (.int .u32 arg) :=
  ⟨cellB h 0, cellB h 1⟩
set_option maxHeartbeats 1000000 in
theorem checkLaw (op arg : Nat) (w : World) (h : op < 256) :
    Calls Try.prog 5 #[.agg #[.int .u8 op, .int .u32 arg]] w fun e w' => e = .returned (.bool true) ∧ Below w.heap.size w w' := by
  have h1 := fun w => check_any op arg w h
  have h2 := fun w => rcheck_any op arg w h
  have h3 := fun w => size_any op arg w h
  have h4 := fun w => rsize_any op arg w h
  generalize szV op arg = a0 at *
  generalize erV op arg = a1 at *
  go_enter Try.func5, Try.ntmps5
  go_wp2
  have HB : Below (w.alloc (oI op arg)).heap.size (w.alloc (oI op arg)) (w.alloc (oI op arg)) := Below.refl _ _
  go_region_held3 (fun w' => w'.cell? ⟨w.heap.size, 0, none⟩ = some (.int .u8 op) ∧ w'.cell? ⟨w.heap.size, 1, none⟩ = some (.int .u32 arg)) ((refine gI ?_; (repeat (first | exact HB | exact Below.refl _ _ | with_reducible refine bel ?_ | with_reducible refine Below.drew ?_)))) (first
    | (go_at_call 12; with_reducible refine (h1 _).mono ?_; rintro e wq ⟨rfl, hq⟩; replace HB : Below (w.alloc (oI op arg)).heap.size (w.alloc (oI op arg)) wq := bt2 hq (by (repeat (first | exact HB | exact Below.refl _ _ | with_reducible refine bel ?_ | with_reducible refine Below.drew ?_))); clear hq)
    | (go_at_call 13; with_reducible refine (h2 _).mono ?_; rintro e wq ⟨rfl, hq⟩; replace HB : Below (w.alloc (oI op arg)).heap.size (w.alloc (oI op arg)) wq := bt2 hq (by (repeat (first | exact HB | exact Below.refl _ _ | with_reducible refine bel ?_ | with_reducible refine Below.drew ?_))); clear hq)
    | (go_at_call 14; with_reducible refine (h3 _).mono ?_; rintro e wq ⟨rfl, hq⟩; replace HB : Below (w.alloc (oI op arg)).heap.size (w.alloc (oI op arg)) wq := bt2 hq (by (repeat (first | exact HB | exact Below.refl _ _ | with_reducible refine bel ?_ | with_reducible refine Below.drew ?_))); clear hq)
    | (go_at_call 15; with_reducible refine (h4 _).mono ?_; rintro e wq ⟨rfl, hq⟩; replace HB : Below (w.alloc (oI op arg)).heap.size (w.alloc (oI op arg)) wq := bt2 hq (by (repeat (first | exact HB | exact Below.refl _ _ | with_reducible refine bel ?_ | with_reducible refine Below.drew ?_))); clear hq))
  go_wp2
  go_ret
  exact ⟨rfl, bt2 (show Below (w.alloc (oI op arg)).heap.size (w.alloc (oI op arg)) _ from by (repeat (first | exact HB | exact Below.refl _ _ | with_reducible refine bel ?_ | with_reducible refine Below.drew ?_))) (bel (Below.refl _ _))⟩
end Go.Proofs.Ytijkoblmoofhpaa
