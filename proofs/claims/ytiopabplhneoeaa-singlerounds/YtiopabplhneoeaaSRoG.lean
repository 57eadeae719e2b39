import Derived.Test.YtiopabplhneoeaaSRoF
namespace Go.Proofs.Ytiopabplhneoeaa
open Go.RowKit

abbrev eV (m : Bool) (x P : Int) (mo : Bool) : Obj := .cells #[.bool m, .int .u64 x, .int .i64 P, .bool mo] 24
theorem gE {w W : World} {m mo : Bool} {x P : Int} (h : Below (w.alloc (eV m x P mo)).heap.size (w.alloc (eV m x P mo)) W) :
    W.cell? ⟨w.heap.size, 0, none⟩ = some (.bool m) ∧ W.cell? ⟨w.heap.size, 1, none⟩ = some (.int .u64 x) ∧ W.cell? ⟨w.heap.size, 2, none⟩ = some (.int .i64 P) ∧ W.cell? ⟨w.heap.size, 3, none⟩ = some (.bool mo) := by
  refine ⟨?_, ?_, ?_, ?_⟩
  · exact (h.cell (p := ⟨w.heap.size, 0, none⟩) (by simp only [sz1]; omega)).trans (World.cell?_alloc_new _ _ _ _)
  · exact (h.cell (p := ⟨w.heap.size, 1, none⟩) (by simp only [sz1]; omega)).trans (World.cell?_alloc_new _ _ _ _)
  · exact (h.cell (p := ⟨w.heap.size, 2, none⟩) (by simp only [sz1]; omega)).trans (World.cell?_alloc_new _ _ _ _)
  · exact (h.cell (p := ⟨w.heap.size, 3, none⟩) (by simp only [sz1]; omega)).trans (World.cell?_alloc_new _ _ _ _)
set_option maxRecDepth 100000 in
set_option maxHeartbeats 4000000 in
theorem singlerounds (m : Bool) (x : Nat) (P : Int) (mo : Bool) (w : World) (hx : x < 18446744073709551616) (hP : -9223372036854775808 ≤ P) (hP2 : P ≤ 9223372036854775807) :
    Calls Try.prog 3 #[.agg #[.bool m, .int .u64 x, .int .i64 P, .bool mo]] w fun e w' => e = .returned (.bool true) ∧ Below w.heap.size w w' := by
  obtain ⟨rr, hrr⟩ : ∃ rr, wrd m (min (rg Ieee.single (2 * x + mo.toNat) (clp P - 1)) 2139095040) = rr := ⟨_, rfl⟩
  have H1 := fun w => pround_any m x P mo w hx hP hP2
  have H2 := fun w => rround_any m x P mo w hx
  rw [hrr] at H1 H2
  clear hrr
  go_enter Try.func3, Try.ntmps3
  go_wp2
  have HB : Below (w.alloc (eV m x P mo)).heap.size (w.alloc (eV m x P mo)) (w.alloc (eV m x P mo)) := Below.refl _ _
  go_region_held3 (fun w' => w'.cell? ⟨w.heap.size, 0, none⟩ = some (.bool m) ∧ w'.cell? ⟨w.heap.size, 1, none⟩ = some (.int .u64 (x : Nat)) ∧ w'.cell? ⟨w.heap.size, 2, none⟩ = some (.int .i64 P) ∧ w'.cell? ⟨w.heap.size, 3, none⟩ = some (.bool mo)) ((refine gE ?_; (repeat (first | exact HB | exact Below.refl _ _ | with_reducible refine bel ?_ | with_reducible refine Below.drew ?_ | with_reducible refine bt3 ?_)); done)) (first
    | (go_at_call 8; with_reducible refine (H1 _).mono ?_; rintro e wq ⟨rfl, hq⟩; subst wq)
    | (go_at_call 9; with_reducible refine (H2 _).mono ?_; rintro e w1 ⟨rfl, g1⟩; replace HB : Below (w.alloc (eV m x P mo)).heap.size (w.alloc (eV m x P mo)) w1 := bt2 g1 (by (repeat (first | exact HB | exact Below.refl _ _ | with_reducible refine bel ?_ | with_reducible refine Below.drew ?_ | with_reducible refine bt3 ?_)))))
  go_wp2
  go_ret
  exact ⟨rfl, bt2 (show Below (w.alloc (eV m x P mo)).heap.size (w.alloc (eV m x P mo)) _ from by (repeat (first | exact HB | exact Below.refl _ _ | with_reducible refine bel ?_ | with_reducible refine Below.drew ?_ | with_reducible refine bt3 ?_))) (bel (Below.refl _ _))⟩
end Go.Proofs.Ytiopabplhneoeaa
