import Derived.Test.YtihnkeflcnndpaaDoorPCm
namespace Go.Proofs.YtihnkeflcnndpaaDoor
open Go.RowKit Go.WideShapes Go.Shelf
set_option maxRecDepth 100000

/-- Procs in memory -/
structure PrS (w : World) (B pp p1 g1 p2 g2 n : Nat) (lv : Value) (Ps : List (Nat × Nat × Nat)) (A C : List Nat) : Prop where
  obj : w.heap[pp]? = some (.cells #[.pointer (some ⟨pp, 0, none⟩), lv, .pointer (some ⟨p1, 0, none⟩), .pointer (some ⟨p2, 0, none⟩)] 90 (0, 0))
  row : w.ownsRow B 43 4 lv Ps.length (pv Ps)
  s1 : SetS w p1 g1 n A
  s2 : SetS w p2 g2 n C
  nd : [pp, p1, g1, p2, g2].Nodup
  lt : ∀ k ∈ [pp, p1, g1, p2, g2], k < B
end Go.Proofs.YtihnkeflcnndpaaDoor
