import Derived.Test.YtgfgdkeeonolcaaIBak
namespace Go.Proofs.Ytgfgdkeeonolcaa
open Go.RowKit
set_option maxRecDepth 100000

theorem own_len {w : World} {B e sz n m : Nat} {v : Value} {xs : List Value} (h : w.ownsRow B e sz v n xs) (hn : n = m) : w.ownsRow B e sz v m xs := hn ▸ h
theorem crd_at {w W : World} {b off : Nat} {L : List (Nat × Nat)} {k : Nat} (hbl : b < w.heap.size) (h : w.cell? ⟨b, off + k * 2, none⟩ = some (.int .u8 (L.getD k (0, 0)).1) ∧ w.cell? ⟨b, off + k * 2 + 1, none⟩ = some (.int .u32 (L.getD k (0, 0)).2)) (hb : Below w.heap.size w W) :
    W.cell? ⟨b, off + k * 2, none⟩ = some (.int .u8 (L.getD k (0, 0)).1) ∧ W.cell? ⟨b, off + k * 2 + 1, none⟩ = some (.int .u32 (L.getD k (0, 0)).2) :=
  ⟨(hb.cell (p := ⟨b, off + k * 2, none⟩) hbl).trans h.1, (hb.cell (p := ⟨b, off + k * 2 + 1, none⟩) hbl).trans h.2⟩
end Go.Proofs.Ytgfgdkeeonolcaa
