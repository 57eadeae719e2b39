import Derived.Test.YtfeiigfcihdimaaRows
import Derived.Test.YtfeiigfcihdimaaProg
import Derived.WalkKit
import Derived.WalkLawsBesides
import Derived.WalkSmall
import Derived.Laws.AppendOwn
import Derived.Deep.QuietTactic
import Derived.BigQuiet
import Derived.WideShapes
namespace Go.Proofs.Ytfeiigfcihdimaa
open Go.RowKit
set_option maxRecDepth 100000
theorem hidS {p : Prop} (h : p) : Hid p := h
/-- grants that are read -/
def GRd (w : World) (ao : Option Addr) (L : List (Nat × Int)) (B : Nat) : Prop :=
  0 < L.length → ∃ b off, ao = some ⟨b, off, none⟩ ∧ b < B ∧ ∀ j, j < L.length → w.cell? ⟨b, off + j * 2, none⟩ = some (.int .u32 ((L.getD j (0, 0)).1 : Nat)) ∧ w.cell? ⟨b, off + j * 2 + 1, none⟩ = some (.int .i64 (L.getD j (0, 0)).2)
theorem GRd.below {w w' : World} {ao : Option Addr} {J : List (Nat × Int)} {B : Nat} (h : GRd w ao J B) (hb : Below B w w') : GRd w' ao J B := by
  intro hl
  obtain ⟨b, off, e, hlt, hc⟩ := h hl
  exact ⟨b, off, e, hlt, fun j hj => ⟨(hb.cell (p := ⟨b, off + j * 2, none⟩) hlt).trans (hc j hj).1, (hb.cell (p := ⟨b, off + j * 2 + 1, none⟩) hlt).trans (hc j hj).2⟩⟩
theorem GRd.mono {w : World} {ao : Option Addr} {J : List (Nat × Int)} {B C : Nat} (h : GRd w ao J B) (hb : B ≤ C) : GRd w ao J C := by
  intro hl
  obtain ⟨b, off, e, hlt, hc⟩ := h hl
  exact ⟨b, off, e, by omega, hc⟩
theorem take_snocG (J : List (Nat × Int)) (k : Nat) (h : k < J.length) : J.take (k + 1) = J.take k ++ [J.getD k (0, 0)] := by
  rw [List.take_add_one, List.getElem?_eq_getElem h]
  simp [List.getD_eq_getElem?_getD, List.getElem?_eq_getElem h]
theorem ghid {p : Prop} (h : p) : Hid p := h
theorem Try.infoG : (Try.prog.info? 37).map (fun i => (i.zero, i.size, i.bytes)) = some (some (.agg #[.int .u32 0, .int .i64 0]), 2, 16) := by kernel_rfl
/-- grants as values -/
def gv : List (Nat × Int) → List Value
  | [] => []
  | p :: L => .int .u32 (p.1 : Nat) :: .int .i64 p.2 :: gv L
theorem gv_append : ∀ (L M : List (Nat × Int)), gv (L ++ M) = gv L ++ gv M
  | [], M => rfl
  | p :: L, M => by simp only [List.cons_append, gv, gv_append L M]
theorem gv_all : ∀ (P : List (Nat × Int)) (m : Nat), m < P.length → (gv P)[m * 2]? = some (.int .u32 ((P.getD m (0, 0)).1 : Nat)) ∧ (gv P)[m * 2 + 1]? = some (.int .i64 (P.getD m (0, 0)).2)
  | [], m, h => by simp at h
  | a :: t, 0, _ => ⟨rfl, rfl⟩
  | a :: t, m + 1, h => by
    have := gv_all t m (by simpa using h)
    rw [show (m + 1) * 2 + 1 = (m * 2 + 1) + 2 by omega, show (m + 1) * 2 = m * 2 + 2 by omega]
    simpa [gv] using this
theorem gcellAt {w : World} {B e sz n g o l c : Nat} {xs : List Value} (h : w.ownsRow B e sz (.slice (some ⟨g, o, none⟩) l c) n xs) {i : Nat} {v : Value} (hv : xs[i]? = some v) : w.cell? ⟨g, o + i, none⟩ = some v := by
  rcases h.2 with ⟨e, _⟩ | ⟨g', cap, cur, e, _⟩
  · cases e
  · cases e
    have := h.cells (g := g) rfl i v hv
    have hadd : (⟨g, 0, none⟩ : Addr).add i = ⟨g, 0 + i, none⟩ := by unfold Addr.add; split <;> simp_all
    rw [← hadd]; exact this
theorem gown_reads {w : World} {B : Nat} {v : Value} {L : List (Nat × Int)} (h : w.ownsRow B 37 2 v L.length (gv L)) : ∃ ao cap, v = .slice ao L.length cap ∧ GRd w ao L w.heap.size := by
  have h' := h
  have hlt := h.lt
  rcases h.2 with ⟨rfl, hz⟩ | ⟨g, cap, cur, rfl, _⟩
  · exact ⟨none, 0, by rw [hz], fun hp => by omega⟩
  · refine ⟨_, cap, rfl, fun _ => ⟨g, 0, rfl, (hlt g rfl).2, fun j hj => ?_⟩⟩
    obtain ⟨e1, e2⟩ := gv_all L j hj
    exact ⟨gcellAt h' e1, by rw [Nat.add_assoc]; exact gcellAt h' e2⟩
end Go.Proofs.Ytfeiigfcihdimaa
