import Derived.Test.YtcmfephbhbgoiaaDoorJGl
import Derived.Test.YtcmfephbhbgoiaaDoorJGn
import Derived.WalkSmall
namespace Go.Proofs.YtcmfephbhbgoiaaDoor
open Go.RowKit
set_option maxRecDepth 100000
theorem Tryd.infoG : (Tryd.prog.info? 41).map (fun i => (i.zero, i.size, i.bytes)) = some (some (.agg #[.int .u32 0, .int .i64 0]), 2, 16) := by kernel_rfl
/-- grants as values -/
def gv : List (Nat × Int) → List Value
  | [] => []
  | p :: L => .int .u32 (p.1 : Nat) :: .int .i64 p.2 :: gv L
theorem gv_append : ∀ (L M : List (Nat × Int)), gv (L ++ M) = gv L ++ gv M
  | [], M => rfl
  | p :: L, M => by simp only [List.cons_append, gv, gv_append L M]
theorem gv_all : ∀ (P : List (Nat × Int)) (m : Nat), m < P.length → (gv P)[m * 2]? = some (.int .u32 ((P.getD m (0, 0)).1 : Nat)) ∧ (gv P)[m * 2 + 1]? = some (.int .i64 (P.getD m (0, 0)).2)
  | [], m, h => by simp at h
  | a :: t, 0, _ => ⟨rfl, rfl⟩
  | a :: t, m + 1, h => by
    have := gv_all t m (by simpa using h)
    rw [show (m + 1) * 2 + 1 = (m * 2 + 1) + 2 by omega, show (m + 1) * 2 = m * 2 + 2 by omega]
    simpa [gv] using this
theorem gcellAt {w : World} {B e sz n g o l c : Nat} {xs : List Value} (h : w.ownsRow B e sz (.slice (some ⟨g, o, none⟩) l c) n xs) {i : Nat} {v : Value} (hv : xs[i]? = some v) : w.cell? ⟨g, o + i, none⟩ = some v := by
  rcases h.2 with ⟨e, _⟩ | ⟨g', cap, cur, e, _⟩
  · cases e
  · cases e
    have := h.cells (g := g) rfl i v hv
    have hadd : (⟨g, 0, none⟩ : Addr).add i = ⟨g, 0 + i, none⟩ := by unfold Addr.add; split <;> simp_all
    rw [← hadd]; exact this
theorem gown_reads {w : World} {B : Nat} {v : Value} {L : List (Nat × Int)} (h : w.ownsRow B 41 2 v L.length (gv L)) : ∃ ao cap, v = .slice ao L.length cap ∧ GRd w ao L w.heap.size := by
  have h' := h
  have hlt := h.lt
  rcases h.2 with ⟨rfl, hz⟩ | ⟨g, cap, cur, rfl, _⟩
  · exact ⟨none, 0, by rw [hz], fun hp => by omega⟩
  · refine ⟨_, cap, rfl, fun _ => ⟨g, 0, rfl, (hlt g rfl).2, fun j hj => ?_⟩⟩
    obtain ⟨e1, e2⟩ := gv_all L j hj
    exact ⟨gcellAt h' e1, by rw [Nat.add_assoc]; exact gcellAt h' e2⟩
theorem grown_of_belowG {w w' : World} (hb : Below w.heap.size w w') (row : Option Nat) : w.grownBy w' row := ⟨hb.os, hb.tape, hb.output, hb.size, fun i hi _ => hb.block i hi⟩
theorem gown_below {B e sz : Nat} {w w' : World} {v : Value} {n : Nat} {xs : List Value} (h : w.ownsRow B e sz v n xs) (hb : Below w.heap.size w w') : w'.ownsRow B e sz v n xs :=
  h.kept (grown_of_belowG hb none) (by cases hv : v.ownBlock <;> simp)
theorem gdA_app (L : List (Nat × Int)) (p : Nat × Int) (k : Nat) (h : k < L.length) : gdA (L ++ [p]) k = gdA L k := by
  unfold gdA
  rw [List.take_append_of_le_length (by omega)]
  have e : (L ++ [p]).getD k (0, 0) = L.getD k (0, 0) := by simp [List.getD, List.getElem?_append_left h]
  rw [e]
theorem okG_snoc {L : List (Nat × Int)} {n : Nat} {a : Int} (h : okG L) (h1 : L.length < 64) (h2 : L.any (fun p => p.1 == n) = false) (h3 : mayB n a = true) : okG (L ++ [(n, a)]) := by
  refine ⟨by simp; omega, fun k hk => ?_⟩
  by_cases hlt : k < L.length
  · rw [gdA_app _ _ _ hlt]; exact h.2 k hlt
  · have : k = L.length := by simp at hk; omega
    subst this
    unfold gdA
    have e : (L ++ [(n, a)]).getD L.length (0, 0) = (n, a) := by simp [List.getD]
    rw [e, List.take_append_of_le_length (Nat.le_refl _), List.take_length]
    simp only [h2, h3]; rfl
theorem any_snoc (L : List (Nat × Int)) (k n : Nat) (h : k < L.length) : (L.take (k + 1)).any (fun p => p.1 == n) = ((L.take k).any (fun p => p.1 == n) || (L.getD k (0, 0)).1 == n) := by
  rw [take_snocG L k h, List.any_append]; simp
theorem own_snocG {w1 : World} {B : Nat} {v' : Value} {L : List (Nat × Int)} {n : Nat} {a : Int} (h : w1.ownsRow B 41 2 v' (L.length + 1) (gv L ++ [.int .u32 (n : Nat), .int .i64 a])) : w1.ownsRow B 41 2 v' (L ++ [(n, a)]).length (gv (L ++ [(n, a)])) := by
  rw [gv_append, List.length_append]
  exact h
theorem one2 {x y : Int} : ∀ u ∈ [Value.int .u32 x, Value.int .i64 y], u.oneCell' = true := by
  intro u hu; simp at hu; rcases hu with rfl | rfl <;> rfl
theorem okG_nil : okG [] := ⟨by simp, fun k hk => by simp at hk⟩
theorem newok {w w' : World} {L : List (Nat × Int)} {e : Ending} (h : NewP w L e w') (hok : okG L) : Below w.heap.size w w' ∧ ∃ g, e = .returned (.tuple #[.pointer (some ⟨g, 0, none⟩), .int .i64 0]) ∧ w.heap.size ≤ g ∧ GtS w' g (ofL L) := by
  obtain ⟨hb, h⟩ := h
  rcases h with h | h
  · exact ⟨hb, h.2⟩
  · exact absurd hok h.1
/-- what some leaves: a gate and the list of its grants -/
def SmP (w : World) (g : Nat) (v : Value) (L : List (Nat × Int)) (w' : World) : Prop :=
  L.length ≤ 60 ∧ okG L ∧ w.heap.size ≤ g ∧ w'.ownsRow w.heap.size 41 2 v L.length (gv L) ∧ GtS w' g (ofL L) ∧ Below w.heap.size w w' ∧ ∀ p ∈ L, p.1 < 2147483648
end Go.Proofs.YtcmfephbhbgoiaaDoor
