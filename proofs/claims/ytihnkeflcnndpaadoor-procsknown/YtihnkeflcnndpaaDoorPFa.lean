import Derived.Test.YtihnkeflcnndpaaDoorPPs
namespace Go.Proofs.YtihnkeflcnndpaaDoor
open Go.RowKit Go.WideShapes Go.Shelf
set_option maxRecDepth 100000

theorem peq_self (a : Nat) (w : World) : (binOp .eql 28 (.pointer (some ⟨a, 0, none⟩)) (.pointer (some ⟨a, 0, none⟩))).run Tryd.prog w = .ok (.bool true) w := by
  have h : (Tryd.prog.info? 90).map (·.size) = some 4 := by kernel_rfl
  cases hi : Tryd.prog.info? 90 with
  | none => rw [hi] at h; cases h
  | some i => exact run_eql_ptr_same w ⟨a, 0, none⟩ Tryd.underlying28 hi
theorem PrS.c0 {w : World} {B pp p1 g1 p2 g2 n : Nat} {lv : Value} {Ps : List (Nat × Nat × Nat)} {A C : List Nat} (h : PrS w B pp p1 g1 p2 g2 n lv Ps A C) : w.cell? ⟨pp, 0, none⟩ = some (.pointer (some ⟨pp, 0, none⟩)) := obj_cell h.obj 0
theorem PrS.c1 {w : World} {B pp p1 g1 p2 g2 n : Nat} {lv : Value} {Ps : List (Nat × Nat × Nat)} {A C : List Nat} (h : PrS w B pp p1 g1 p2 g2 n lv Ps A C) : w.cell? ⟨pp, 1, none⟩ = some lv := obj_cell h.obj 1
theorem PrS.c2 {w : World} {B pp p1 g1 p2 g2 n : Nat} {lv : Value} {Ps : List (Nat × Nat × Nat)} {A C : List Nat} (h : PrS w B pp p1 g1 p2 g2 n lv Ps A C) : w.cell? ⟨pp, 2, none⟩ = some (.pointer (some ⟨p1, 0, none⟩)) := obj_cell h.obj 2
theorem PrS.c3 {w : World} {B pp p1 g1 p2 g2 n : Nat} {lv : Value} {Ps : List (Nat × Nat × Nat)} {A C : List Nat} (h : PrS w B pp p1 g1 p2 g2 n lv Ps A C) : w.cell? ⟨pp, 3, none⟩ = some (.pointer (some ⟨p2, 0, none⟩)) := obj_cell h.obj 3
theorem PrS.kept {S : Nat → Prop} {w w' : World} {B pp p1 g1 p2 g2 n : Nat} {lv : Value} {Ps : List (Nat × Nat × Nat)} {A C : List Nat} (h : PrS w B pp p1 g1 p2 g2 n lv Ps A C) (hk : Kp S w w') (hS : ∀ k, k < w.heap.size → ¬ S k) : PrS w' B pp p1 g1 p2 g2 n lv Ps A C :=
  ⟨(hk.block pp (Array.getElem?_eq_some_iff.1 h.obj).1 (hS pp (Array.getElem?_eq_some_iff.1 h.obj).1)).trans h.obj, hk.own h.row (fun k e => hS k (h.row.lt k e).2), h.s1.kept hk (hS p1 h.s1.ltp) (hS g1 h.s1.ltg), h.s2.kept hk (hS p2 h.s2.ltp) (hS g2 h.s2.ltg), h.nd, h.lt⟩
theorem PrS.below {w w' : World} {B pp p1 g1 p2 g2 n : Nat} {lv : Value} {Ps : List (Nat × Nat × Nat)} {A C : List Nat} (h : PrS w B pp p1 g1 p2 g2 n lv Ps A C) (hb : Below w.heap.size w w') : PrS w' B pp p1 g1 p2 g2 n lv Ps A C :=
  h.kept (Kp.ofBelow (S := fun _ => False) hb) (fun _ _ e => e)
/-- procedures that are read -/
def PRd (w : World) (ao : Option Addr) (Ps : List (Nat × Nat × Nat)) (B : Nat) : Prop :=
  0 < Ps.length → ∃ b off, ao = some ⟨b, off, none⟩ ∧ b < B ∧ ∀ j, j < Ps.length → w.cell? ⟨b, off + j * 4, none⟩ = some (.int .u32 (Ps.getD j (0, 0, 0)).1) ∧ w.cell? ⟨b, off + j * 4 + 1, none⟩ = some (.int .u32 (Ps.getD j (0, 0, 0)).2.1) ∧ w.cell? ⟨b, off + j * 4 + 2, none⟩ = some (.int .u32 (Ps.getD j (0, 0, 0)).2.2) ∧ w.cell? ⟨b, off + j * 4 + 3, none⟩ = some (.int .i64 0)
theorem PRd.below {w w' : World} {ao : Option Addr} {Ps : List (Nat × Nat × Nat)} {B : Nat} (h : PRd w ao Ps B) (hb : Below B w w') : PRd w' ao Ps B := by
  intro hl
  obtain ⟨b, off, e, hlt, hc⟩ := h hl
  exact ⟨b, off, e, hlt, fun j hj => ⟨(hb.cell (p := ⟨b, off + j * 4, none⟩) hlt).trans (hc j hj).1, (hb.cell (p := ⟨b, off + j * 4 + 1, none⟩) hlt).trans (hc j hj).2.1, (hb.cell (p := ⟨b, off + j * 4 + 2, none⟩) hlt).trans (hc j hj).2.2.1, (hb.cell (p := ⟨b, off + j * 4 + 3, none⟩) hlt).trans (hc j hj).2.2.2⟩⟩
theorem PRd.mono {w : World} {ao : Option Addr} {Ps : List (Nat × Nat × Nat)} {B C : Nat} (h : PRd w ao Ps B) (hb : B ≤ C) : PRd w ao Ps C := by
  intro hl
  obtain ⟨b, off, e, hlt, hc⟩ := h hl
  exact ⟨b, off, e, by omega, hc⟩
theorem pv_all : ∀ (P : List (Nat × Nat × Nat)) (m : Nat), m < P.length → (pv P)[m * 4]? = some (.int .u32 ((P.getD m (0, 0, 0)).1 : Nat)) ∧ (pv P)[m * 4 + 1]? = some (.int .u32 ((P.getD m (0, 0, 0)).2.1 : Nat)) ∧ (pv P)[m * 4 + 2]? = some (.int .u32 ((P.getD m (0, 0, 0)).2.2 : Nat)) ∧ (pv P)[m * 4 + 3]? = some (.int .i64 0)
  | [], m, h => by simp at h
  | a :: t, 0, _ => ⟨rfl, rfl, rfl, rfl⟩
  | a :: t, m + 1, h => by
    have := pv_all t m (by simpa using h)
    rw [show (m + 1) * 4 + 1 = (m * 4 + 1) + 4 by omega, show (m + 1) * 4 + 2 = (m * 4 + 2) + 4 by omega, show (m + 1) * 4 + 3 = (m * 4 + 3) + 4 by omega, show (m + 1) * 4 = m * 4 + 4 by omega]
    simpa [pv] using this
theorem PrS.reads {w : World} {B pp p1 g1 p2 g2 n : Nat} {lv : Value} {Ps : List (Nat × Nat × Nat)} {A C : List Nat} (h : PrS w B pp p1 g1 p2 g2 n lv Ps A C) : ∃ ao cap, lv = .slice ao Ps.length cap ∧ PRd w ao Ps w.heap.size := by
  have h' := h.row
  have hlt := h'.lt
  rcases h'.2 with ⟨rfl, hz⟩ | ⟨g, cap, cur, rfl, _⟩
  · exact ⟨none, 0, by rw [hz], fun hp => by omega⟩
  · refine ⟨_, cap, rfl, fun _ => ⟨g, 0, rfl, (hlt g rfl).2, fun j hj => ?_⟩⟩
    obtain ⟨e1, e2, e3, e4⟩ := pv_all Ps j hj
    simp only [Nat.zero_add]
    exact ⟨(h'.cellAt (j * 4) (by omega)).trans e1, (h'.cellAt (j * 4 + 1) (by omega)).trans e2, (h'.cellAt (j * 4 + 2) (by omega)).trans e3, (h'.cellAt (j * 4 + 3) (by omega)).trans e4⟩
theorem pmade_any (a : Nat) (w : World) (hc : w.cell? ⟨a, 0, none⟩ = some (.pointer (some ⟨a, 0, none⟩))) :
    Calls Tryd.prog 41 #[.pointer (some ⟨a, 0, none⟩)] w fun e w' => e = .returned (.bool true) ∧ w' = w := by
  have hq := peq_self a w
  go_enter Tryd.func41, Tryd.ntmps41
  go_wp2
  go_ret
  exact ⟨rfl, rfl⟩
theorem pheld_any (a : Nat) (lv : Value) (w : World) (hc : w.cell? ⟨a, 0, none⟩ = some (.pointer (some ⟨a, 0, none⟩))) (hl : w.cell? ⟨a, 1, none⟩ = some lv) :
    Calls Tryd.prog 38 #[.pointer (some ⟨a, 0, none⟩)] w fun e w' => e = .returned lv ∧ w' = w := by
  have hM := pmade_any a w hc
  go_enter Tryd.func38, Tryd.ntmps38
  go_wp2_with (go_at_call 41; refine hM.mono ?_; rintro e w2 ⟨rfl, hw2⟩; subst hw2)
  go_ret
  exact ⟨rfl, rfl⟩
theorem pcount_any (a n cap : Nat) (ao : Option Addr) (w : World) (hc : w.cell? ⟨a, 0, none⟩ = some (.pointer (some ⟨a, 0, none⟩))) (hl : w.cell? ⟨a, 1, none⟩ = some (.slice ao n cap)) :
    Calls Tryd.prog 12 #[.pointer (some ⟨a, 0, none⟩)] w fun e w' => e = .returned (.int .i64 n) ∧ w' = w := by
  have hM := pheld_any a _ w hc hl
  go_enter Tryd.func12, Tryd.ntmps12
  go_wp2_with (go_at_call 38; refine hM.mono ?_; rintro e w2 ⟨rfl, hw2⟩; subst hw2)
  go_ret
  exact ⟨rfl, rfl⟩
theorem pbegins_any {B pp p1 g1 p2 g2 n : Nat} {lv : Value} {Ps : List (Nat × Nat × Nat)} {A C : List Nat} (x : Nat) (w : World) (hx : x < 4294967296) (h : PrS w B pp p1 g1 p2 g2 n lv Ps A C) :
    Calls Tryd.prog 15 #[.pointer (some ⟨pp, 0, none⟩), .int .u32 x] w fun e w' => e = .returned (.bool (hasW A x)) ∧ w' = w := by
  have hM := pmade_any pp w h.c0
  have c2 := h.c2
  have hH := has_any p1 g1 n x _ A w hx h.s1
  clear h
  go_enter Tryd.func15, Tryd.ntmps15
  go_wp2_with (first | (go_at_call 41; refine hM.mono ?_; rintro e w2 ⟨rfl, hw2⟩; subst hw2) | (go_at_call 42; refine hH.mono ?_; rintro e w2 ⟨rfl, hw2⟩; subst hw2))
  go_ret
  exact ⟨rfl, rfl⟩
end Go.Proofs.YtihnkeflcnndpaaDoor
